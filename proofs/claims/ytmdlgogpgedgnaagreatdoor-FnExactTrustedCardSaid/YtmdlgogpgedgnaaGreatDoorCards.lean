/-
  DERIVED. GIVEN WITH THE SEED: THE CARDS: each row of YtmdlgogpgedgnaaGreatDoorRows.lean that lists a variable, with what it lists TIED to the program's text (the seventh form; the later family's looks); each row that meets fmt, with fmt's text TOLD by the authors' own Lean function (tested against real Go, not proved from fmt's source: count such statements apart). THE CARD IS WHAT COUNTS. Prove the row's statement (the work); the ties are given (YtmdlgogpgedgnaaGreatDoorTie.lean); close each card by the builder's one call (the guide's Derived/Test/ToyasCard.lean, 'card_holds'). Laid BY PROGRAM, IN A SANDBOX (cutbox-door.mjs). By AI agents, Wed Nov 11 2026. No macro, syntax, notation, axiom, sorry.
-/
import Derived.Test.YtmdlgogpgedgnaaGreatDoorRows
import GoSem.ClaimSeven
namespace Go.Proofs.YtmdlgogpgedgnaaGreatDoor
namespace Rows

/-- THE TIED CARD OF 'laws.FnExactTrusted'. -/
def fnExactTrustedCard : Claim7 := { stood := { row := fnExactTrustedRow, standIns := [], harness := (true, "7d7068e1156a9c3edfea8aaf40f5f1c57d2ebf3656b266dac68756c6a5916022"), looks := true }, kinds := [], alts := [], laidByText := true, laidKinds := [.data, .data, .data, .handle, .sentinel, .sentinel, .sentinel, .sentinel], laidTests := true, laidLooks := .later }
def FnExactTrustedCardSaid : Prop := Claim7.holds Tryz.pinned (.plain (OpenSpec.ofChange fnExactTrustedSpec)) fnExactTrustedCard

/-- THE SECOND FORM's CARD OF 'laws.FnExactTrusted'. -/
def fnExactTrustedUptoCard : Claim7 := { stood := { row := fnExactTrustedUptoRow, standIns := [], harness := (true, "7d7068e1156a9c3edfea8aaf40f5f1c57d2ebf3656b266dac68756c6a5916022"), looks := true }, kinds := [], alts := [], laidByText := true, laidKinds := [.data, .data, .data, .handle, .sentinel, .sentinel, .sentinel, .sentinel], laidTests := true, laidLooks := .later }
def FnExactTrustedUptoCardSaid : Prop := Claim7.holds Tryz.pinned (.plain (OpenSpec.upto fnExactTrustedSpec)) fnExactTrustedUptoCard
end Rows
end Go.Proofs.YtmdlgogpgedgnaaGreatDoor
