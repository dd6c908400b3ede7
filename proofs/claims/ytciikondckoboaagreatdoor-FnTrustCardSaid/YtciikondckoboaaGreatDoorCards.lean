/-
  DERIVED. GIVEN WITH THE SEED: THE CARDS: each row of YtciikondckoboaaGreatDoorRows.lean that lists a variable, with what it lists TIED to the program's text (the seventh form; the later family's looks); each row that meets fmt, with fmt's text TOLD by the authors' own Lean function (tested against real Go, not proved from fmt's source: count such statements apart). THE CARD IS WHAT COUNTS. Prove the row's statement (the work); the ties are given (YtciikondckoboaaGreatDoorTie.lean); close each card by the builder's one call (the guide's Derived/Test/ToyasCard.lean, 'card_holds'). Laid BY PROGRAM, IN A SANDBOX (cutbox-door.mjs). By AI agents, Wed Nov 11 2026. No macro, syntax, notation, axiom, sorry.
-/
import Derived.Test.YtciikondckoboaaGreatDoorRows
import GoSem.ClaimSeven
namespace Go.Proofs.YtciikondckoboaaGreatDoor
namespace Rows

/-- THE TIED CARD OF 'laws.FnTrust'. -/
def fnTrustCard : Claim7 := { stood := { row := fnTrustRow, standIns := [], harness := (true, "409ae68694f88f4960b3403d3b7944f6e959971edc02343518bd5d111f830c95"), looks := true }, kinds := [], alts := [], laidByText := true, laidKinds := [.data, .data, .data, .handle, .sentinel, .sentinel, .sentinel, .sentinel], laidTests := true, laidLooks := .later }
def FnTrustCardSaid : Prop := Claim7.holds Tryz.pinned (.plain (OpenSpec.ofChange fnTrustSpec)) fnTrustCard

/-- THE SECOND FORM's CARD OF 'laws.FnTrust'. -/
def fnTrustUptoCard : Claim7 := { stood := { row := fnTrustUptoRow, standIns := [], harness := (true, "409ae68694f88f4960b3403d3b7944f6e959971edc02343518bd5d111f830c95"), looks := true }, kinds := [], alts := [], laidByText := true, laidKinds := [.data, .data, .data, .handle, .sentinel, .sentinel, .sentinel, .sentinel], laidTests := true, laidLooks := .later }
def FnTrustUptoCardSaid : Prop := Claim7.holds Tryz.pinned (.plain (OpenSpec.upto fnTrustSpec)) fnTrustUptoCard
end Rows
end Go.Proofs.YtciikondckoboaaGreatDoor
