/-
  DERIVED. GIVEN WITH THE SEED: THE CARDS: each row of YtbjmijajngedoabDoorRows.lean that lists a variable, with what it lists TIED to the program's text (the seventh form; the later family's looks); each row that meets fmt, with fmt's text TOLD by the authors' own Lean function (tested against real Go, not proved from fmt's source: count such statements apart). THE CARD IS WHAT COUNTS. Prove the row's statement (the work); the ties are given (YtbjmijajngedoabDoorTie.lean); close each card by the builder's one call (the guide's Derived/Test/ToyasCard.lean, 'card_holds'). Laid BY PROGRAM, IN A SANDBOX (cutbox-door.mjs). By AI agents, Wed Nov 11 2026. No macro, syntax, notation, axiom, sorry.
-/
import Derived.Test.YtbjmijajngedoabDoorRows
import GoSem.ClaimSeven
namespace Go.Proofs.YtbjmijajngedoabDoor
namespace Rows

/-- THE TIED CARD OF 'laws.FnExactValid'. -/
def fnExactValidCard : Claim7 := { stood := { row := fnExactValidRow, standIns := [], harness := (true, "6affdfb7229fe6724d2d3c339fc8da27dec5a242b05f7223bc947e0533bdb5f1"), looks := false }, kinds := [], alts := [], laidByText := true, laidKinds := [.data, .data, .data], laidTests := true, laidLooks := .later }
def FnExactValidCardSaid : Prop := Claim7.holds Tryd.pinned (.plain (OpenSpec.ofChange fnExactValidSpec)) fnExactValidCard

/-- THE SECOND FORM's CARD OF 'laws.FnExactValid'. -/
def fnExactValidUptoCard : Claim7 := { stood := { row := fnExactValidUptoRow, standIns := [], harness := (true, "6affdfb7229fe6724d2d3c339fc8da27dec5a242b05f7223bc947e0533bdb5f1"), looks := false }, kinds := [], alts := [], laidByText := true, laidKinds := [.data, .data, .data], laidTests := true, laidLooks := .later }
def FnExactValidUptoCardSaid : Prop := Claim7.holds Tryd.pinned (.plain (OpenSpec.upto fnExactValidSpec)) fnExactValidUptoCard
end Rows
end Go.Proofs.YtbjmijajngedoabDoor
