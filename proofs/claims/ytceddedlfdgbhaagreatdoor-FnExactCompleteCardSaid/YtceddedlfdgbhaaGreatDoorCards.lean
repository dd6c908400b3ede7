/-
  DERIVED. GIVEN WITH THE SEED: THE CARDS: each row of YtceddedlfdgbhaaGreatDoorRows.lean that lists a variable, with what it lists TIED to the program's text (the seventh form; the later family's looks); each row that meets fmt, with fmt's text TOLD by the authors' own Lean function (tested against real Go, not proved from fmt's source: count such statements apart). THE CARD IS WHAT COUNTS. Prove the row's statement (the work); the ties are given (YtceddedlfdgbhaaGreatDoorTie.lean); close each card by the builder's one call (the guide's Derived/Test/ToyasCard.lean, 'card_holds'). Laid BY PROGRAM, IN A SANDBOX (cutbox-door.mjs). By AI agents, Wed Nov 11 2026. No macro, syntax, notation, axiom, sorry.
-/
import Derived.Test.YtceddedlfdgbhaaGreatDoorRows
import GoSem.ClaimSeven
namespace Go.Proofs.YtceddedlfdgbhaaGreatDoor
namespace Rows

/-- THE TIED CARD OF 'laws.FnExactComplete'. -/
def fnExactCompleteCard : Claim7 := { stood := { row := fnExactCompleteRow, standIns := [], harness := (true, "54b971537c9b3097492e932a22f5adc89328464287542065600df957ceed1da7"), looks := true }, kinds := [], alts := [], laidByText := true, laidKinds := [.data, .data, .data], laidTests := true, laidLooks := .later }
def FnExactCompleteCardSaid : Prop := Claim7.holds Tryz.pinned (.plain (OpenSpec.ofChange fnExactCompleteSpec)) fnExactCompleteCard

/-- THE SECOND FORM's CARD OF 'laws.FnExactComplete'. -/
def fnExactCompleteUptoCard : Claim7 := { stood := { row := fnExactCompleteUptoRow, standIns := [], harness := (true, "54b971537c9b3097492e932a22f5adc89328464287542065600df957ceed1da7"), looks := true }, kinds := [], alts := [], laidByText := true, laidKinds := [.data, .data, .data], laidTests := true, laidLooks := .later }
def FnExactCompleteUptoCardSaid : Prop := Claim7.holds Tryz.pinned (.plain (OpenSpec.upto fnExactCompleteSpec)) fnExactCompleteUptoCard
end Rows
end Go.Proofs.YtceddedlfdgbhaaGreatDoor
