/-
  DERIVED. GIVEN WITH THE SEED: THE CARDS: each row of YtgbnkkjjgodilaaGreatDoorRows.lean that lists a variable, with what it lists TIED to the program's text (the seventh form; the later family's looks); each row that meets fmt, with fmt's text TOLD by the authors' own Lean function (tested against real Go, not proved from fmt's source: count such statements apart). THE CARD IS WHAT COUNTS. Prove the row's statement (the work); the ties are given (YtgbnkkjjgodilaaGreatDoorTie.lean); close each card by the builder's one call (the guide's Derived/Test/ToyasCard.lean, 'card_holds'). Laid BY PROGRAM, IN A SANDBOX (cutbox-door.mjs). By AI agents, Wed Nov 11 2026. No macro, syntax, notation, axiom, sorry.
-/
import Derived.Test.YtgbnkkjjgodilaaGreatDoorRows
import GoSem.ClaimSeven
namespace Go.Proofs.YtgbnkkjjgodilaaGreatDoor
namespace Rows

/-- THE TIED CARD OF 'laws.FnExactClusterOk'. -/
def fnExactClusterOkCard : Claim7 := { stood := { row := fnExactClusterOkRow, standIns := [], harness := (true, "91bddde6460751275fcec305add94913de915fb269229a61010e63c5c662b0f8"), looks := true }, kinds := [], alts := [], laidByText := true, laidKinds := [.data, .data, .data], laidTests := true, laidLooks := .later }
def FnExactClusterOkCardSaid : Prop := Claim7.holds Tryz.pinned (.plain (OpenSpec.ofChange fnExactClusterOkSpec)) fnExactClusterOkCard

/-- THE TIED CARD OF 'laws.FnExactSettled'. -/
def fnExactSettledCard : Claim7 := { stood := { row := fnExactSettledRow, standIns := [], harness := (true, "91bddde6460751275fcec305add94913de915fb269229a61010e63c5c662b0f8"), looks := true }, kinds := [], alts := [], laidByText := true, laidKinds := [.data, .data, .data], laidTests := true, laidLooks := .later }
def FnExactSettledCardSaid : Prop := Claim7.holds Tryz.pinned (.plain (OpenSpec.ofChange fnExactSettledSpec)) fnExactSettledCard

/-- THE SECOND FORM's CARD OF 'laws.FnExactClusterOk'. -/
def fnExactClusterOkUptoCard : Claim7 := { stood := { row := fnExactClusterOkUptoRow, standIns := [], harness := (true, "91bddde6460751275fcec305add94913de915fb269229a61010e63c5c662b0f8"), looks := true }, kinds := [], alts := [], laidByText := true, laidKinds := [.data, .data, .data], laidTests := true, laidLooks := .later }
def FnExactClusterOkUptoCardSaid : Prop := Claim7.holds Tryz.pinned (.plain (OpenSpec.upto fnExactClusterOkSpec)) fnExactClusterOkUptoCard

/-- THE SECOND FORM's CARD OF 'laws.FnExactSettled'. -/
def fnExactSettledUptoCard : Claim7 := { stood := { row := fnExactSettledUptoRow, standIns := [], harness := (true, "91bddde6460751275fcec305add94913de915fb269229a61010e63c5c662b0f8"), looks := true }, kinds := [], alts := [], laidByText := true, laidKinds := [.data, .data, .data], laidTests := true, laidLooks := .later }
def FnExactSettledUptoCardSaid : Prop := Claim7.holds Tryz.pinned (.plain (OpenSpec.upto fnExactSettledSpec)) fnExactSettledUptoCard
end Rows
end Go.Proofs.YtgbnkkjjgodilaaGreatDoor
