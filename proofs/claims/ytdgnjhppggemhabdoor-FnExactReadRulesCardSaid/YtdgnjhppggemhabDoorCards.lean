/-
  DERIVED. GIVEN WITH THE SEED: THE CARDS: each row of YtdgnjhppggemhabDoorRows.lean that lists a variable, with what it lists TIED to the program's text (the seventh form; the later family's looks); each row that meets fmt, with fmt's text TOLD by the authors' own Lean function (tested against real Go, not proved from fmt's source: count such statements apart). THE CARD IS WHAT COUNTS. Prove the row's statement (the work); the ties are given (YtdgnjhppggemhabDoorTie.lean); close each card by the builder's one call (the guide's Derived/Test/ToyasCard.lean, 'card_holds'). Laid BY PROGRAM, IN A SANDBOX (cutbox-door.mjs). By AI agents, Wed Nov 11 2026. No macro, syntax, notation, axiom, sorry.
-/
import Derived.Test.YtdgnjhppggemhabDoorRows
import GoSem.ClaimSeven
namespace Go.Proofs.YtdgnjhppggemhabDoor
namespace Rows

/-- THE TIED CARD OF 'laws.FnExactReadRules'. -/
def fnExactReadRulesCard : Claim7 := { stood := { row := fnExactReadRulesRow, standIns := [], harness := (true, "1e2f6ebba8bcc3ac647103c8b60614f3b3910b7c09669b9778c22349491ffb2e"), looks := false }, kinds := [], alts := [], laidByText := true, laidKinds := [.data, .pinned], laidTests := true, laidLooks := .later }
def FnExactReadRulesCardSaid : Prop := Claim7.holds Tryd.pinned (.plain (OpenSpec.ofChange fnExactReadRulesSpec)) fnExactReadRulesCard

/-- THE SECOND FORM's CARD OF 'laws.FnExactReadRules'. -/
def fnExactReadRulesUptoCard : Claim7 := { stood := { row := fnExactReadRulesUptoRow, standIns := [], harness := (true, "1e2f6ebba8bcc3ac647103c8b60614f3b3910b7c09669b9778c22349491ffb2e"), looks := false }, kinds := [], alts := [], laidByText := true, laidKinds := [.data, .pinned], laidTests := true, laidLooks := .later }
def FnExactReadRulesUptoCardSaid : Prop := Claim7.holds Tryd.pinned (.plain (OpenSpec.upto fnExactReadRulesSpec)) fnExactReadRulesUptoCard
end Rows
end Go.Proofs.YtdgnjhppggemhabDoor
