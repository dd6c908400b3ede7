/-
  DERIVED. GIVEN WITH THE SEED: THE CARDS: each row of YtoijollhmchalaaDoorRows.lean that lists a variable, with what it lists TIED to the program's text (the seventh form; the later family's looks); each row that meets fmt, with fmt's text TOLD by the authors' own Lean function (tested against real Go, not proved from fmt's source: count such statements apart). THE CARD IS WHAT COUNTS. Prove the row's statement (the work); the ties are given (YtoijollhmchalaaDoorTie.lean); close each card by the builder's one call (the guide's Derived/Test/ToyasCard.lean, 'card_holds'). Laid BY PROGRAM, IN A SANDBOX (cutbox-door.mjs). By AI agents, Wed Nov 11 2026. No macro, syntax, notation, axiom, sorry.
-/
import Derived.Test.YtoijollhmchalaaDoorRows
import GoSem.ClaimSeven
namespace Go.Proofs.YtoijollhmchalaaDoor
namespace Rows

/-- THE TIED CARD OF 'laws.FnLogs'. -/
def fnLogsCard : Claim7 := { stood := { row := fnLogsRow, standIns := [], harness := (true, "9ab4f1656db544c4279b8fa1b3539260fc5ef5f25e5b87d59d0970534a0d8030"), looks := false }, kinds := [], alts := [], laidByText := true, laidKinds := [.data, .data, .data], laidTests := true, laidLooks := .later }
def FnLogsCardSaid : Prop := Claim7.holds Tryd.pinned (.plain (OpenSpec.ofChange fnLogsSpec)) fnLogsCard

/-- THE TIED CARD OF 'laws.FnExactLogOk'. -/
def fnExactLogOkCard : Claim7 := { stood := { row := fnExactLogOkRow, standIns := [], harness := (true, "9ab4f1656db544c4279b8fa1b3539260fc5ef5f25e5b87d59d0970534a0d8030"), looks := false }, kinds := [], alts := [], laidByText := true, laidKinds := [.data, .data, .data], laidTests := true, laidLooks := .later }
def FnExactLogOkCardSaid : Prop := Claim7.holds Tryd.pinned (.plain (OpenSpec.ofChange fnExactLogOkSpec)) fnExactLogOkCard

/-- THE TIED CARD OF 'laws.FnExactNoted'. -/
def fnExactNotedCard : Claim7 := { stood := { row := fnExactNotedRow, standIns := [], harness := (true, "9ab4f1656db544c4279b8fa1b3539260fc5ef5f25e5b87d59d0970534a0d8030"), looks := false }, kinds := [], alts := [], laidByText := true, laidKinds := [.data, .data, .data], laidTests := true, laidLooks := .later }
def FnExactNotedCardSaid : Prop := Claim7.holds Tryd.pinned (.plain (OpenSpec.ofChange fnExactNotedSpec)) fnExactNotedCard

/-- THE TIED CARD OF 'laws.FnExactHead'. -/
def fnExactHeadCard : Claim7 := { stood := { row := fnExactHeadRow, standIns := [], harness := (true, "9ab4f1656db544c4279b8fa1b3539260fc5ef5f25e5b87d59d0970534a0d8030"), looks := false }, kinds := [], alts := [], laidByText := true, laidKinds := [.data, .data, .data], laidTests := true, laidLooks := .later }
def FnExactHeadCardSaid : Prop := Claim7.holds Tryd.pinned (.plain (OpenSpec.ofChange fnExactHeadSpec)) fnExactHeadCard

/-- THE TIED CARD OF 'laws.FnExactSame'. -/
def fnExactSameCard : Claim7 := { stood := { row := fnExactSameRow, standIns := [], harness := (true, "9ab4f1656db544c4279b8fa1b3539260fc5ef5f25e5b87d59d0970534a0d8030"), looks := false }, kinds := [], alts := [], laidByText := true, laidKinds := [.data, .data, .data], laidTests := true, laidLooks := .later }
def FnExactSameCardSaid : Prop := Claim7.holds Tryd.pinned (.plain (OpenSpec.ofChange fnExactSameSpec)) fnExactSameCard

/-- THE SECOND FORM's CARD OF 'laws.FnLogs'. -/
def fnLogsUptoCard : Claim7 := { stood := { row := fnLogsUptoRow, standIns := [], harness := (true, "9ab4f1656db544c4279b8fa1b3539260fc5ef5f25e5b87d59d0970534a0d8030"), looks := false }, kinds := [], alts := [], laidByText := true, laidKinds := [.data, .data, .data], laidTests := true, laidLooks := .later }
def FnLogsUptoCardSaid : Prop := Claim7.holds Tryd.pinned (.plain (OpenSpec.upto fnLogsSpec)) fnLogsUptoCard

/-- THE SECOND FORM's CARD OF 'laws.FnExactLogOk'. -/
def fnExactLogOkUptoCard : Claim7 := { stood := { row := fnExactLogOkUptoRow, standIns := [], harness := (true, "9ab4f1656db544c4279b8fa1b3539260fc5ef5f25e5b87d59d0970534a0d8030"), looks := false }, kinds := [], alts := [], laidByText := true, laidKinds := [.data, .data, .data], laidTests := true, laidLooks := .later }
def FnExactLogOkUptoCardSaid : Prop := Claim7.holds Tryd.pinned (.plain (OpenSpec.upto fnExactLogOkSpec)) fnExactLogOkUptoCard

/-- THE SECOND FORM's CARD OF 'laws.FnExactNoted'. -/
def fnExactNotedUptoCard : Claim7 := { stood := { row := fnExactNotedUptoRow, standIns := [], harness := (true, "9ab4f1656db544c4279b8fa1b3539260fc5ef5f25e5b87d59d0970534a0d8030"), looks := false }, kinds := [], alts := [], laidByText := true, laidKinds := [.data, .data, .data], laidTests := true, laidLooks := .later }
def FnExactNotedUptoCardSaid : Prop := Claim7.holds Tryd.pinned (.plain (OpenSpec.upto fnExactNotedSpec)) fnExactNotedUptoCard

/-- THE SECOND FORM's CARD OF 'laws.FnExactHead'. -/
def fnExactHeadUptoCard : Claim7 := { stood := { row := fnExactHeadUptoRow, standIns := [], harness := (true, "9ab4f1656db544c4279b8fa1b3539260fc5ef5f25e5b87d59d0970534a0d8030"), looks := false }, kinds := [], alts := [], laidByText := true, laidKinds := [.data, .data, .data], laidTests := true, laidLooks := .later }
def FnExactHeadUptoCardSaid : Prop := Claim7.holds Tryd.pinned (.plain (OpenSpec.upto fnExactHeadSpec)) fnExactHeadUptoCard

/-- THE SECOND FORM's CARD OF 'laws.FnExactSame'. -/
def fnExactSameUptoCard : Claim7 := { stood := { row := fnExactSameUptoRow, standIns := [], harness := (true, "9ab4f1656db544c4279b8fa1b3539260fc5ef5f25e5b87d59d0970534a0d8030"), looks := false }, kinds := [], alts := [], laidByText := true, laidKinds := [.data, .data, .data], laidTests := true, laidLooks := .later }
def FnExactSameUptoCardSaid : Prop := Claim7.holds Tryd.pinned (.plain (OpenSpec.upto fnExactSameSpec)) fnExactSameUptoCard
end Rows
end Go.Proofs.YtoijollhmchalaaDoor
