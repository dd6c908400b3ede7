/-
  DERIVED. GIVEN WITH THE SEED: THE CARDS: each row of YtnmmmhkafdhfcaaDoorRows.lean that lists a variable, with what it lists TIED to the program's text (the seventh form; the later family's looks); each row that meets fmt, with fmt's text TOLD by the authors' own Lean function (tested against real Go, not proved from fmt's source: count such statements apart). THE CARD IS WHAT COUNTS. Prove the row's statement (the work); the ties are given (YtnmmmhkafdhfcaaDoorTie.lean); close each card by the builder's one call (the guide's Derived/Test/ToyasCard.lean, 'card_holds'). Laid BY PROGRAM, IN A SANDBOX (cutbox-door.mjs). By AI agents, Wed Nov 11 2026. No macro, syntax, notation, axiom, sorry.
-/
import Derived.Test.YtnmmmhkafdhfcaaDoorRows
import GoSem.ClaimSeven
namespace Go.Proofs.YtnmmmhkafdhfcaaDoor
namespace Rows

/-- THE TIED CARD OF 'laws.FnExactRulesOf'. -/
def fnExactRulesOfCard : Claim7 := { stood := { row := fnExactRulesOfRow, standIns := [], harness := (true, "9ee9df60e3a604a719c28ffe0d75ac24b0f75cecef16b5e3ff534437ffdab9ba"), looks := false }, kinds := [], alts := [], laidByText := true, laidKinds := [.data, .sentinel, .pinned], laidTests := true, laidLooks := .later }
def FnExactRulesOfCardSaid : Prop := Claim7.holds Tryd.pinned (.plain (OpenSpec.ofChange fnExactRulesOfSpec)) fnExactRulesOfCard

/-- THE TIED CARD OF 'laws.FnExactSeen'. -/
def fnExactSeenCard : Claim7 := { stood := { row := fnExactSeenRow, standIns := [], harness := (true, "9ee9df60e3a604a719c28ffe0d75ac24b0f75cecef16b5e3ff534437ffdab9ba"), looks := false }, kinds := [], alts := [], laidByText := true, laidKinds := [.data, .sentinel, .pinned], laidTests := true, laidLooks := .later }
def FnExactSeenCardSaid : Prop := Claim7.holds Tryd.pinned (.plain (OpenSpec.ofChange fnExactSeenSpec)) fnExactSeenCard

/-- THE TIED CARD OF 'laws.FnExactLets'. -/
def fnExactLetsCard : Claim7 := { stood := { row := fnExactLetsRow, standIns := [], harness := (true, "9ee9df60e3a604a719c28ffe0d75ac24b0f75cecef16b5e3ff534437ffdab9ba"), looks := false }, kinds := [], alts := [], laidByText := true, laidKinds := [.data, .sentinel, .pinned], laidTests := true, laidLooks := .later }
def FnExactLetsCardSaid : Prop := Claim7.holds Tryd.pinned (.plain (OpenSpec.ofChange fnExactLetsSpec)) fnExactLetsCard

/-- THE SECOND FORM's CARD OF 'laws.FnExactRulesOf'. -/
def fnExactRulesOfUptoCard : Claim7 := { stood := { row := fnExactRulesOfUptoRow, standIns := [], harness := (true, "9ee9df60e3a604a719c28ffe0d75ac24b0f75cecef16b5e3ff534437ffdab9ba"), looks := false }, kinds := [], alts := [], laidByText := true, laidKinds := [.data, .sentinel, .pinned], laidTests := true, laidLooks := .later }
def FnExactRulesOfUptoCardSaid : Prop := Claim7.holds Tryd.pinned (.plain (OpenSpec.upto fnExactRulesOfSpec)) fnExactRulesOfUptoCard

/-- THE SECOND FORM's CARD OF 'laws.FnExactSeen'. -/
def fnExactSeenUptoCard : Claim7 := { stood := { row := fnExactSeenUptoRow, standIns := [], harness := (true, "9ee9df60e3a604a719c28ffe0d75ac24b0f75cecef16b5e3ff534437ffdab9ba"), looks := false }, kinds := [], alts := [], laidByText := true, laidKinds := [.data, .sentinel, .pinned], laidTests := true, laidLooks := .later }
def FnExactSeenUptoCardSaid : Prop := Claim7.holds Tryd.pinned (.plain (OpenSpec.upto fnExactSeenSpec)) fnExactSeenUptoCard

/-- THE SECOND FORM's CARD OF 'laws.FnExactLets'. -/
def fnExactLetsUptoCard : Claim7 := { stood := { row := fnExactLetsUptoRow, standIns := [], harness := (true, "9ee9df60e3a604a719c28ffe0d75ac24b0f75cecef16b5e3ff534437ffdab9ba"), looks := false }, kinds := [], alts := [], laidByText := true, laidKinds := [.data, .sentinel, .pinned], laidTests := true, laidLooks := .later }
def FnExactLetsUptoCardSaid : Prop := Claim7.holds Tryd.pinned (.plain (OpenSpec.upto fnExactLetsSpec)) fnExactLetsUptoCard
end Rows
end Go.Proofs.YtnmmmhkafdhfcaaDoor
