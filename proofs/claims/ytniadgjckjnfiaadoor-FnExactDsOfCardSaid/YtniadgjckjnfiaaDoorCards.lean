/-
  DERIVED. GIVEN WITH THE SEED: THE CARDS: each row of YtniadgjckjnfiaaDoorRows.lean that lists a variable, with what it lists TIED to the program's text (the seventh form; the later family's looks); each row that meets fmt, with fmt's text TOLD by the authors' own Lean function (tested against real Go, not proved from fmt's source: count such statements apart). THE CARD IS WHAT COUNTS. Prove the row's statement (the work); the ties are given (YtniadgjckjnfiaaDoorTie.lean); close each card by the builder's one call (the guide's Derived/Test/ToyasCard.lean, 'card_holds'). Laid BY PROGRAM, IN A SANDBOX (cutbox-door.mjs). By AI agents, Wed Nov 11 2026. No macro, syntax, notation, axiom, sorry.
-/
import Derived.Test.YtniadgjckjnfiaaDoorRows
import GoSem.ClaimSeven
namespace Go.Proofs.YtniadgjckjnfiaaDoor
namespace Rows

/-- THE TIED CARD OF 'laws.FnExactSealOf'. -/
def fnExactSealOfCard : Claim7 := { stood := { row := fnExactSealOfRow, standIns := [], harness := (true, "1870000d0ade541ca2dc23333e8f72b353b16fa3e0e59de54917b446bf30625c"), looks := false }, kinds := [], alts := [], laidByText := true, laidKinds := [.data, .data, .data], laidTests := true, laidLooks := .later }
def FnExactSealOfCardSaid : Prop := Claim7.holds Tryd.pinned (.plain (OpenSpec.ofChange fnExactSealOfSpec)) fnExactSealOfCard

/-- THE TIED CARD OF 'laws.FnExactHolds'. -/
def fnExactHoldsCard : Claim7 := { stood := { row := fnExactHoldsRow, standIns := [], harness := (true, "1870000d0ade541ca2dc23333e8f72b353b16fa3e0e59de54917b446bf30625c"), looks := false }, kinds := [], alts := [], laidByText := true, laidKinds := [.data, .data, .data, .sentinel, .sentinel, .sentinel], laidTests := true, laidLooks := .later }
def FnExactHoldsCardSaid : Prop := Claim7.holds Tryd.pinned (.plain (OpenSpec.ofChange fnExactHoldsSpec)) fnExactHoldsCard

/-- THE TIED CARD OF 'laws.FnExactKeysText'. -/
def fnExactKeysTextCard : Claim7 := { stood := { row := fnExactKeysTextRow, standIns := [], harness := (true, "1870000d0ade541ca2dc23333e8f72b353b16fa3e0e59de54917b446bf30625c"), looks := false }, kinds := [], alts := [], laidByText := true, laidKinds := [.data, .data, .data, .sentinel, .sentinel], laidTests := true, laidLooks := .later }
def FnExactKeysTextCardSaid : Prop := Claim7.holds Tryd.pinned (.plain (OpenSpec.ofChange fnExactKeysTextSpec)) fnExactKeysTextCard

/-- THE TIED CARD OF 'laws.FnExactDsOf'. -/
def fnExactDsOfCard : Claim7 := { stood := { row := fnExactDsOfRow, standIns := [], harness := (true, "1870000d0ade541ca2dc23333e8f72b353b16fa3e0e59de54917b446bf30625c"), looks := false }, kinds := [], alts := [], laidByText := true, laidKinds := [.data, .data, .data, .sentinel], laidTests := true, laidLooks := .later }
def FnExactDsOfCardSaid : Prop := Claim7.holds Tryd.pinned (.plain (OpenSpec.ofChange fnExactDsOfSpec)) fnExactDsOfCard

/-- THE SECOND FORM's CARD OF 'laws.FnExactSealOf'. -/
def fnExactSealOfUptoCard : Claim7 := { stood := { row := fnExactSealOfUptoRow, standIns := [], harness := (true, "1870000d0ade541ca2dc23333e8f72b353b16fa3e0e59de54917b446bf30625c"), looks := false }, kinds := [], alts := [], laidByText := true, laidKinds := [.data, .data, .data], laidTests := true, laidLooks := .later }
def FnExactSealOfUptoCardSaid : Prop := Claim7.holds Tryd.pinned (.plain (OpenSpec.upto fnExactSealOfSpec)) fnExactSealOfUptoCard

/-- THE SECOND FORM's CARD OF 'laws.FnExactHolds'. -/
def fnExactHoldsUptoCard : Claim7 := { stood := { row := fnExactHoldsUptoRow, standIns := [], harness := (true, "1870000d0ade541ca2dc23333e8f72b353b16fa3e0e59de54917b446bf30625c"), looks := false }, kinds := [], alts := [], laidByText := true, laidKinds := [.data, .data, .data, .sentinel, .sentinel, .sentinel], laidTests := true, laidLooks := .later }
def FnExactHoldsUptoCardSaid : Prop := Claim7.holds Tryd.pinned (.plain (OpenSpec.upto fnExactHoldsSpec)) fnExactHoldsUptoCard

/-- THE SECOND FORM's CARD OF 'laws.FnExactKeysText'. -/
def fnExactKeysTextUptoCard : Claim7 := { stood := { row := fnExactKeysTextUptoRow, standIns := [], harness := (true, "1870000d0ade541ca2dc23333e8f72b353b16fa3e0e59de54917b446bf30625c"), looks := false }, kinds := [], alts := [], laidByText := true, laidKinds := [.data, .data, .data, .sentinel, .sentinel], laidTests := true, laidLooks := .later }
def FnExactKeysTextUptoCardSaid : Prop := Claim7.holds Tryd.pinned (.plain (OpenSpec.upto fnExactKeysTextSpec)) fnExactKeysTextUptoCard

/-- THE SECOND FORM's CARD OF 'laws.FnExactDsOf'. -/
def fnExactDsOfUptoCard : Claim7 := { stood := { row := fnExactDsOfUptoRow, standIns := [], harness := (true, "1870000d0ade541ca2dc23333e8f72b353b16fa3e0e59de54917b446bf30625c"), looks := false }, kinds := [], alts := [], laidByText := true, laidKinds := [.data, .data, .data, .sentinel], laidTests := true, laidLooks := .later }
def FnExactDsOfUptoCardSaid : Prop := Claim7.holds Tryd.pinned (.plain (OpenSpec.upto fnExactDsOfSpec)) fnExactDsOfUptoCard
end Rows
end Go.Proofs.YtniadgjckjnfiaaDoor
