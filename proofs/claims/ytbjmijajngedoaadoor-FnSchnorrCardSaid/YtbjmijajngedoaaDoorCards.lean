/-
  DERIVED. GIVEN WITH THE SEED: THE CARDS: each row of YtbjmijajngedoaaDoorRows.lean that lists a variable, with what it lists TIED to the program's text (the seventh form; the later family's looks); each row that meets fmt, with fmt's text TOLD by the authors' own Lean function (tested against real Go, not proved from fmt's source: count such statements apart). THE CARD IS WHAT COUNTS. Prove the row's statement (the work); the ties are given (YtbjmijajngedoaaDoorTie.lean); close each card by the builder's one call (the guide's Derived/Test/ToyasCard.lean, 'card_holds'). Laid BY PROGRAM, IN A SANDBOX (cutbox-door.mjs). By AI agents, Wed Nov 11 2026. No macro, syntax, notation, axiom, sorry.
-/
import Derived.Test.YtbjmijajngedoaaDoorRows
import GoSem.ClaimSeven
namespace Go.Proofs.YtbjmijajngedoaaDoor
namespace Rows

/-- THE TIED CARD OF 'laws.FnSchnorr'. -/
def fnSchnorrCard : Claim7 := { stood := { row := fnSchnorrRow, standIns := [], harness := (true, "b5c8ee19ed266ba7e0c4cef473e607b58437db1abacc6038f89b18b326210750"), looks := false }, kinds := [], alts := [], laidByText := true, laidKinds := [.data, .data, .data], laidTests := true, laidLooks := .later }
def FnSchnorrCardSaid : Prop := Claim7.holds Tryd.pinned (.plain (OpenSpec.ofChange fnSchnorrSpec)) fnSchnorrCard

/-- THE TIED CARD OF 'laws.FnExactChallenge'. -/
def fnExactChallengeCard : Claim7 := { stood := { row := fnExactChallengeRow, standIns := [], harness := (true, "b5c8ee19ed266ba7e0c4cef473e607b58437db1abacc6038f89b18b326210750"), looks := false }, kinds := [], alts := [], laidByText := true, laidKinds := [.data, .data, .data], laidTests := true, laidLooks := .later }
def FnExactChallengeCardSaid : Prop := Claim7.holds Tryd.pinned (.plain (OpenSpec.ofChange fnExactChallengeSpec)) fnExactChallengeCard

/-- THE TIED CARD OF 'laws.FnExactSigned'. -/
def fnExactSignedCard : Claim7 := { stood := { row := fnExactSignedRow, standIns := [], harness := (true, "b5c8ee19ed266ba7e0c4cef473e607b58437db1abacc6038f89b18b326210750"), looks := false }, kinds := [], alts := [], laidByText := true, laidKinds := [.data, .data, .data], laidTests := true, laidLooks := .later }
def FnExactSignedCardSaid : Prop := Claim7.holds Tryd.pinned (.plain (OpenSpec.ofChange fnExactSignedSpec)) fnExactSignedCard

/-- THE SECOND FORM's CARD OF 'laws.FnSchnorr'. -/
def fnSchnorrUptoCard : Claim7 := { stood := { row := fnSchnorrUptoRow, standIns := [], harness := (true, "b5c8ee19ed266ba7e0c4cef473e607b58437db1abacc6038f89b18b326210750"), looks := false }, kinds := [], alts := [], laidByText := true, laidKinds := [.data, .data, .data], laidTests := true, laidLooks := .later }
def FnSchnorrUptoCardSaid : Prop := Claim7.holds Tryd.pinned (.plain (OpenSpec.upto fnSchnorrSpec)) fnSchnorrUptoCard

/-- THE SECOND FORM's CARD OF 'laws.FnExactChallenge'. -/
def fnExactChallengeUptoCard : Claim7 := { stood := { row := fnExactChallengeUptoRow, standIns := [], harness := (true, "b5c8ee19ed266ba7e0c4cef473e607b58437db1abacc6038f89b18b326210750"), looks := false }, kinds := [], alts := [], laidByText := true, laidKinds := [.data, .data, .data], laidTests := true, laidLooks := .later }
def FnExactChallengeUptoCardSaid : Prop := Claim7.holds Tryd.pinned (.plain (OpenSpec.upto fnExactChallengeSpec)) fnExactChallengeUptoCard

/-- THE SECOND FORM's CARD OF 'laws.FnExactSigned'. -/
def fnExactSignedUptoCard : Claim7 := { stood := { row := fnExactSignedUptoRow, standIns := [], harness := (true, "b5c8ee19ed266ba7e0c4cef473e607b58437db1abacc6038f89b18b326210750"), looks := false }, kinds := [], alts := [], laidByText := true, laidKinds := [.data, .data, .data], laidTests := true, laidLooks := .later }
def FnExactSignedUptoCardSaid : Prop := Claim7.holds Tryd.pinned (.plain (OpenSpec.upto fnExactSignedSpec)) fnExactSignedUptoCard
end Rows
end Go.Proofs.YtbjmijajngedoaaDoor
