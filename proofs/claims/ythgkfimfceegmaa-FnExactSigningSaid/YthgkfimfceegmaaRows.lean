/-
  No cell of these rows narrows 'for every input' (looked for: loops, veiled, ifaces, maps, wideKeys, modest, calm, conditions, laid).
  DERIVED. THE GIVEN ROWS OF THIS SEAT. 4 by the template 'for every input the law returns true; each argument reads behind the call as it read before'; 0 by the template 'total and deterministic' (their statements: YthgkfimfceegmaaTotals.lean).
  GIVEN WITH THE SEED: the statements are not yours to turn. If you find one false, say at which input.
  Laid BY PROGRAM, IN A SANDBOX (cutbox-rows.mjs): the forced cells as the released guide's own fill.sh prints them over the translation 14a2a7a974481f6f… (all of the seat's roots in one cut). By AI agents, Wed Nov 11 2026. No macro, syntax, notation, axiom, sorry.
-/
import Derived.Test.YthgkfimfceegmaaChecked
import GoSem.Claim
import GoSem.ClaimJoined
import GoSem.ClaimMapViews
import Derived.JoinedTies
import Derived.KernelRfl
namespace Go.Proofs.Ythgkfimfceegmaa
/- THE CELL 'sum', in the pinned program and in every row, IS THE sha256 OF THE DUMP (.gsa) THAT YthgkfimfceegmaaProg.lean LOADS. Nothing in Lean hashes anything: it is a label: what it is worth is what the hold of that sum in a sandbox is worth. -/
noncomputable def Try.pinned : Pinned := { name := "ythgkfimfceegmaa", sum := "14a2a7a974481f6f475831ce39ab38bd4345788eaf7d41bc80c39aceaed9941f", checked := Try.checked }
namespace Rows
def none {H : Type} : Left H := { results := [], args := [] }

/-- 'laws.FnExactRollOk': WHATEVER THE INPUT: true; the input reads as it did. -/
def fnExactRollOkSpec : ChangeSpec := { name := "fnExactRollOk", fn := fun _ => fun
  | [d] => { results := [.lit (.bool true)], args := [d] }
  | _ => none }
def fnExactRollOkRow : OpenClaim := { program := "ythgkfimfceegmaa", sum := "14a2a7a974481f6f475831ce39ab38bd4345788eaf7d41bc80c39aceaed9941f", func := "loop.example/g00307/laws.FnExactRollOk", spec := "fnExactRollOk", apart := false }
def FnExactRollOkSaid : Prop := fnExactRollOkRow.holds Try.pinned (OpenSpec.ofChange fnExactRollOkSpec)

/-- ITS FALSE NEIGHBOUR: 'it returns false'. Refute it at one input. -/
def fnExactRollOkWrong : ChangeSpec := { name := "fnExactRollOk", fn := fun _ => fun
  | [d] => { results := [.lit (.bool false)], args := [d] }
  | _ => none }
def FnExactRollOkWrongFalsely : Prop := fnExactRollOkRow.holds Try.pinned (OpenSpec.ofChange fnExactRollOkWrong)

/-- 'laws.FnExactNewRoll': WHATEVER THE INPUT: true; the input reads as it did. -/
def fnExactNewRollSpec : ChangeSpec := { name := "fnExactNewRoll", fn := fun _ => fun
  | [d1, d2, d3] => { results := [.lit (.bool true)], args := [d1, d2, d3] }
  | _ => none }
def fnExactNewRollRow : OpenClaim := { program := "ythgkfimfceegmaa", sum := "14a2a7a974481f6f475831ce39ab38bd4345788eaf7d41bc80c39aceaed9941f", func := "loop.example/g00307/laws.FnExactNewRoll", spec := "fnExactNewRoll", apart := false }
def FnExactNewRollSaid : Prop := fnExactNewRollRow.holds Try.pinned (OpenSpec.ofChange fnExactNewRollSpec)

/-- ITS FALSE NEIGHBOUR: 'it returns false'. Refute it at one input. -/
def fnExactNewRollWrong : ChangeSpec := { name := "fnExactNewRoll", fn := fun _ => fun
  | [d1, d2, d3] => { results := [.lit (.bool false)], args := [d1, d2, d3] }
  | _ => none }
def FnExactNewRollWrongFalsely : Prop := fnExactNewRollRow.holds Try.pinned (OpenSpec.ofChange fnExactNewRollWrong)

/-- 'laws.FnExactStep': WHATEVER THE INPUT: true; the input reads as it did. -/
def fnExactStepSpec : ChangeSpec := { name := "fnExactStep", fn := fun _ => fun
  | [d1, d2, d3] => { results := [.lit (.bool true)], args := [d1, d2, d3] }
  | _ => none }
def fnExactStepRow : OpenClaim := { program := "ythgkfimfceegmaa", sum := "14a2a7a974481f6f475831ce39ab38bd4345788eaf7d41bc80c39aceaed9941f", func := "loop.example/g00307/laws.FnExactStep", spec := "fnExactStep", unfollowed := true, recurses := true, apart := false }
def FnExactStepSaid : Prop := fnExactStepRow.holds Try.pinned (OpenSpec.ofChange fnExactStepSpec)

/-- ITS FALSE NEIGHBOUR: 'it returns false'. Refute it at one input. -/
def fnExactStepWrong : ChangeSpec := { name := "fnExactStep", fn := fun _ => fun
  | [d1, d2, d3] => { results := [.lit (.bool false)], args := [d1, d2, d3] }
  | _ => none }
def FnExactStepWrongFalsely : Prop := fnExactStepRow.holds Try.pinned (OpenSpec.ofChange fnExactStepWrong)

/-- 'laws.FnExactSigning': WHATEVER THE INPUT: true; the input reads as it did. -/
def fnExactSigningSpec : ChangeSpec := { name := "fnExactSigning", fn := fun _ => fun
  | [d] => { results := [.lit (.bool true)], args := [d] }
  | _ => none }
def fnExactSigningRow : OpenClaim := { program := "ythgkfimfceegmaa", sum := "14a2a7a974481f6f475831ce39ab38bd4345788eaf7d41bc80c39aceaed9941f", func := "loop.example/g00307/laws.FnExactSigning", spec := "fnExactSigning", apart := false }
def FnExactSigningSaid : Prop := fnExactSigningRow.holds Try.pinned (OpenSpec.ofChange fnExactSigningSpec)

/-- ITS FALSE NEIGHBOUR: 'it returns false'. Refute it at one input. -/
def fnExactSigningWrong : ChangeSpec := { name := "fnExactSigning", fn := fun _ => fun
  | [d] => { results := [.lit (.bool false)], args := [d] }
  | _ => none }
def FnExactSigningWrongFalsely : Prop := fnExactSigningRow.holds Try.pinned (OpenSpec.ofChange fnExactSigningWrong)

/- THE SECOND FORM. 'bulk': how many values and letters a reading holds, each counted each time it is reached (what is shared counts as often as it is met; a slice's spare places count too). A statement '..UptoSaid' is the law's where the arguments, and the package variables that the reading takes, are together of bulk at most 1048576: NARROWER than '..Said'. Prove '..Said' where nothing that the law and all that it calls make is longer than what came in: it says more and counts as full. Else prove '..UptoSaid'. A law counts once. -/
mutual
def uptoBulk {H : Type} : DataW H → Nat
  | .lit (.string bytes) => bytes.length + 1
  | .lit _ => 1
  | .nil => 1
  | .ptr d => uptoBulk d + 1
  | .slice elems spare => uptoBulkAll elems + uptoBulkAll spare + 1
  | .agg parts => uptoBulkAll parts + 1
  | .iface _ d => uptoBulk d + 1
  | .map entries => uptoBulkEntries entries + 1
  | .held _ => 1
def uptoBulkAll {H : Type} : List (DataW H) → Nat
  | [] => 0
  | d :: r => uptoBulk d + uptoBulkAll r
def uptoBulkEntries {H : Type} : List (Lit × DataW H) → Nat
  | [] => 0
  | x :: r => uptoBulkEntry x + uptoBulkEntries r
def uptoBulkEntry {H : Type} : Lit × DataW H → Nat
  | (.string bytes, d) => bytes.length + uptoBulk d + 1
  | (_, d) => uptoBulk d + 1
 end
def uptoSmall : (H : Type) → List (DataW H) → Bool := fun _ ds => decide (uptoBulkAll ds ≤ 1048576)
def OpenSpec.upto (s : _root_.Go.ChangeSpec) : _root_.Go.OpenSpec := { _root_.Go.OpenSpec.ofChange s with cond := some uptoSmall }

/-- 'laws.FnExactRollOk', WHERE WHAT IT READS IS OF BULK AT MOST 1048576: true; the input reads as it did. -/
def fnExactRollOkUptoRow : OpenClaim := { program := "ythgkfimfceegmaa", sum := "14a2a7a974481f6f475831ce39ab38bd4345788eaf7d41bc80c39aceaed9941f", func := "loop.example/g00307/laws.FnExactRollOk", spec := "fnExactRollOk", apart := false, narrowed := true }
def FnExactRollOkUptoSaid : Prop := fnExactRollOkUptoRow.holds Try.pinned (OpenSpec.upto fnExactRollOkSpec)

/-- 'laws.FnExactNewRoll', WHERE WHAT IT READS IS OF BULK AT MOST 1048576: true; the input reads as it did. -/
def fnExactNewRollUptoRow : OpenClaim := { program := "ythgkfimfceegmaa", sum := "14a2a7a974481f6f475831ce39ab38bd4345788eaf7d41bc80c39aceaed9941f", func := "loop.example/g00307/laws.FnExactNewRoll", spec := "fnExactNewRoll", apart := false, narrowed := true }
def FnExactNewRollUptoSaid : Prop := fnExactNewRollUptoRow.holds Try.pinned (OpenSpec.upto fnExactNewRollSpec)

/-- 'laws.FnExactStep', WHERE WHAT IT READS IS OF BULK AT MOST 1048576: true; the input reads as it did. -/
def fnExactStepUptoRow : OpenClaim := { program := "ythgkfimfceegmaa", sum := "14a2a7a974481f6f475831ce39ab38bd4345788eaf7d41bc80c39aceaed9941f", func := "loop.example/g00307/laws.FnExactStep", spec := "fnExactStep", unfollowed := true, recurses := true, apart := false, narrowed := true }
def FnExactStepUptoSaid : Prop := fnExactStepUptoRow.holds Try.pinned (OpenSpec.upto fnExactStepSpec)

/-- 'laws.FnExactSigning', WHERE WHAT IT READS IS OF BULK AT MOST 1048576: true; the input reads as it did. -/
def fnExactSigningUptoRow : OpenClaim := { program := "ythgkfimfceegmaa", sum := "14a2a7a974481f6f475831ce39ab38bd4345788eaf7d41bc80c39aceaed9941f", func := "loop.example/g00307/laws.FnExactSigning", spec := "fnExactSigning", apart := false, narrowed := true }
def FnExactSigningUptoSaid : Prop := fnExactSigningUptoRow.holds Try.pinned (OpenSpec.upto fnExactSigningSpec)

end Rows
end Go.Proofs.Ythgkfimfceegmaa
