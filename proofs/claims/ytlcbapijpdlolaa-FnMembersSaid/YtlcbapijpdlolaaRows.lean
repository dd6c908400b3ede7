/-
  No cell of these rows narrows 'for every input' (looked for: loops, veiled, ifaces, maps, wideKeys, modest, calm, conditions, laid).
  DERIVED. THE GIVEN ROWS OF THIS SEAT. 6 by the template 'for every input the law returns true; each argument reads behind the call as it read before'; 0 by the template 'total and deterministic' (their statements: YtlcbapijpdlolaaTotals.lean).
  GIVEN WITH THE SEED: the statements are not yours to turn. If you find one false, say at which input.
  Laid BY PROGRAM, IN A SANDBOX (cutbox-rows.mjs): the forced cells as the released guide's own fill.sh prints them over the translation 6137c0b10fac8181… (all of the seat's roots in one cut). By AI agents, Wed Nov 11 2026. No macro, syntax, notation, axiom, sorry.
-/
import Derived.Test.YtlcbapijpdlolaaChecked
import GoSem.Claim
import GoSem.ClaimJoined
import GoSem.ClaimMapViews
import Derived.JoinedTies
import Derived.KernelRfl
namespace Go.Proofs.Ytlcbapijpdlolaa
/- THE CELL 'sum', in the pinned program and in every row, IS THE sha256 OF THE DUMP (.gsa) THAT YtlcbapijpdlolaaProg.lean LOADS. Nothing in Lean hashes anything: it is a label: what it is worth is what the hold of that sum in a sandbox is worth. -/
noncomputable def Try.pinned : Pinned := { name := "ytlcbapijpdlolaa", sum := "6137c0b10fac8181f7f499dbd6eef320d7f91def933d0dfe6069a3065a30f998", checked := Try.checked }
namespace Rows
def none {H : Type} : Left H := { results := [], args := [] }

/-- 'laws.FnMembers': WHATEVER THE INPUT: true; the input reads as it did. -/
def fnMembersSpec : ChangeSpec := { name := "fnMembers", fn := fun _ => fun
  | [d] => { results := [.lit (.bool true)], args := [d] }
  | _ => none }
def fnMembersRow : OpenClaim := { program := "ytlcbapijpdlolaa", sum := "6137c0b10fac8181f7f499dbd6eef320d7f91def933d0dfe6069a3065a30f998", func := "loop.example/g00307/laws.FnMembers", spec := "fnMembers", inPlace := ["slices.overlaps[loop.example/g00307/impl.Member]"], unfollowed := true, recurses := true, apart := false }
def FnMembersSaid : Prop := fnMembersRow.holds Try.pinned (OpenSpec.ofChange fnMembersSpec)

/-- ITS FALSE NEIGHBOUR: 'it returns false'. Refute it at one input. -/
def fnMembersWrong : ChangeSpec := { name := "fnMembers", fn := fun _ => fun
  | [d] => { results := [.lit (.bool false)], args := [d] }
  | _ => none }
def FnMembersWrongFalsely : Prop := fnMembersRow.holds Try.pinned (OpenSpec.ofChange fnMembersWrong)

/-- 'laws.FnBackUp': WHATEVER THE INPUT: true; the input reads as it did. -/
def fnBackUpSpec : ChangeSpec := { name := "fnBackUp", fn := fun _ => fun
  | [d] => { results := [.lit (.bool true)], args := [d] }
  | _ => none }
def fnBackUpRow : OpenClaim := { program := "ytlcbapijpdlolaa", sum := "6137c0b10fac8181f7f499dbd6eef320d7f91def933d0dfe6069a3065a30f998", func := "loop.example/g00307/laws.FnBackUp", spec := "fnBackUp", inPlace := ["slices.overlaps[loop.example/g00307/impl.Member]"], unfollowed := true, recurses := true, apart := false }
def FnBackUpSaid : Prop := fnBackUpRow.holds Try.pinned (OpenSpec.ofChange fnBackUpSpec)

/-- ITS FALSE NEIGHBOUR: 'it returns false'. Refute it at one input. -/
def fnBackUpWrong : ChangeSpec := { name := "fnBackUp", fn := fun _ => fun
  | [d] => { results := [.lit (.bool false)], args := [d] }
  | _ => none }
def FnBackUpWrongFalsely : Prop := fnBackUpRow.holds Try.pinned (OpenSpec.ofChange fnBackUpWrong)

/-- 'laws.FnExactMembersOk': WHATEVER THE INPUT: true; the input reads as it did. -/
def fnExactMembersOkSpec : ChangeSpec := { name := "fnExactMembersOk", fn := fun _ => fun
  | [d] => { results := [.lit (.bool true)], args := [d] }
  | _ => none }
def fnExactMembersOkRow : OpenClaim := { program := "ytlcbapijpdlolaa", sum := "6137c0b10fac8181f7f499dbd6eef320d7f91def933d0dfe6069a3065a30f998", func := "loop.example/g00307/laws.FnExactMembersOk", spec := "fnExactMembersOk", apart := false }
def FnExactMembersOkSaid : Prop := fnExactMembersOkRow.holds Try.pinned (OpenSpec.ofChange fnExactMembersOkSpec)

/-- ITS FALSE NEIGHBOUR: 'it returns false'. Refute it at one input. -/
def fnExactMembersOkWrong : ChangeSpec := { name := "fnExactMembersOk", fn := fun _ => fun
  | [d] => { results := [.lit (.bool false)], args := [d] }
  | _ => none }
def FnExactMembersOkWrongFalsely : Prop := fnExactMembersOkRow.holds Try.pinned (OpenSpec.ofChange fnExactMembersOkWrong)

/-- 'laws.FnExactStronger': WHATEVER THE INPUT: true; the input reads as it did. -/
def fnExactStrongerSpec : ChangeSpec := { name := "fnExactStronger", fn := fun _ => fun
  | [d1, d2] => { results := [.lit (.bool true)], args := [d1, d2] }
  | _ => none }
def fnExactStrongerRow : OpenClaim := { program := "ytlcbapijpdlolaa", sum := "6137c0b10fac8181f7f499dbd6eef320d7f91def933d0dfe6069a3065a30f998", func := "loop.example/g00307/laws.FnExactStronger", spec := "fnExactStronger", apart := false }
def FnExactStrongerSaid : Prop := fnExactStrongerRow.holds Try.pinned (OpenSpec.ofChange fnExactStrongerSpec)

/-- ITS FALSE NEIGHBOUR: 'it returns false'. Refute it at one input. -/
def fnExactStrongerWrong : ChangeSpec := { name := "fnExactStronger", fn := fun _ => fun
  | [d1, d2] => { results := [.lit (.bool false)], args := [d1, d2] }
  | _ => none }
def FnExactStrongerWrongFalsely : Prop := fnExactStrongerRow.holds Try.pinned (OpenSpec.ofChange fnExactStrongerWrong)

/-- 'laws.FnExactMerged': WHATEVER THE INPUT: true; the input reads as it did. -/
def fnExactMergedSpec : ChangeSpec := { name := "fnExactMerged", fn := fun _ => fun
  | [d1, d2] => { results := [.lit (.bool true)], args := [d1, d2] }
  | _ => none }
def fnExactMergedRow : OpenClaim := { program := "ytlcbapijpdlolaa", sum := "6137c0b10fac8181f7f499dbd6eef320d7f91def933d0dfe6069a3065a30f998", func := "loop.example/g00307/laws.FnExactMerged", spec := "fnExactMerged", inPlace := ["slices.overlaps[loop.example/g00307/impl.Member]"], unfollowed := true, recurses := true, apart := false }
def FnExactMergedSaid : Prop := fnExactMergedRow.holds Try.pinned (OpenSpec.ofChange fnExactMergedSpec)

/-- ITS FALSE NEIGHBOUR: 'it returns false'. Refute it at one input. -/
def fnExactMergedWrong : ChangeSpec := { name := "fnExactMerged", fn := fun _ => fun
  | [d1, d2] => { results := [.lit (.bool false)], args := [d1, d2] }
  | _ => none }
def FnExactMergedWrongFalsely : Prop := fnExactMergedRow.holds Try.pinned (OpenSpec.ofChange fnExactMergedWrong)

/-- 'laws.FnExactDoubted': WHATEVER THE INPUT: true; the input reads as it did. -/
def fnExactDoubtedSpec : ChangeSpec := { name := "fnExactDoubted", fn := fun _ => fun
  | [d1, d2] => { results := [.lit (.bool true)], args := [d1, d2] }
  | _ => none }
def fnExactDoubtedRow : OpenClaim := { program := "ytlcbapijpdlolaa", sum := "6137c0b10fac8181f7f499dbd6eef320d7f91def933d0dfe6069a3065a30f998", func := "loop.example/g00307/laws.FnExactDoubted", spec := "fnExactDoubted", unfollowed := true, recurses := true, apart := false }
def FnExactDoubtedSaid : Prop := fnExactDoubtedRow.holds Try.pinned (OpenSpec.ofChange fnExactDoubtedSpec)

/-- ITS FALSE NEIGHBOUR: 'it returns false'. Refute it at one input. -/
def fnExactDoubtedWrong : ChangeSpec := { name := "fnExactDoubted", fn := fun _ => fun
  | [d1, d2] => { results := [.lit (.bool false)], args := [d1, d2] }
  | _ => none }
def FnExactDoubtedWrongFalsely : Prop := fnExactDoubtedRow.holds Try.pinned (OpenSpec.ofChange fnExactDoubtedWrong)

/- THE SECOND FORM. 'bulk': how many values and letters a reading holds, each counted each time it is reached (what is shared counts as often as it is met; a slice's spare places count too). A statement '..UptoSaid' is the law's where the arguments, and the package variables that the reading takes, are together of bulk at most 1048576: NARROWER than '..Said'. Prove '..Said' where nothing that the law and all that it calls make is longer than what came in: it says more and counts as full. Else prove '..UptoSaid'. A law counts once. -/
mutual
def uptoBulk {H : Type} : DataW H → Nat
  | .lit (.string bytes) => bytes.length + 1
  | .lit _ => 1
  | .nil => 1
  | .ptr d => uptoBulk d + 1
  | .slice elems spare => uptoBulkAll elems + uptoBulkAll spare + 1
  | .agg parts => uptoBulkAll parts + 1
  | .iface _ d => uptoBulk d + 1
  | .map entries => uptoBulkEntries entries + 1
  | .held _ => 1
def uptoBulkAll {H : Type} : List (DataW H) → Nat
  | [] => 0
  | d :: r => uptoBulk d + uptoBulkAll r
def uptoBulkEntries {H : Type} : List (Lit × DataW H) → Nat
  | [] => 0
  | x :: r => uptoBulkEntry x + uptoBulkEntries r
def uptoBulkEntry {H : Type} : Lit × DataW H → Nat
  | (.string bytes, d) => bytes.length + uptoBulk d + 1
  | (_, d) => uptoBulk d + 1
 end
def uptoSmall : (H : Type) → List (DataW H) → Bool := fun _ ds => decide (uptoBulkAll ds ≤ 1048576)
def OpenSpec.upto (s : _root_.Go.ChangeSpec) : _root_.Go.OpenSpec := { _root_.Go.OpenSpec.ofChange s with cond := some uptoSmall }

/-- 'laws.FnMembers', WHERE WHAT IT READS IS OF BULK AT MOST 1048576: true; the input reads as it did. -/
def fnMembersUptoRow : OpenClaim := { program := "ytlcbapijpdlolaa", sum := "6137c0b10fac8181f7f499dbd6eef320d7f91def933d0dfe6069a3065a30f998", func := "loop.example/g00307/laws.FnMembers", spec := "fnMembers", inPlace := ["slices.overlaps[loop.example/g00307/impl.Member]"], unfollowed := true, recurses := true, apart := false, narrowed := true }
def FnMembersUptoSaid : Prop := fnMembersUptoRow.holds Try.pinned (OpenSpec.upto fnMembersSpec)

/-- 'laws.FnBackUp', WHERE WHAT IT READS IS OF BULK AT MOST 1048576: true; the input reads as it did. -/
def fnBackUpUptoRow : OpenClaim := { program := "ytlcbapijpdlolaa", sum := "6137c0b10fac8181f7f499dbd6eef320d7f91def933d0dfe6069a3065a30f998", func := "loop.example/g00307/laws.FnBackUp", spec := "fnBackUp", inPlace := ["slices.overlaps[loop.example/g00307/impl.Member]"], unfollowed := true, recurses := true, apart := false, narrowed := true }
def FnBackUpUptoSaid : Prop := fnBackUpUptoRow.holds Try.pinned (OpenSpec.upto fnBackUpSpec)

/-- 'laws.FnExactMembersOk', WHERE WHAT IT READS IS OF BULK AT MOST 1048576: true; the input reads as it did. -/
def fnExactMembersOkUptoRow : OpenClaim := { program := "ytlcbapijpdlolaa", sum := "6137c0b10fac8181f7f499dbd6eef320d7f91def933d0dfe6069a3065a30f998", func := "loop.example/g00307/laws.FnExactMembersOk", spec := "fnExactMembersOk", apart := false, narrowed := true }
def FnExactMembersOkUptoSaid : Prop := fnExactMembersOkUptoRow.holds Try.pinned (OpenSpec.upto fnExactMembersOkSpec)

/-- 'laws.FnExactStronger', WHERE WHAT IT READS IS OF BULK AT MOST 1048576: true; the input reads as it did. -/
def fnExactStrongerUptoRow : OpenClaim := { program := "ytlcbapijpdlolaa", sum := "6137c0b10fac8181f7f499dbd6eef320d7f91def933d0dfe6069a3065a30f998", func := "loop.example/g00307/laws.FnExactStronger", spec := "fnExactStronger", apart := false, narrowed := true }
def FnExactStrongerUptoSaid : Prop := fnExactStrongerUptoRow.holds Try.pinned (OpenSpec.upto fnExactStrongerSpec)

/-- 'laws.FnExactMerged', WHERE WHAT IT READS IS OF BULK AT MOST 1048576: true; the input reads as it did. -/
def fnExactMergedUptoRow : OpenClaim := { program := "ytlcbapijpdlolaa", sum := "6137c0b10fac8181f7f499dbd6eef320d7f91def933d0dfe6069a3065a30f998", func := "loop.example/g00307/laws.FnExactMerged", spec := "fnExactMerged", inPlace := ["slices.overlaps[loop.example/g00307/impl.Member]"], unfollowed := true, recurses := true, apart := false, narrowed := true }
def FnExactMergedUptoSaid : Prop := fnExactMergedUptoRow.holds Try.pinned (OpenSpec.upto fnExactMergedSpec)

/-- 'laws.FnExactDoubted', WHERE WHAT IT READS IS OF BULK AT MOST 1048576: true; the input reads as it did. -/
def fnExactDoubtedUptoRow : OpenClaim := { program := "ytlcbapijpdlolaa", sum := "6137c0b10fac8181f7f499dbd6eef320d7f91def933d0dfe6069a3065a30f998", func := "loop.example/g00307/laws.FnExactDoubted", spec := "fnExactDoubted", unfollowed := true, recurses := true, apart := false, narrowed := true }
def FnExactDoubtedUptoSaid : Prop := fnExactDoubtedUptoRow.holds Try.pinned (OpenSpec.upto fnExactDoubtedSpec)

end Rows
end Go.Proofs.Ytlcbapijpdlolaa
