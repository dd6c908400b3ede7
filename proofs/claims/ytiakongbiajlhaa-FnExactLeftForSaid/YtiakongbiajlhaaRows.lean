/-
  No cell of these rows narrows 'for every input' (looked for: loops, veiled, ifaces, maps, wideKeys, modest, calm, conditions, laid).
  DERIVED. THE GIVEN ROWS OF THIS SEAT. 4 by the template 'for every input the law returns true; each argument reads behind the call as it read before'; 0 by the template 'total and deterministic' (their statements: YtiakongbiajlhaaTotals.lean).
  GIVEN WITH THE SEED: the statements are not yours to turn. If you find one false, say at which input.
  Laid BY PROGRAM, IN A SANDBOX (cutbox-rows.mjs): the forced cells as the released guide's own fill.sh prints them over the translation 239a9491113d0852… (all of the seat's roots in one cut). By AI agents, Wed Nov 11 2026. No macro, syntax, notation, axiom, sorry.
-/
import Derived.Test.YtiakongbiajlhaaChecked
import GoSem.Claim
import GoSem.ClaimJoined
import GoSem.ClaimMapViews
import Derived.JoinedTies
import Derived.KernelRfl
namespace Go.Proofs.Ytiakongbiajlhaa
/- THE CELL 'sum', in the pinned program and in every row, IS THE sha256 OF THE DUMP (.gsa) THAT YtiakongbiajlhaaProg.lean LOADS. Nothing in Lean hashes anything: it is a label: what it is worth is what the hold of that sum in a sandbox is worth. -/
noncomputable def Try.pinned : Pinned := { name := "ytiakongbiajlhaa", sum := "239a9491113d0852b90a416704d8da349bed2764bfc4f9eb66faffb544c2c3ad", checked := Try.checked }
namespace Rows
def none {H : Type} : Left H := { results := [], args := [] }

/-- 'laws.FnBuckets': WHATEVER THE INPUT: true; the input reads as it did. -/
def fnBucketsSpec : ChangeSpec := { name := "fnBuckets", fn := fun _ => fun
  | [d] => { results := [.lit (.bool true)], args := [d] }
  | _ => none }
def fnBucketsRow : OpenClaim := { program := "ytiakongbiajlhaa", sum := "239a9491113d0852b90a416704d8da349bed2764bfc4f9eb66faffb544c2c3ad", func := "loop.example/g00307/laws.FnBuckets", spec := "fnBuckets", inPlace := ["slices.overlaps[loop.example/g00307/impl.Bucket]"], apart := false }
def FnBucketsSaid : Prop := fnBucketsRow.holds Try.pinned (OpenSpec.ofChange fnBucketsSpec)

/-- ITS FALSE NEIGHBOUR: 'it returns false'. Refute it at one input. -/
def fnBucketsWrong : ChangeSpec := { name := "fnBuckets", fn := fun _ => fun
  | [d] => { results := [.lit (.bool false)], args := [d] }
  | _ => none }
def FnBucketsWrongFalsely : Prop := fnBucketsRow.holds Try.pinned (OpenSpec.ofChange fnBucketsWrong)

/-- 'laws.FnExactBucketsOk': WHATEVER THE INPUT: true; the input reads as it did. -/
def fnExactBucketsOkSpec : ChangeSpec := { name := "fnExactBucketsOk", fn := fun _ => fun
  | [d] => { results := [.lit (.bool true)], args := [d] }
  | _ => none }
def fnExactBucketsOkRow : OpenClaim := { program := "ytiakongbiajlhaa", sum := "239a9491113d0852b90a416704d8da349bed2764bfc4f9eb66faffb544c2c3ad", func := "loop.example/g00307/laws.FnExactBucketsOk", spec := "fnExactBucketsOk", apart := false }
def FnExactBucketsOkSaid : Prop := fnExactBucketsOkRow.holds Try.pinned (OpenSpec.ofChange fnExactBucketsOkSpec)

/-- ITS FALSE NEIGHBOUR: 'it returns false'. Refute it at one input. -/
def fnExactBucketsOkWrong : ChangeSpec := { name := "fnExactBucketsOk", fn := fun _ => fun
  | [d] => { results := [.lit (.bool false)], args := [d] }
  | _ => none }
def FnExactBucketsOkWrongFalsely : Prop := fnExactBucketsOkRow.holds Try.pinned (OpenSpec.ofChange fnExactBucketsOkWrong)

/-- 'laws.FnExactDrawn': WHATEVER THE INPUT: true; the input reads as it did. -/
def fnExactDrawnSpec : ChangeSpec := { name := "fnExactDrawn", fn := fun _ => fun
  | [d1, d2, d3] => { results := [.lit (.bool true)], args := [d1, d2, d3] }
  | _ => none }
def fnExactDrawnRow : OpenClaim := { program := "ytiakongbiajlhaa", sum := "239a9491113d0852b90a416704d8da349bed2764bfc4f9eb66faffb544c2c3ad", func := "loop.example/g00307/laws.FnExactDrawn", spec := "fnExactDrawn", inPlace := ["slices.overlaps[loop.example/g00307/impl.Bucket]"], apart := false }
def FnExactDrawnSaid : Prop := fnExactDrawnRow.holds Try.pinned (OpenSpec.ofChange fnExactDrawnSpec)

/-- ITS FALSE NEIGHBOUR: 'it returns false'. Refute it at one input. -/
def fnExactDrawnWrong : ChangeSpec := { name := "fnExactDrawn", fn := fun _ => fun
  | [d1, d2, d3] => { results := [.lit (.bool false)], args := [d1, d2, d3] }
  | _ => none }
def FnExactDrawnWrongFalsely : Prop := fnExactDrawnRow.holds Try.pinned (OpenSpec.ofChange fnExactDrawnWrong)

/-- 'laws.FnExactLeftFor': WHATEVER THE INPUT: true; the input reads as it did. -/
def fnExactLeftForSpec : ChangeSpec := { name := "fnExactLeftFor", fn := fun _ => fun
  | [d1, d2, d3] => { results := [.lit (.bool true)], args := [d1, d2, d3] }
  | _ => none }
def fnExactLeftForRow : OpenClaim := { program := "ytiakongbiajlhaa", sum := "239a9491113d0852b90a416704d8da349bed2764bfc4f9eb66faffb544c2c3ad", func := "loop.example/g00307/laws.FnExactLeftFor", spec := "fnExactLeftFor", apart := false }
def FnExactLeftForSaid : Prop := fnExactLeftForRow.holds Try.pinned (OpenSpec.ofChange fnExactLeftForSpec)

/-- ITS FALSE NEIGHBOUR: 'it returns false'. Refute it at one input. -/
def fnExactLeftForWrong : ChangeSpec := { name := "fnExactLeftFor", fn := fun _ => fun
  | [d1, d2, d3] => { results := [.lit (.bool false)], args := [d1, d2, d3] }
  | _ => none }
def FnExactLeftForWrongFalsely : Prop := fnExactLeftForRow.holds Try.pinned (OpenSpec.ofChange fnExactLeftForWrong)

/- THE SECOND FORM. 'bulk': how many values and letters a reading holds, each counted each time it is reached (what is shared counts as often as it is met; a slice's spare places count too). A statement '..UptoSaid' is the law's where the arguments, and the package variables that the reading takes, are together of bulk at most 1048576: NARROWER than '..Said'. Prove '..Said' where nothing that the law and all that it calls make is longer than what came in: it says more and counts as full. Else prove '..UptoSaid'. A law counts once. -/
mutual
def uptoBulk {H : Type} : DataW H → Nat
  | .lit (.string bytes) => bytes.length + 1
  | .lit _ => 1
  | .nil => 1
  | .ptr d => uptoBulk d + 1
  | .slice elems spare => uptoBulkAll elems + uptoBulkAll spare + 1
  | .agg parts => uptoBulkAll parts + 1
  | .iface _ d => uptoBulk d + 1
  | .map entries => uptoBulkEntries entries + 1
  | .held _ => 1
def uptoBulkAll {H : Type} : List (DataW H) → Nat
  | [] => 0
  | d :: r => uptoBulk d + uptoBulkAll r
def uptoBulkEntries {H : Type} : List (Lit × DataW H) → Nat
  | [] => 0
  | x :: r => uptoBulkEntry x + uptoBulkEntries r
def uptoBulkEntry {H : Type} : Lit × DataW H → Nat
  | (.string bytes, d) => bytes.length + uptoBulk d + 1
  | (_, d) => uptoBulk d + 1
 end
def uptoSmall : (H : Type) → List (DataW H) → Bool := fun _ ds => decide (uptoBulkAll ds ≤ 1048576)
def OpenSpec.upto (s : _root_.Go.ChangeSpec) : _root_.Go.OpenSpec := { _root_.Go.OpenSpec.ofChange s with cond := some uptoSmall }

/-- 'laws.FnBuckets', WHERE WHAT IT READS IS OF BULK AT MOST 1048576: true; the input reads as it did. -/
def fnBucketsUptoRow : OpenClaim := { program := "ytiakongbiajlhaa", sum := "239a9491113d0852b90a416704d8da349bed2764bfc4f9eb66faffb544c2c3ad", func := "loop.example/g00307/laws.FnBuckets", spec := "fnBuckets", inPlace := ["slices.overlaps[loop.example/g00307/impl.Bucket]"], apart := false, narrowed := true }
def FnBucketsUptoSaid : Prop := fnBucketsUptoRow.holds Try.pinned (OpenSpec.upto fnBucketsSpec)

/-- 'laws.FnExactBucketsOk', WHERE WHAT IT READS IS OF BULK AT MOST 1048576: true; the input reads as it did. -/
def fnExactBucketsOkUptoRow : OpenClaim := { program := "ytiakongbiajlhaa", sum := "239a9491113d0852b90a416704d8da349bed2764bfc4f9eb66faffb544c2c3ad", func := "loop.example/g00307/laws.FnExactBucketsOk", spec := "fnExactBucketsOk", apart := false, narrowed := true }
def FnExactBucketsOkUptoSaid : Prop := fnExactBucketsOkUptoRow.holds Try.pinned (OpenSpec.upto fnExactBucketsOkSpec)

/-- 'laws.FnExactDrawn', WHERE WHAT IT READS IS OF BULK AT MOST 1048576: true; the input reads as it did. -/
def fnExactDrawnUptoRow : OpenClaim := { program := "ytiakongbiajlhaa", sum := "239a9491113d0852b90a416704d8da349bed2764bfc4f9eb66faffb544c2c3ad", func := "loop.example/g00307/laws.FnExactDrawn", spec := "fnExactDrawn", inPlace := ["slices.overlaps[loop.example/g00307/impl.Bucket]"], apart := false, narrowed := true }
def FnExactDrawnUptoSaid : Prop := fnExactDrawnUptoRow.holds Try.pinned (OpenSpec.upto fnExactDrawnSpec)

/-- 'laws.FnExactLeftFor', WHERE WHAT IT READS IS OF BULK AT MOST 1048576: true; the input reads as it did. -/
def fnExactLeftForUptoRow : OpenClaim := { program := "ytiakongbiajlhaa", sum := "239a9491113d0852b90a416704d8da349bed2764bfc4f9eb66faffb544c2c3ad", func := "loop.example/g00307/laws.FnExactLeftFor", spec := "fnExactLeftFor", apart := false, narrowed := true }
def FnExactLeftForUptoSaid : Prop := fnExactLeftForUptoRow.holds Try.pinned (OpenSpec.upto fnExactLeftForSpec)

end Rows
end Go.Proofs.Ytiakongbiajlhaa
