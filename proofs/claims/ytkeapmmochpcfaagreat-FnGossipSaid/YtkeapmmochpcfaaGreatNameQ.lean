/- The laws' own helpers on lists of texts: eqStringS, markText, markStringS, heldStringS. -/
import Derived.Test.YtkeapmmochpcfaaGreatNameR
import Derived.Test.YtkeapmmochpcfaaGreatNameJ
import Derived.Deep.RegionHeld3
import Derived.Deep.QuietTactic
import Derived.BigQuiet
import Derived.Laws.BytesArg
import Derived.Laws.IdiomStrings
import Derived.WalkLawsBesides
set_option maxRecDepth 100000
set_option maxHeartbeats 32000000
set_option linter.unusedVariables false
namespace Go.Proofs.YtkeapmmochpcfaaGreat.Nm
open Go.ChangeShapes Go.WideShapes Go.ChangeAt Go.RowKit
theorem cv1 (x:Nat) (hx:x<256) (wr:World):(convert 22 9 (.slice (some ⟨wr.heap.size,0,none⟩) 1 1)).run Tryz.prog (wr.alloc (.cells #[.int .u8 x] 5))=.ok (.string ⟨#[UInt8.ofNat x]⟩) (wr.alloc (.cells #[.int .u8 x] 5)):=by
 refine run_convert_bytes_back _ _ _ 5 ⟨wr.heap.size,0,none⟩ 1 [UInt8.ofNat x] Tryz.underlying22 Tryz.underlying5 Tryz.underlying9 (fun j hj=>?_)
 have hj0:j=0:=by simp at hj;omega
 subst hj0
 have e:(UInt8.ofNat x).toNat=x:=by simp;omega
 simp[Addr.add,Nat.mod_eq_of_lt hx]
end Go.Proofs.YtkeapmmochpcfaaGreat.Nm
