/-
  The specification's pieces between the dots; its labels; is a text a label; NameOk.
-/
import Derived.Test.YtciikondckoboaaDoorNameR
import Derived.Test.YtciikondckoboaaDoorNameL
namespace Go.Proofs.YtciikondckoboaaDoor.Nm
open Go.ChangeShapes Go.WideShapes Go.ChangeAt Go.RowKit
/-- The labels of a text, as texts. -/
def LB (l : Bytes) : List ByteArray := (labels l).map B
theorem LB_length (l : Bytes) : (LB l).length = (labels l).length := by rw [LB, List.length_map]
theorem LB_at {l : Bytes} {i : Nat} (h : i < (labels l).length) : bs (sat (LB l) i) = (labels l)[i] := by
  rw [sat_at (by rw [LB_length]; exact h)]
  simp [LB]
theorem LB_sat_mem {l : Bytes} {i : Nat} (h : i < (labels l).length) : bs (sat (LB l) i) ∈ labels l := by
  rw [LB_at h]
  exact List.getElem_mem h
end Go.Proofs.YtciikondckoboaaDoor.Nm
