/-
  Labels, Parent, Under, Before and Star of the specification.
-/
import Derived.Test.YtciikondckoboaaGreatDoorNameT
namespace Go.Proofs.YtciikondckoboaaGreatDoor.Nm
open Go.ChangeShapes Go.WideShapes Go.ChangeAt Go.RowKit
/-- What Labels answers. -/
def labsB (l : Bytes) : List ByteArray := if okB l = true then LB l else []
theorem after_piece {s : ByteArray} {i : Nat} (hi : i < s.size) (hd : s[i] = 46) (hn : ∀ j, (hj : j < s.size) → j < i → s[j] ≠ 46) : after (bs s) = (bs s).drop (i + 1) := by
  have hl : i < (bs s).length := by rw [bs_length]; exact hi
  obtain ⟨e, h⟩ := cut_at (l := bs s) hl hd (fun j hj hji => hn j (by rw [bs_length] at hj; exact hj) hji)
  have := after_cut h ((bs s).drop (i + 1))
  rw [← e] at this
  exact this
theorem byte_ne {b : UInt8} (h : b ≠ 46) : ((b.toNat : Int) == 46) = false := by
  refine beq_eq_false_iff_ne.2 (fun k => h (UInt8.toNat_inj.1 ?_))
  have : (b.toNat : Int) = ((46 : UInt8).toNat : Int) := k
  omega
end Go.Proofs.YtciikondckoboaaGreatDoor.Nm
