/-
  The hash in natural numbers: 17 at first; for each byte h becomes (1000003 h + the byte + 1) modulo 2147483647; for 5 bytes 0 more likewise.
-/
import Derived.Test.YtceddedlfdgbhaaGreatDoorRows
namespace Go.Proofs.YtceddedlfdgbhaaGreatDoor.Sg
def hstep (h b : Nat) : Nat := (h * 1000003 + b + 1) % 2147483647
/-- The bytes of a text, as numbers. -/
def nums (s : ByteArray) : List Nat := s.data.toList.map UInt8.toNat
def hrun (h : Nat) (l : List Nat) : Nat := l.foldl hstep h
def hend (h : Nat) : Nat := hrun h [0, 0, 0, 0, 0]
def hashN (l : List Nat) : Nat := hend (hrun 17 l)
theorem hstep_lt (h b : Nat) : hstep h b < 2147483647 := by unfold hstep; omega
theorem hrun_nil (h : Nat) : hrun h [] = h := rfl
theorem hrun_cons (h b : Nat) (l : List Nat) : hrun h (b :: l) = hrun (hstep h b) l := rfl
theorem hrun_lt (l : List Nat) : ∀ h : Nat, h < 2147483647 → hrun h l < 2147483647 := by
  induction l with
  | nil => intro h hh; rw [hrun_nil]; exact hh
  | cons b l ih => intro h _; rw [hrun_cons]; exact ih _ (hstep_lt h b)
theorem hrun_append (h : Nat) (l m : List Nat) : hrun h (l ++ m) = hrun (hrun h l) m := List.foldl_append
theorem hend_lt (h : Nat) (hh : h < 2147483647) : hend h < 2147483647 := by unfold hend; exact hrun_lt _ _ hh
theorem hashN_lt (l : List Nat) : hashN l < 2147483647 := by unfold hashN; exact hend_lt _ (hrun_lt _ _ (by omega))
theorem nums_length (s : ByteArray) : (nums s).length = s.size := by unfold nums; rw [List.length_map, Array.length_toList]; rfl
theorem nums_append (s t : ByteArray) : nums (s ++ t) = nums s ++ nums t := by unfold nums; rw [ByteArray.data_append, Array.toList_append, List.map_append]
theorem nums_at (s : ByteArray) (i : Nat) (hi : i < s.size) : (nums s)[i]? = some (s[i]'hi).toNat := by
  unfold nums
  rw [List.getElem?_map, List.getElem?_eq_getElem (by simpa using hi)]
  rfl
theorem nums_take (s : ByteArray) (i : Nat) (hi : i < s.size) : (nums s).take (i + 1) = (nums s).take i ++ [(s[i]'hi).toNat] := by
  rw [List.take_add_one, nums_at s i hi]; rfl
theorem nums_take_all (s : ByteArray) : (nums s).take s.size = nums s := by
  rw [← nums_length]; exact List.take_length
theorem hrun_take (s : ByteArray) (h i : Nat) (hi : i < s.size) : hrun h ((nums s).take (i + 1)) = hstep (hrun h ((nums s).take i)) (s[i]'hi).toNat := by
  rw [nums_take s i hi, hrun_append, hrun_cons, hrun_nil]
/-- The bytes of a text, and 5 bytes 0. -/
def pad (s : ByteArray) : List Nat := nums s ++ [0, 0, 0, 0, 0]
theorem pad_length (s : ByteArray) : (pad s).length = s.size + 5 := by unfold pad; rw [List.length_append, nums_length]; rfl
theorem hrun_pad_lt (s : ByteArray) (h i : Nat) (hi : i < s.size) : hrun h ((pad s).take (i + 1)) = hstep (hrun h ((pad s).take i)) (s[i]'hi).toNat := by
  have e : (pad s)[i]? = some (s[i]'hi).toNat := by
    unfold pad
    rw [List.getElem?_append_left (by rw [nums_length]; exact hi)]
    exact nums_at s i hi
  rw [List.take_add_one, e, Option.toList_some, hrun_append, hrun_cons, hrun_nil]
theorem hrun_pad_ge (s : ByteArray) (h i : Nat) (h1 : s.size ≤ i) (h2 : i < s.size + 5) : hrun h ((pad s).take (i + 1)) = hstep (hrun h ((pad s).take i)) 0 := by
  have e : (pad s)[i]? = some 0 := by
    unfold pad
    rw [List.getElem?_append_right (by rw [nums_length]; exact h1), nums_length]
    obtain ⟨j, rfl⟩ : ∃ j, i = s.size + j := ⟨i - s.size, by omega⟩
    have hj : j < 5 := by omega
    rw [Nat.add_sub_cancel_left]
    rcases j with _ | _ | _ | _ | _ | j
    · rfl
    · rfl
    · rfl
    · rfl
    · rfl
    · omega
  rw [List.take_add_one, e, Option.toList_some, hrun_append, hrun_cons, hrun_nil]
theorem hrun_pad (s : ByteArray) : hrun 17 ((pad s).take (s.size + 5)) = hashN (nums s) := by
  rw [← pad_length, List.take_length]
  unfold pad hashN hend
  rw [hrun_append]
end Go.Proofs.YtceddedlfdgbhaaGreatDoor.Sg
