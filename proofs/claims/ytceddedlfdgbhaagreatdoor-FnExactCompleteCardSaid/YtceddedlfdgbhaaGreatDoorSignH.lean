/-
  The program's hasher fed with numbers and Points; its nonce.
-/
import Derived.Test.YtceddedlfdgbhaaGreatDoorSignT
namespace Go.Proofs.YtceddedlfdgbhaaGreatDoor.Sg
open Go.ChangeShapes Go.WideShapes Go.ChangeAt Go.RowKit
theorem Tab.lt {w : World} (h : Tab w) : 0 < w.heap.size := by
  unfold Tab Lib.TabIs World.var? at h
  rw [gPow] at h
  simp only [Option.bind_some] at h
  rcases Nat.lt_or_ge 0 w.heap.size with h' | h'
  · exact h'
  · rw [Array.getElem?_eq_none h'] at h; cases h
theorem Tab.only {w w' : World} {b : Nat} (h : Tab w) (k : Only b w w') (hb : 0 < b) : Tab w' := by
  have hl := h.lt
  unfold Tab Lib.TabIs World.var? at h ⊢
  rw [gPow] at h ⊢
  simp only [Option.bind_some] at h ⊢
  rw [k.block _ hl (by omega)]
  exact h
theorem Tab.old {w : World} {o : Obj} (h : Tab w) : Tab (w.alloc o) := h.kept ((Below.refl _ _).alloc (Nat.le_refl _) o)
theorem hrun_pt (h a b : Nat) : hrun (hrun h (nums (numS a ++ blank))) (nums (numS b ++ blank)) = hrun h (nums (ptS a b)) := by
  unfold ptS
  rw [← hrun_append, ← nums_append]
  congr 2
  apply ByteArray.ext
  simp [ByteArray.data_append]
theorem hrun_two (h : Nat) (a b : ByteArray) : hrun (hrun h (nums a)) (nums b) = hrun h (nums (a ++ b)) := by
  rw [← hrun_append, ← nums_append]
theorem nums_blank : nums blank = [32] := rfl
theorem hrun_blank (h : Nat) (a : ByteArray) : hstep (hrun h (nums a)) 32 = hrun h (nums (a ++ blank)) := by
  rw [← hrun_two, nums_blank, hrun_cons, hrun_nil]
theorem One.only {c : Nat} {w w' : World} {b h : Nat} (o : One w b h) (k : Only c w w') (hb : b ≠ c) : One w' b h :=
  ⟨Nat.lt_of_lt_of_le o.lt k.size, by rw [k.cell (by simpa using o.lt) (by simpa using hb)]; exact o.c0, by rw [k.frozen (by simpa using o.lt) (by simpa using hb)]; exact o.f0⟩
theorem One.next {w w' : World} {b h : Nat} (o : One w b h) (k : Below w.heap.size w w') : One w' b h := o.kept k o.lt
set_option maxHeartbeats 2000000 in
theorem number_any (b h n : Nat) (w : World) (o : One w b h) (hh : h < 2147483647) (hn : n ≤ 1099511627776) (ht : Tab w) :
    Calls Tryz.prog 98 #[.pointer (some ⟨b, 0, none⟩), .int .i64 n] w fun e w' => e = .returned (.tuple #[]) ∧ One w' b (hrun h (nums (numS n ++ blank))) ∧ Only b w w' := by
  have HO := hidIt o
  have CF := hidIt (fun w => formatInt_any n (by omega) (by omega) w)
  have hs := numS_size n hn
  have HT := hidIt ht
  clear o ht
  go_enter Tryz.func98, Tryz.ntmps98
  go_wp2_with (fail)
  refine (CF.out _ HT.out).mono ?_
  rintro e w1 ⟨rfl, hb1⟩
  have HB1 := hidIt hb1
  clear hb1
  go_wp2_with (fail)
  refine (text_any b h (numS n) _ (HO.out.next HB1.out) hh (by omega)).mono ?_
  rintro e w2 ⟨rfl, hO2, hB2⟩
  have HO2 := hidIt hO2
  have HB2 := hidIt hB2
  clear hO2 hB2
  go_wp2_with (fail)
  refine (take_any b _ 32 _ HO2.out (hrun_lt _ _ hh) (by omega)).mono ?_
  rintro e w3 ⟨rfl, rfl⟩
  go_wp2_with (fail)
  refine bodyPost_end (v := .tuple #[]) (by simp [results, Tryz.results98, go_sem]) rfl ⟨rfl, ?_, ((Only.of_below HB1.out).trans HB2.out).setCell 0 _⟩
  have := HO2.out.put (g := hstep (hrun h (nums (numS n))) 32)
  rw [hrun_blank] at this ⊢
  exact this
/-- The nonce of a secret and a text. -/
def noN (n : Nat) (s : ByteArray) : Nat := hashN (nums (numS n ++ blank ++ s)) % 2548 + 1
theorem noN_lt (n : Nat) (s : ByteArray) : noN n s < 2549 := by unfold noN; omega
theorem noN_pos (n : Nat) (s : ByteArray) : 0 < noN n s := by unfold noN; omega
end Go.Proofs.YtceddedlfdgbhaaGreatDoor.Sg
