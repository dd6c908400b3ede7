/-
  The program's hasher fed with numbers and Points; its nonce.
-/
import Derived.Test.YtllajhieocploaaGreatDoorSignT
namespace Go.Proofs.YtllajhieocploaaGreatDoor.Sg
open Go.ChangeShapes Go.WideShapes Go.ChangeAt Go.RowKit
theorem Tab.lt {w : World} (h : Tab w) : 2 < w.heap.size := by
  unfold Tab Lib.TabIs World.var? at h
  rw [gPow] at h
  simp only [Option.bind_some] at h
  rcases Nat.lt_or_ge 2 w.heap.size with h' | h'
  · exact h'
  · rw [Array.getElem?_eq_none h'] at h; cases h
theorem Tab.only {w w' : World} {b : Nat} (h : Tab w) (k : Only b w w') (hb : 2 < b) : Tab w' := by
  have hl := h.lt
  unfold Tab Lib.TabIs World.var? at h ⊢
  rw [gPow] at h ⊢
  simp only [Option.bind_some] at h ⊢
  rw [k.block _ hl (by omega)]
  exact h
theorem Tab.old {w : World} {o : Obj} (h : Tab w) : Tab (w.alloc o) := h.kept ((Below.refl _ _).alloc (Nat.le_refl _) o)
theorem hrun_pt (h a b : Nat) : hrun (hrun h (nums (numS a ++ blank))) (nums (numS b ++ blank)) = hrun h (nums (ptS a b)) := by
  unfold ptS
  rw [← hrun_append, ← nums_append]
  congr 2
  apply ByteArray.ext
  simp [ByteArray.data_append]
theorem hrun_two (h : Nat) (a b : ByteArray) : hrun (hrun h (nums a)) (nums b) = hrun h (nums (a ++ b)) := by
  rw [← hrun_append, ← nums_append]
theorem nums_blank : nums blank = [32] := rfl
theorem hrun_blank (h : Nat) (a : ByteArray) : hstep (hrun h (nums a)) 32 = hrun h (nums (a ++ blank)) := by
  rw [← hrun_two, nums_blank, hrun_cons, hrun_nil]
theorem One.only {c : Nat} {w w' : World} {b h : Nat} (o : One w b h) (k : Only c w w') (hb : b ≠ c) : One w' b h :=
  ⟨Nat.lt_of_lt_of_le o.lt k.size, by rw [k.cell (by simpa using o.lt) (by simpa using hb)]; exact o.c0, by rw [k.frozen (by simpa using o.lt) (by simpa using hb)]; exact o.f0⟩
theorem One.next {w w' : World} {b h : Nat} (o : One w b h) (k : Below w.heap.size w w') : One w' b h := o.kept k o.lt
set_option maxHeartbeats 2000000 in
theorem number_any (b h n : Nat) (w : World) (o : One w b h) (hh : h < 2147483647) (hn : n ≤ 1099511627776) (ht : Tab w) :
    Calls Tryz.prog 99 #[.pointer (some ⟨b, 0, none⟩), .int .i64 n] w fun e w' => e = .returned (.tuple #[]) ∧ One w' b (hrun h (nums (numS n ++ blank))) ∧ Only b w w' := by
  have HO := hidIt o
  have CF := hidIt (fun w => formatInt_any n (by omega) (by omega) w)
  have hs := numS_size n hn
  have HT := hidIt ht
  clear o ht
  go_enter Tryz.func99, Tryz.ntmps99
  go_wp2_with (fail)
  refine (CF.out _ HT.out).mono ?_
  rintro e w1 ⟨rfl, hb1⟩
  have HB1 := hidIt hb1
  clear hb1
  go_wp2_with (fail)
  refine (text_any b h (numS n) _ (HO.out.next HB1.out) hh (by omega)).mono ?_
  rintro e w2 ⟨rfl, hO2, hB2⟩
  have HO2 := hidIt hO2
  have HB2 := hidIt hB2
  clear hO2 hB2
  go_wp2_with (fail)
  refine (take_any b _ 32 _ HO2.out (hrun_lt _ _ hh) (by omega)).mono ?_
  rintro e w3 ⟨rfl, rfl⟩
  go_wp2_with (fail)
  refine bodyPost_end (v := .tuple #[]) (by simp [results, Tryz.results99, go_sem]) rfl ⟨rfl, ?_, ((Only.of_below HB1.out).trans HB2.out).setCell 0 _⟩
  have := HO2.out.put (g := hstep (hrun h (nums (numS n))) 32)
  rw [hrun_blank] at this ⊢
  exact this
set_option maxHeartbeats 2000000 in
theorem point_hash (b h x y : Nat) (w : World) (o : One w b h) (hh : h < 2147483647) (hx : x ≤ 1099511627776) (hy : y ≤ 1099511627776) (ht : Tab w) (hb : 2 < b) :
    Calls Tryz.prog 132 #[.pointer (some ⟨b, 0, none⟩), .agg #[.int .i64 x, .int .i64 y]] w fun e w' => e = .returned (.tuple #[]) ∧ One w' b (hrun h (nums (ptS x y))) ∧ Only b w w' := by
  have HO := hidIt o
  have HT := hidIt ht
  have hlt := o.lt
  clear o ht
  go_enter Tryz.func132, Tryz.ntmps132
  go_wp2_with (fail)
  refine (number_any b h x _ (HO.out.next ((Below.refl _ _).alloc (Nat.le_refl _) _)) hh hx HT.out.old).mono ?_
  rintro e w1 ⟨rfl, hO1, hB1⟩
  have HO1 := hidIt hO1
  have HB1 := hidIt hB1
  have c1 := hB1.cell (p := ⟨w.heap.size, 1, none⟩) (by simp) (by simp; omega)
  simp at c1
  clear hO1 hB1
  have HT1 := hidIt (HT.out.old.only HB1.out hb)
  go_wp2_with (fail)
  refine (number_any b _ y _ HO1.out (hrun_lt _ _ hh) hy HT1.out).mono ?_
  rintro e w2 ⟨rfl, hO2, hB2⟩
  have HO2 := hidIt hO2
  have HB2 := hidIt hB2
  clear hO2 hB2
  go_wp2_with (fail)
  refine bodyPost_end (v := .tuple #[]) (by simp [results, Tryz.results132, go_sem]) rfl ⟨rfl, ?_, (((Only.refl b w).alloc _).trans HB1.out).trans HB2.out⟩
  have := HO2.out
  rw [hrun_pt] at this
  exact this
/-- The nonce of a secret and a text. -/
def noN (n : Nat) (s : ByteArray) : Nat := hashN (nums (numS n ++ blank ++ s)) % 2548 + 1
theorem noN_lt (n : Nat) (s : ByteArray) : noN n s < 2549 := by unfold noN; omega
theorem noN_pos (n : Nat) (s : ByteArray) : 0 < noN n s := by unfold noN; omega
set_option maxHeartbeats 2000000 in
theorem nonceOf_any (n : Nat) (s : ByteArray) (w : World) (hn : n ≤ 1099511627776) (hs : s.size ≤ 9223372036854775807) (ht : Tab w) :
    Calls Tryz.prog 111 #[.int .i64 n, .string s] w fun e w' => e = .returned (.int .i64 (noN n s)) ∧ Below w.heap.size w w' := by
  have HT := hidIt ht
  have htl := ht.lt
  have ec : ((noN n s : Nat) : Int) = (hend (hrun 17 (nums (numS n ++ blank ++ s))) : Int) % 2548 + 1 := by
    unfold noN hashN; omega
  rw [ec]
  clear ec ht
  go_enter Tryz.func111, Tryz.ntmps111
  go_wp2_with (fail)
  refine (newHasher_any _).mono ?_
  rintro e w1 ⟨rfl, hb1⟩
  have HB1 := hidIt hb1
  have z1 := hb1.size
  clear hb1
  have HT1 := hidIt (HT.out.kept HB1.out)
  go_wp2_with (fail)
  refine (number_any w1.heap.size 17 n _ (One.newAt rfl) (by omega) hn HT1.out.old).mono ?_
  rintro e w2 ⟨rfl, hO2, hB2⟩
  have HO2 := hidIt hO2
  have HB2 := hidIt hB2
  clear hO2 hB2
  go_wp2_with (fail)
  refine (text_any w1.heap.size _ s _ HO2.out (hrun_lt _ _ (by omega)) hs).mono ?_
  rintro e w3 ⟨rfl, hO3, hB3⟩
  rw [hrun_two] at hO3
  have hl := hrun_lt (nums (numS n ++ blank ++ s)) 17 (by omega)
  have hl2 := hend_lt _ hl
  have CE := hidIt (fun w => ended_any (hrun 17 (nums (numS n ++ blank ++ s))) w hl)
  have HB3 := hidIt hB3
  generalize hg : hrun 17 (nums (numS n ++ blank ++ s)) = g at hO3 CE hl2
  have HG := hidIt hg
  clear hg hl
  have c0 := hO3.c0
  have z3 := hO3.lt
  clear hO3 hB3
  have q0 : (0 : Int) ≤ (hend g : Int) := by omega
  have q1 : (hend g : Int) < 2147483647 := by omega
  go_wp2_with (fail)
  refine (CE.out _).mono ?_
  rintro e w4 ⟨rfl, hb4⟩
  go_wp2_with (fail)
  go_ret
  refine ⟨?_, (((HB1.out.alloc z1 _).trans (HB2.out.below (B := w.heap.size) (by omega) (by simp; omega))).trans (HB3.out.below (B := w.heap.size) (by omega) (by have := HB2.out.size; simp at this; omega))).trans (hb4.mono (by omega))⟩
  rw [HG.out]
  rfl
end Go.Proofs.YtllajhieocploaaGreatDoor.Sg
