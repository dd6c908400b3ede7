/-
  The program's hasher fed with numbers and Points; its nonce.
  Challenge of the program and of the specification: the challenge of two Points and a text; -1 when one is none.
  Signed of the program and of the specification: R and T of a secret and a text; the zero Sig and false when it is no secret.
  Signed of the program at any number; of the specification; two Sigs held against one another.
  Valid of the program and of the specification: is the base, T times, R and the challenge times the key?
-/
import Derived.Test.YtciikondckoboaaGreatDoorBun1
import Derived.Test.YtciikondckoboaaGreatDoorCurveS
import Derived.Test.YtciikondckoboaaGreatDoorSignK
import Derived.Test.YtciikondckoboaaGreatDoorLawD
import Derived.Deep.RegionHeld3
import Derived.Laws.StructEq
namespace Go.Proofs.YtciikondckoboaaGreatDoor.Sg
open Go.ChangeShapes Go.WideShapes Go.ChangeAt Go.RowKit
theorem Tab.lt {w : World} (h : Tab w) : 5 < w.heap.size := by
  unfold Tab Lib.TabIs World.var? at h
  rw [gPow] at h
  simp only [Option.bind_some] at h
  rcases Nat.lt_or_ge 5 w.heap.size with h' | h'
  · exact h'
  · rw [Array.getElem?_eq_none h'] at h; cases h
theorem Tab.only {w w' : World} {b : Nat} (h : Tab w) (k : Only b w w') (hb : 5 < b) : Tab w' := by
  have hl := h.lt
  unfold Tab Lib.TabIs World.var? at h ⊢
  rw [gPow] at h ⊢
  simp only [Option.bind_some] at h ⊢
  rw [k.block _ hl (by omega)]
  exact h
theorem Tab.old {w : World} {o : Obj} (h : Tab w) : Tab (w.alloc o) := h.kept ((Below.refl _ _).alloc (Nat.le_refl _) o)
theorem hrun_pt (h a b : Nat) : hrun (hrun h (nums (numS a ++ blank))) (nums (numS b ++ blank)) = hrun h (nums (ptS a b)) := by
  unfold ptS
  rw [← hrun_append, ← nums_append]
  congr 2
  apply ByteArray.ext
  simp [ByteArray.data_append]
theorem hrun_two (h : Nat) (a b : ByteArray) : hrun (hrun h (nums a)) (nums b) = hrun h (nums (a ++ b)) := by
  rw [← hrun_append, ← nums_append]
theorem nums_blank : nums blank = [32] := rfl
theorem hrun_blank (h : Nat) (a : ByteArray) : hstep (hrun h (nums a)) 32 = hrun h (nums (a ++ blank)) := by
  rw [← hrun_two, nums_blank, hrun_cons, hrun_nil]
theorem One.only {c : Nat} {w w' : World} {b h : Nat} (o : One w b h) (k : Only c w w') (hb : b ≠ c) : One w' b h :=
  ⟨Nat.lt_of_lt_of_le o.lt k.size, by rw [k.cell (by simpa using o.lt) (by simpa using hb)]; exact o.c0, by rw [k.frozen (by simpa using o.lt) (by simpa using hb)]; exact o.f0⟩
theorem One.next {w w' : World} {b h : Nat} (o : One w b h) (k : Below w.heap.size w w') : One w' b h := o.kept k o.lt
set_option maxHeartbeats 2000000 in
theorem number_any (b h n : Nat) (w : World) (o : One w b h) (hh : h < 2147483647) (hn : n ≤ 1099511627776) (ht : Tab w) :
    Calls Tryz.prog 73 #[.pointer (some ⟨b, 0, none⟩), .int .i64 n] w fun e w' => e = .returned (.tuple #[]) ∧ One w' b (hrun h (nums (numS n ++ blank))) ∧ Only b w w' := by
  have HO := hidIt o
  have CF := hidIt (fun w => formatInt_any n (by omega) (by omega) w)
  have hs := numS_size n hn
  have HT := hidIt ht
  clear o ht
  go_enter Tryz.func73, Tryz.ntmps73
  go_wp2_with (fail)
  refine (CF.out _ HT.out).mono ?_
  rintro e w1 ⟨rfl, hb1⟩
  have HB1 := hidIt hb1
  clear hb1
  go_wp2_with (fail)
  refine (text_any b h (numS n) _ (HO.out.next HB1.out) hh (by omega)).mono ?_
  rintro e w2 ⟨rfl, hO2, hB2⟩
  have HO2 := hidIt hO2
  have HB2 := hidIt hB2
  clear hO2 hB2
  go_wp2_with (fail)
  refine (take_any b _ 32 _ HO2.out (hrun_lt _ _ hh) (by omega)).mono ?_
  rintro e w3 ⟨rfl, rfl⟩
  go_wp2_with (fail)
  refine bodyPost_end (v := .tuple #[]) (by simp [results, Tryz.results73, go_sem]) rfl ⟨rfl, ?_, ((Only.of_below HB1.out).trans HB2.out).setCell 0 _⟩
  have := HO2.out.put (g := hstep (hrun h (nums (numS n))) 32)
  rw [hrun_blank] at this ⊢
  exact this
set_option maxHeartbeats 2000000 in
theorem point_hash (b h x y : Nat) (w : World) (o : One w b h) (hh : h < 2147483647) (hx : x ≤ 1099511627776) (hy : y ≤ 1099511627776) (ht : Tab w) (hb : 5 < b) :
    Calls Tryz.prog 52 #[.pointer (some ⟨b, 0, none⟩), .agg #[.int .i64 x, .int .i64 y]] w fun e w' => e = .returned (.tuple #[]) ∧ One w' b (hrun h (nums (ptS x y))) ∧ Only b w w' := by
  have HO := hidIt o
  have HT := hidIt ht
  have hlt := o.lt
  clear o ht
  go_enter Tryz.func52, Tryz.ntmps52
  go_wp2_with (fail)
  refine (number_any b h x _ (HO.out.next ((Below.refl _ _).alloc (Nat.le_refl _) _)) hh hx HT.out.old).mono ?_
  rintro e w1 ⟨rfl, hO1, hB1⟩
  have HO1 := hidIt hO1
  have HB1 := hidIt hB1
  have c1 := hB1.cell (p := ⟨w.heap.size, 1, none⟩) (by simp) (by simp; omega)
  simp at c1
  clear hO1 hB1
  have HT1 := hidIt (HT.out.old.only HB1.out hb)
  go_wp2_with (fail)
  refine (number_any b _ y _ HO1.out (hrun_lt _ _ hh) hy HT1.out).mono ?_
  rintro e w2 ⟨rfl, hO2, hB2⟩
  have HO2 := hidIt hO2
  have HB2 := hidIt hB2
  clear hO2 hB2
  go_wp2_with (fail)
  refine bodyPost_end (v := .tuple #[]) (by simp [results, Tryz.results52, go_sem]) rfl ⟨rfl, ?_, (((Only.refl b w).alloc _).trans HB1.out).trans HB2.out⟩
  have := HO2.out
  rw [hrun_pt] at this
  exact this
/-- The nonce of a secret and a text. -/
def noN (n : Nat) (s : ByteArray) : Nat := hashN (nums (numS n ++ blank ++ s)) % 2548 + 1
theorem noN_lt (n : Nat) (s : ByteArray) : noN n s < 2549 := by unfold noN; omega
theorem noN_pos (n : Nat) (s : ByteArray) : 0 < noN n s := by unfold noN; omega
end Go.Proofs.YtciikondckoboaaGreatDoor.Sg
namespace Go.Proofs.YtciikondckoboaaGreatDoor.Sg
open Go.ChangeShapes Go.WideShapes Go.ChangeAt Go.RowKit
open Cv Cu
theorem ok_le {a b : Nat} (h : okN (a, b) = true) : a ≤ 1099511627776 ∧ b ≤ 1099511627776 := by
  have := ok_el h
  unfold El at this
  simp only at this
  omega
theorem hrun_all (a b s : ByteArray) : hrun (hrun (hrun 17 (nums a)) (nums b)) (nums s) = hrun 17 (nums (a ++ b ++ s)) := by
  rw [hrun_two, hrun_two, ByteArray.append_assoc]
set_option maxRecDepth 100000 in
set_option maxHeartbeats 4000000 in
theorem impl_Challenge_yes (r1 r2 k1 k2 : Nat) (s : ByteArray) (w : World) (hr : okN (r1, r2) = true) (hk : okN (k1, k2) = true) (hs : s.size ≤ 9223372036854775807) (ht : Tab w) :
    Calls Tryz.prog 75 #[.agg #[.int .i64 r1, .int .i64 r2], .agg #[.int .i64 k1, .int .i64 k2], .string s] w fun e w' => e = .returned (.int .i64 (chN r1 r2 k1 k2 s)) ∧ Below w.heap.size w w' := by
  have cr := impl_PointOk r1 r2
  rw [okI_cast, hr] at cr
  have ck := impl_PointOk k1 k2
  rw [okI_cast, hk] at ck
  have CR := hidIt cr
  have CK := hidIt ck
  have HT := hidIt ht
  have htl := ht.lt
  have br := ok_le hr
  have bk := ok_le hk
  have ec : ((chN r1 r2 k1 k2 s : Nat) : Int) = (hend (hrun (hrun (hrun 17 (nums (ptS r1 r2))) (nums (ptS k1 k2))) (nums s)) : Int) % 2549 := by
    rw [hrun_all]; unfold chN hashN; omega
  rw [ec]
  clear ec cr ck hr hk ht
  go_enter Tryz.func75, Tryz.ntmps75
  go_wp2_with (fail)
  refine (CR.out _).mono ?_
  rintro e w1 ⟨rfl, hb1⟩
  obtain ⟨hc1, hf1⟩ := bcell hb1
  have z1 : w.heap.size + 1 < w1.heap.size := by have := hb1.size; simp at this; omega
  have z0 : w.heap.size < w.heap.size + 1 + 1 := by omega
  go_wp2_with (fail)
  refine (CK.out _).mono ?_
  rintro e w2 ⟨rfl, hb2⟩
  obtain ⟨hc2, hf2⟩ := bcell hb2
  have z2 : w.heap.size + 1 < w2.heap.size := by have := hb2.size; omega
  go_wp2_with (fail)
  refine (newHasher_any _).mono ?_
  rintro e w3 ⟨rfl, hb3⟩
  have z3 : w.heap.size + 1 < w3.heap.size := by have := hb3.size; omega
  have B3 : Below w.heap.size w w3 := (((((Below.refl w.heap.size w).alloc (Nat.le_refl _) _).alloc (by simp) _).trans (hb1.mono (B' := w.heap.size) (by simp; omega))).trans (hb2.mono (B' := w.heap.size) (by omega))).trans (hb3.mono (B' := w.heap.size) (by omega))
  have R3 : w3.cell? ⟨w.heap.size, 0, none⟩ = some (.int .i64 r1) := by rw [hb3.cell (by simp; omega), hc2 _ _ (by omega), hc1 _ _ (by simp; omega)]; simp
  have R4 : w3.cell? ⟨w.heap.size, 1, none⟩ = some (.int .i64 r2) := by rw [hb3.cell (by simp; omega), hc2 _ _ (by omega), hc1 _ _ (by simp; omega)]; simp
  have K3 : w3.cell? ⟨w.heap.size + 1, 0, none⟩ = some (.int .i64 k1) := by rw [hb3.cell (by simp; omega), hc2 _ _ (by omega), hc1 _ _ (by simp)]; simp
  have K4 : w3.cell? ⟨w.heap.size + 1, 1, none⟩ = some (.int .i64 k2) := by rw [hb3.cell (by simp; omega), hc2 _ _ (by omega), hc1 _ _ (by simp)]; simp
  have HB3 := hidIt B3
  have HT3 := hidIt (HT.out.kept B3)
  clear hb1 hb2 hb3 hc1 hf1 hc2 hf2 B3
  have z4 : w.heap.size < w3.heap.size := by omega
  have z5 : ¬ w.heap.size = w3.heap.size := by omega
  have z6 : ¬ w.heap.size + 1 = w3.heap.size := by omega
  have z7 : w.heap.size < w3.heap.size + 1 := by omega
  have z8 : w.heap.size + 1 < w3.heap.size + 1 := by omega
  have HK3 := hidIt (And.intro K3 K4)
  go_wp2_with (fail)
  refine (point_hash w3.heap.size 17 r1 r2 _ (One.newAt rfl) (by omega) br.1 br.2 HT3.out.old (by omega)).mono ?_
  rintro e w4 ⟨rfl, hO4, hB4⟩
  have HO4 := hidIt hO4
  have HB4 := hidIt hB4
  have K5 := hB4.cell (p := ⟨w.heap.size + 1, 0, none⟩) (by simp; omega) (by simp; omega)
  have K6 := hB4.cell (p := ⟨w.heap.size + 1, 1, none⟩) (by simp; omega) (by simp; omega)
  rw [World.cell?_alloc_old _ _ _ (by simp; omega)] at K5 K6
  rw [K3] at K5
  rw [K4] at K6
  have y4 : w3.heap.size < w4.heap.size := hO4.lt
  have HT4 := hidIt (HT3.out.old.only hB4 (by omega))
  clear hO4 hB4 K3 K4 R3 R4
  go_wp2_with (fail)
  refine (point_hash w3.heap.size _ k1 k2 _ HO4.out (hrun_lt _ _ (by omega)) bk.1 bk.2 HT4.out (by omega)).mono ?_
  rintro e w5 ⟨rfl, hO5, hB5⟩
  have HO5 := hidIt hO5
  have HB5 := hidIt hB5
  clear hO5 hB5 K5 K6
  go_wp2_with (fail)
  refine (text_any w3.heap.size _ s _ HO5.out (hrun_lt _ _ (hrun_lt _ _ (by omega))) hs).mono ?_
  rintro e w6 ⟨rfl, hO6, hB6⟩
  have hl := hrun_lt (nums s) _ (hrun_lt (nums (ptS k1 k2)) _ (hrun_lt (nums (ptS r1 r2)) 17 (by omega)))
  have hl2 := hend_lt _ hl
  have CE := hidIt (fun w => ended_any _ w hl)
  have HB6 := hidIt hB6
  generalize hg : hrun (hrun (hrun 17 (nums (ptS r1 r2))) (nums (ptS k1 k2))) (nums s) = g at hO6 CE hl2
  have HG := hidIt hg
  have c0 := hO6.c0
  have y6 := hO6.lt
  clear hg hl hO6 hB6
  have q0 : (0 : Int) ≤ (hend g : Int) := by omega
  have q1 : (hend g : Int) < 2147483647 := by omega
  go_wp2_with (fail)
  refine (CE.out _).mono ?_
  rintro e w7 ⟨rfl, hb7⟩
  go_wp2_with (fail)
  go_ret
  have y5 := HB5.out.size
  have b4 := (HB3.out.alloc (by omega) _).trans (HB4.out.below (B := w.heap.size) (by omega) (by simp; omega))
  have b6 := (b4.trans (HB5.out.below (B := w.heap.size) (by omega) (by omega))).trans (HB6.out.below (B := w.heap.size) (by omega) (by omega))
  refine ⟨?_, b6.trans (hb7.mono (by omega))⟩
  rw [HG.out]
  rfl
set_option maxRecDepth 100000 in
set_option maxHeartbeats 4000000 in
theorem impl_Challenge_no (r1 r2 k1 k2 : Int) (s : ByteArray) (w : World) (h : okI r1 r2 = false ∨ okI r1 r2 = true ∧ okI k1 k2 = false) :
    Calls Tryz.prog 75 #[.agg #[.int .i64 r1, .int .i64 r2], .agg #[.int .i64 k1, .int .i64 k2], .string s] w fun e w' => e = .returned (.int .i64 (-1)) ∧ Below w.heap.size w w' := by
  have cr := impl_PointOk r1 r2
  have ck := impl_PointOk k1 k2
  rcases h with h | ⟨h, h2⟩
  · rw [h] at cr
    have CR := hidIt cr
    clear cr ck h
    go_enter Tryz.func75, Tryz.ntmps75
    go_wp2_with (fail)
    refine (CR.out _).mono ?_
    rintro e w1 ⟨rfl, hb1⟩
    go_wp2_with (fail)
    go_ret
    exact ⟨rfl, (((Below.refl w.heap.size w).alloc (Nat.le_refl _) _).alloc (by simp) _).trans (hb1.mono (B' := w.heap.size) (by simp; omega))⟩
  · rw [h] at cr
    rw [h2] at ck
    have CR := hidIt cr
    have CK := hidIt ck
    clear cr ck h h2
    go_enter Tryz.func75, Tryz.ntmps75
    go_wp2_with (fail)
    refine (CR.out _).mono ?_
    rintro e w1 ⟨rfl, hb1⟩
    obtain ⟨hc1, hf1⟩ := bcell hb1
    have z1 : w.heap.size + 1 < w1.heap.size := by have := hb1.size; simp at this; omega
    go_wp2_with (fail)
    refine (CK.out _).mono ?_
    rintro e w2 ⟨rfl, hb2⟩
    go_wp2_with (fail)
    go_ret
    exact ⟨rfl, ((((Below.refl w.heap.size w).alloc (Nat.le_refl _) _).alloc (by simp) _).trans (hb1.mono (B' := w.heap.size) (by simp; omega))).trans (hb2.mono (by omega))⟩
end Go.Proofs.YtciikondckoboaaGreatDoor.Sg
namespace Go.Proofs.YtciikondckoboaaGreatDoor.Sg
open Go.ChangeShapes Go.WideShapes Go.ChangeAt Go.RowKit
open Cv Cu
/-- R of a secret and a text. -/
def sgR (n : Nat) (s : ByteArray) : Nat × Nat := ns (2791, 6375) (noN n s)
/-- T of a secret and a text. -/
def sgT (n : Nat) (s : ByteArray) : Nat := (noN n s + chN (sgR n s).1 (sgR n s).2 (ns (2791, 6375) n).1 (ns (2791, 6375) n).2 s * n) % 2549
theorem sgT_lt (n : Nat) (s : ByteArray) : sgT n s < 2549 := Nat.mod_lt _ (by omega)
theorem wrap_small (m : Int) (h1 : 0 ≤ m) (h2 : m ≤ 9000000000) : IntKind.i64.wrap m = m := by rw [IntKind.wrap_i64]; omega
theorem prod_le {c n : Nat} (hc : c < 2549) (hn : n < 2549) : c * n ≤ 6492304 := Nat.mul_le_mul (show c ≤ 2548 by omega) (show n ≤ 2548 by omega)
/-- Block b holds the three numbers x, y, z, and may be written. -/
structure Tri (w : World) (b : Nat) (x y z : Int) : Prop where
  lt : b < w.heap.size
  c0 : w.cell? ⟨b, 0, none⟩ = some (.int .i64 x)
  c1 : w.cell? ⟨b, 1, none⟩ = some (.int .i64 y)
  c2 : w.cell? ⟨b, 2, none⟩ = some (.int .i64 z)
  f0 : w.frozen? ⟨b, 0, none⟩ = false
  f1 : w.frozen? ⟨b, 1, none⟩ = false
  f2 : w.frozen? ⟨b, 2, none⟩ = false
theorem Tri.next {w w' : World} {b : Nat} {x y z : Int} (h : Tri w b x y z) (k : Below w.heap.size w w') : Tri w' b x y z :=
  ⟨Nat.lt_of_lt_of_le h.lt k.size, by rw [k.cell (by simpa using h.lt)]; exact h.c0, by rw [k.cell (by simpa using h.lt)]; exact h.c1, by rw [k.cell (by simpa using h.lt)]; exact h.c2, by rw [k.frozen (by simpa using h.lt)]; exact h.f0, by rw [k.frozen (by simpa using h.lt)]; exact h.f1, by rw [k.frozen (by simpa using h.lt)]; exact h.f2⟩
theorem Tri.old {w : World} {o : Obj} {b : Nat} {x y z : Int} (h : Tri w b x y z) : Tri (w.alloc o) b x y z := h.next ((Below.refl w.heap.size w).alloc (Nat.le_refl _) o)
theorem Tri.newAt {w : World} {x y z : Int} {T : TypeId} {k : Nat} (h : w.heap.size = k) : Tri (w.alloc (.cells #[.int .i64 x, .int .i64 y, .int .i64 z] T)) k x y z := by
  subst h; exact ⟨by simp, by simp, by simp, by simp, by simp, by simp, by simp⟩
theorem Tri.put {w : World} {b : Nat} {x y z x' y' z' : Int} (h : Tri w b x y z) : Tri (((w.setCell ⟨b, 0, none⟩ (.int .i64 x')).setCell ⟨b, 1, none⟩ (.int .i64 y')).setCell ⟨b, 2, none⟩ (.int .i64 z')) b x' y' z' := by
  refine ⟨by simpa [World.setCell] using h.lt, ?_, ?_, ?_, ?_, ?_, ?_⟩
  · rw [cell_set_other (by decide), cell_set_other (by decide)]; exact World.cell?_setCell_same' _ _ _ (by rw [h.c0]; rfl)
  · rw [cell_set_other (by decide)]; exact World.cell?_setCell_same' _ _ _ (by rw [cell_set_other (by decide), h.c1]; rfl)
  · exact World.cell?_setCell_same' _ _ _ (by rw [cell_set_other (by decide), cell_set_other (by decide), h.c2]; rfl)
  · simpa using h.f0
  · simpa using h.f1
  · simpa using h.f2
theorem Tri.drew {w : World} {b : Nat} {x y z : Int} (h : Tri w b x y z) : Tri w.drew b x y z := ⟨h.lt, h.c0, h.c1, h.c2, h.f0, h.f1, h.f2⟩
theorem Tw.drew {w : World} {b : Nat} {x y : Int} (h : Tw w b x y) : Tw w.drew b x y := ⟨h.lt, h.c0, h.c1⟩
theorem ret_via3 {fn : Func} {tm : Array Value} {wf : World} {b : Nat} {x y z : Int} {v : Value} (t : Tri wf b x y z) (h : ∀ w2, Tri w2 b x y z → (results fn tm).run Tryz.prog w2 = .ok v w2) : (results fn tm).run Tryz.prog wf = .ok v wf := h wf t
end Go.Proofs.YtciikondckoboaaGreatDoor.Sg
namespace Go.Proofs.YtciikondckoboaaGreatDoor.Sg
open Go.ChangeShapes Go.WideShapes Go.ChangeAt Go.RowKit
open Cv Cu
theorem sgR_eq (n : Nat) (s : ByteArray) : sgR n s = ns (2791, 6375) (noN n s) := sgR.eq_1 n s
theorem pr (p : Nat × Nat) : (p.1, p.2) = p := rfl
theorem sgR_ok (n : Nat) (s : ByteArray) : okN ((sgR n s).1, (sgR n s).2) = true := by rw [pr, sgR_eq]; exact ns_ok ok_base _
theorem key_ok (n : Nat) : okN ((ns (2791, 6375) n).1, (ns (2791, 6375) n).2) = true := by rw [pr]; exact ns_ok ok_base _
/-- The challenge of what is signed. -/
def sgC (n : Nat) (s : ByteArray) : Nat := chN (sgR n s).1 (sgR n s).2 (ns (2791, 6375) n).1 (ns (2791, 6375) n).2 s
theorem sgC_eq (n : Nat) (s : ByteArray) : sgC n s = chN (sgR n s).1 (sgR n s).2 (ns (2791, 6375) n).1 (ns (2791, 6375) n).2 s := sgC.eq_1 n s
theorem sgC_lt (n : Nat) (s : ByteArray) : sgC n s < 2549 := by rw [sgC_eq]; exact chN_lt _ _ _ _ _
theorem sgT_eq (n : Nat) (s : ByteArray) : sgT n s = (noN n s + sgC n s * n) % 2549 := by rw [sgC_eq]; exact sgT.eq_1 n s
theorem noN_eq (n : Nat) (s : ByteArray) : noN n s = hashN (nums (numS n ++ blank ++ s)) % 2548 + 1 := noN.eq_1 n s
set_option maxRecDepth 100000 in
set_option maxHeartbeats 4000000 in
theorem l3Signed_aux (n k c R1 R2 K1 K2 T : Nat) (s x : ByteArray) (hh : Nat) (w : World) (h2 : n < 2549) (hc : c < 2549) (hk : hh % 2548 + 1 = k) (hT : (k + c * n) % 2549 = T) (hx : x.size ≤ 21) (hs : s.size ≤ 4611686018427380000) (hlt : hh < 2147483647)
    (cn : ∀ w, Calls Tryz.prog 37 #[.int .i64 n] w fun e w' => e = .returned (.string x) ∧ Below w.heap.size w w')
    (ch : ∀ w, Calls Tryz.prog 57 #[.string (x ++ ⟨#[32]⟩ ++ s)] w fun e w' => e = .returned (.int .i64 hh) ∧ w' = w)
    (cr : ∀ w, Calls Tryz.prog 14 #[.int .i64 k, .agg #[.int .i64 2791, .int .i64 6375]] w fun e w' => e = .returned (.agg #[.int .i64 R1, .int .i64 R2]) ∧ Below w.heap.size w w')
    (ck : ∀ w, Calls Tryz.prog 14 #[.int .i64 n, .agg #[.int .i64 2791, .int .i64 6375]] w fun e w' => e = .returned (.agg #[.int .i64 K1, .int .i64 K2]) ∧ Below w.heap.size w w')
    (cc : ∀ w, Calls Tryz.prog 61 #[.agg #[.int .i64 R1, .int .i64 R2], .agg #[.int .i64 K1, .int .i64 K2], .string s] w fun e w' => e = .returned (.int .i64 c) ∧ Below w.heap.size w w') :
    Calls Tryz.prog 36 #[.int .i64 n, .string s] w fun e w' => e = .returned (.agg #[.int .i64 R1, .int .i64 R2, .int .i64 T]) ∧ Below w.heap.size w w' := by
  have CK := hidIt ck
  have CN := hidIt cn
  have CH := hidIt ch
  have CR := hidIt cr
  have CC := hidIt cc
  have hp := prod_le hc h2
  have hk2 : k < 2549 := by omega
  have q1 : (0 : Int) ≤ (c : Int) * (n : Int) := Int.mul_nonneg (by omega) (by omega)
  have q2 : (c : Int) * (n : Int) ≤ 6492304 := by rw [← Int.natCast_mul]; omega
  have q3 : ((k : Int) + (c : Int) * (n : Int)).tmod 2549 = (T : Int) := by rw [Int.tmod_eq_emod_of_nonneg (by omega), ← Int.natCast_mul, ← hT]; omega
  have q4 : ((k : Int) + (c : Int) * (n : Int)) % 2549 = (T : Int) := by rw [← Int.natCast_mul, ← hT]; omega
  have e1 : IntKind.i64.wrap ((c : Int) * (n : Int)) = (c : Int) * (n : Int) := wrap_small _ q1 (by omega)
  have e2 : IntKind.i64.wrap ((k : Int) + (c : Int) * (n : Int)) = (k : Int) + (c : Int) * (n : Int) := wrap_small _ (by omega) (by omega)
  have e3 : (hh : Int) % 2548 + 1 = (k : Int) := by omega
  have p0 : (0 : Int) ≤ (hh : Int) := by omega
  have p1 : (hh : Int) < 2147483647 := by omega
  have g0 : (⟨#[32]⟩ : ByteArray).size = 1 := rfl
  have g1 : ¬ 9223372036854775807 < x.size + 1 := by omega
  have g2 : ¬ 9223372036854775807 < x.size + 1 + s.size := by omega
  clear ck cn ch cr cc hT hp hk
  go_enter Tryz.func36, Tryz.ntmps36
  go_wp2_with (fail)
  refine (CN.out _).mono ?_
  rintro e w1 ⟨rfl, hb1⟩
  have S1 := hidIt ((Tri.newAt (w := w) (x := 0) (y := 0) (z := 0) (T := 28) rfl).next hb1)
  have B1 := hidIt (below_step (Below.refl w.heap.size w) hb1)
  clear hb1
  go_wp2_with (fail)
  refine (CH.out _).mono ?_
  rintro e w2 ⟨rfl, rfl⟩
  go_wp2_with (fail)
  refine (spec_Base _).mono ?_
  rintro e w3 ⟨rfl, hb3⟩
  have S3 := hidIt (S1.out.next hb3)
  have B3 := hidIt (below_next B1.out hb3)
  clear hb3 S1 B1
  go_wp2_with (fail)
  refine (CR.out _).mono ?_
  rintro e w4 ⟨rfl, hb4⟩
  have S4 := hidIt (S3.out.next hb4)
  have B4 := hidIt (below_next B3.out hb4)
  clear hb4 S3 B3
  go_upto_region 3 with fail
  have SZ := S4.out.old (o := .cells #[.int .i64 R1, .int .i64 R2] 26)
  have RZ := Tw.newAt (w := w4) (x := R1) (y := R2) (T := 26) rfl
  have BZ := below_old (o := .cells #[.int .i64 R1, .int .i64 R2] 26) B4.out
  clear S4 B4
  generalize w4.alloc (.cells #[.int .i64 R1, .int .i64 R2] 26) = wz at SZ RZ BZ ⊢
  generalize w4.heap.size = bR at RZ ⊢
  have HS := hidIt SZ
  have HBZ := hidIt BZ
  have HR := hidIt RZ
  have r0 := RZ.c0
  have r1 := RZ.c1
  have r2 := RZ.lt
  clear SZ BZ RZ
  go_region_with (first
    | (go_at_call 15; refine (spec_Base _).mono ?_; rintro e wA ⟨rfl, hbA⟩; have HA := hidIt (HS.out.drew.next hbA); have RA := hidIt ((Sg.Tw.drew HR.out).next hbA); have BA := hidIt (below_next (Below.drew HBZ.out) hbA); have rA0 := RA.out.c0; have rA1 := RA.out.c1; have rA2 := RA.out.lt; clear hbA)
    | (go_at_call 14; refine (CK.out _).mono ?_; rintro e wB ⟨rfl, hbB⟩; have HB := hidIt (HA.out.next hbB); have RB := hidIt (RA.out.next hbB); have BB := hidIt (below_next BA.out hbB); have rB0 := RB.out.c0; have rB1 := RB.out.c1; have rB2 := RB.out.lt; clear hbB)
    | (go_at_call 61; refine (CC.out _).mono ?_; rintro e wC ⟨rfl, hbC⟩; have HC := hidIt (HB.out.next hbC); have RC := hidIt (RB.out.next hbC); have BC := hidIt (below_next BB.out hbC); have rC0 := RC.out.c0; have rC1 := RC.out.c1; have rC2 := RC.out.lt; have x0 := HC.out.c0; have x1 := HC.out.c1; have x2 := HC.out.c2; have x3 := HC.out.f0; have x4 := HC.out.f1; have x5 := HC.out.f2; have x6 := HC.out.lt; clear hbC))
  all_goals
    go_wp2_with (fail)
    refine bodyPost_ret (v := .agg #[.int .i64 R1, .int .i64 R2, .int .i64 T]) ?_ rfl ⟨rfl, ((BC.out.setCell (by simp) _).setCell (by simp) _).setCell (by simp) _⟩
    refine ret_via3 (HC.out.put (x' := R1) (y' := R2) (z' := T)) (fun w9 j => ?_)
    have j0 := j.c0
    have j1 := j.c1
    have j2 := j.c2
    clear j x0 x1 x2 x3 x4 x5 x6 r0 r1 r2 rA0 rA1 rA2 rB0 rB1 rB2 rC0 rC1 rC2
    simp [results, Tryz.results36, go_sem, j0, j1, j2]
theorem l2Times_R (n : Nat) (s : ByteArray) (w : World) : Calls Tryz.prog 14 #[.int .i64 (noN n s), .agg #[.int .i64 2791, .int .i64 6375]] w fun e w' => e = .returned (.agg #[.int .i64 (sgR n s).1, .int .i64 (sgR n s).2]) ∧ Below w.heap.size w w' := by
  have h := l2Times_any 2791 6375 (noN n s) w ok_base (by have := noN_lt n s; omega)
  rw [← sgR_eq] at h
  exact h
theorem l3Challenge_R (n : Nat) (s : ByteArray) (w : World) (hs : s.size ≤ 4611686018427380000) :
    Calls Tryz.prog 61 #[.agg #[.int .i64 (sgR n s).1, .int .i64 (sgR n s).2], .agg #[.int .i64 (ns (2791, 6375) n).1, .int .i64 (ns (2791, 6375) n).2], .string s] w fun e w' => e = .returned (.int .i64 (sgC n s)) ∧ Below w.heap.size w w' := by
  rw [sgC_eq]
  have h1 := ok_le (sgR_ok n s)
  have h2 := ok_le (key_ok n)
  exact l3Challenge_any (sgR n s).1 (sgR n s).2 (ns (2791, 6375) n).1 (ns (2791, 6375) n).2 s w h1.1 h1.2 h2.1 h2.2 hs
theorem l1Int_S (n : Nat) (w : World) (hn : n < 2549) : Calls Tryz.prog 37 #[.int .i64 n] w fun e w' => e = .returned (.string (numS n)) ∧ Below w.heap.size w w' := by
  have h := l1Int_any n w (by omega)
  rw [show (⟨(Lib.itoa n).toArray⟩ : ByteArray) = numS n from (numS.eq_1 n).symm] at h
  exact h
theorem spec_Hash_S (n : Nat) (s : ByteArray) (w : World) (hn : n < 2549) (hs : s.size ≤ 4611686018427380000) : Calls Tryz.prog 57 #[.string (numS n ++ ⟨#[32]⟩ ++ s)] w fun e w' => e = .returned (.int .i64 (hashN (nums (numS n ++ blank ++ s)))) ∧ w' = w := by
  rw [← blank.eq_1]
  exact spec_Hash _ w (by have := numS_size n (by omega); rw [ByteArray.size_append, ByteArray.size_append, blank_size]; omega)
theorem l3Signed_any (n : Nat) (s : ByteArray) (w : World) (h2 : n < 2549) (hs : s.size ≤ 4611686018427380000) :
    Calls Tryz.prog 36 #[.int .i64 n, .string s] w fun e w' => e = .returned (.agg #[.int .i64 (sgR n s).1, .int .i64 (sgR n s).2, .int .i64 (sgT n s)]) ∧ Below w.heap.size w w' :=
  l3Signed_aux n (noN n s) (sgC n s) (sgR n s).1 (sgR n s).2 (ns (2791, 6375) n).1 (ns (2791, 6375) n).2 (sgT n s) s (numS n) (hashN (nums (numS n ++ blank ++ s))) w h2 (sgC_lt n s) (noN_eq n s).symm (sgT_eq n s).symm (numS_size n (by omega)) hs (hashN_lt _)
    (fun w => l1Int_S n w h2) (fun w => spec_Hash_S n s w h2 hs) (l2Times_R n s) (fun w => l2Times_any 2791 6375 n w ok_base (by omega))
    (fun w => l3Challenge_R n s w hs)
end Go.Proofs.YtciikondckoboaaGreatDoor.Sg
namespace Go.Proofs.YtciikondckoboaaGreatDoor.Sg
open Go.ChangeShapes Go.WideShapes Go.ChangeAt Go.RowKit
open Cv Cu
/-- Five cells: two of a block, three of the next one. -/
def Five (w : World) (s : Nat) (a b c d e : Int) : Prop := w.cell? ⟨s, 0, none⟩ = some (.int .i64 a) ∧ w.cell? ⟨s, 1, none⟩ = some (.int .i64 b) ∧ w.cell? ⟨s + 1, 0, none⟩ = some (.int .i64 c) ∧ w.cell? ⟨s + 1, 1, none⟩ = some (.int .i64 d) ∧ w.cell? ⟨s + 1, 2, none⟩ = some (.int .i64 e)
theorem five_kept {W wA : World} {s : Nat} {a b c d e : Int} (k : Below W.heap.size W wA)
    (h : W.cell? ⟨s, 0, none⟩ = some (.int .i64 a) ∧ W.cell? ⟨s, 1, none⟩ = some (.int .i64 b) ∧ W.cell? ⟨s + 1, 0, none⟩ = some (.int .i64 c) ∧ W.cell? ⟨s + 1, 1, none⟩ = some (.int .i64 d) ∧ W.cell? ⟨s + 1, 2, none⟩ = some (.int .i64 e)) (hs : s + 1 < W.heap.size) :
    wA.cell? ⟨s, 0, none⟩ = some (.int .i64 a) ∧ wA.cell? ⟨s, 1, none⟩ = some (.int .i64 b) ∧ wA.cell? ⟨s + 1, 0, none⟩ = some (.int .i64 c) ∧ wA.cell? ⟨s + 1, 1, none⟩ = some (.int .i64 d) ∧ wA.cell? ⟨s + 1, 2, none⟩ = some (.int .i64 e) := by
  rw [k.cell (by simp; omega), k.cell (by simp; omega), k.cell (by simp; omega), k.cell (by simp; omega), k.cell (by simp; omega)]
  exact h
theorem five_kept_drew {W wA : World} {s : Nat} {a b c d e : Int} (k : Below W.drew.heap.size W.drew wA)
    (h : W.cell? ⟨s, 0, none⟩ = some (.int .i64 a) ∧ W.cell? ⟨s, 1, none⟩ = some (.int .i64 b) ∧ W.cell? ⟨s + 1, 0, none⟩ = some (.int .i64 c) ∧ W.cell? ⟨s + 1, 1, none⟩ = some (.int .i64 d) ∧ W.cell? ⟨s + 1, 2, none⟩ = some (.int .i64 e)) (hs : s + 1 < W.heap.size) :
    wA.cell? ⟨s, 0, none⟩ = some (.int .i64 a) ∧ wA.cell? ⟨s, 1, none⟩ = some (.int .i64 b) ∧ wA.cell? ⟨s + 1, 0, none⟩ = some (.int .i64 c) ∧ wA.cell? ⟨s + 1, 1, none⟩ = some (.int .i64 d) ∧ wA.cell? ⟨s + 1, 2, none⟩ = some (.int .i64 e) :=
  five_kept (W := W.drew) k h hs
theorem five_new (w : World) (a b c d e : Int) (T1 T2 : TypeId) :
    ((w.alloc (.cells #[.int .i64 a, .int .i64 b] T1)).alloc (.cells #[.int .i64 c, .int .i64 d, .int .i64 e] T2)).cell? ⟨w.heap.size, 0, none⟩ = some (.int .i64 a) ∧ ((w.alloc (.cells #[.int .i64 a, .int .i64 b] T1)).alloc (.cells #[.int .i64 c, .int .i64 d, .int .i64 e] T2)).cell? ⟨w.heap.size, 1, none⟩ = some (.int .i64 b) ∧ ((w.alloc (.cells #[.int .i64 a, .int .i64 b] T1)).alloc (.cells #[.int .i64 c, .int .i64 d, .int .i64 e] T2)).cell? ⟨w.heap.size + 1, 0, none⟩ = some (.int .i64 c) ∧ ((w.alloc (.cells #[.int .i64 a, .int .i64 b] T1)).alloc (.cells #[.int .i64 c, .int .i64 d, .int .i64 e] T2)).cell? ⟨w.heap.size + 1, 1, none⟩ = some (.int .i64 d) ∧ ((w.alloc (.cells #[.int .i64 a, .int .i64 b] T1)).alloc (.cells #[.int .i64 c, .int .i64 d, .int .i64 e] T2)).cell? ⟨w.heap.size + 1, 2, none⟩ = some (.int .i64 e) := by
  have t0 := (Tw.newAt (w := w) (x := a) (y := b) (T := T1) rfl).old (o := .cells #[.int .i64 c, .int .i64 d, .int .i64 e] T2)
  refine ⟨t0.c0, t0.c1, ?_, ?_, ?_⟩
  all_goals
    have h := World.cell?_alloc_mark (w.alloc (.cells #[.int .i64 a, .int .i64 b] T1)) #[.int .i64 c, .int .i64 d, .int .i64 e] T2 (0, 0)
    have hz : (w.alloc (.cells #[.int .i64 a, .int .i64 b] T1)).heap.size = w.heap.size + 1 := by simp
    rw [hz] at h
    rw [h]
    rfl
theorem Five.next {w w' : World} {s : Nat} {a b c d e : Int} (h : Five w s a b c d e) (k : Below w.heap.size w w') (hs : s + 1 < w.heap.size) : Five w' s a b c d e := five_kept k h hs
set_option maxRecDepth 100000 in
set_option maxHeartbeats 4000000 in
theorem impl_Valid_aux (K1 K2 R1 R2 : Int) (T c : Nat) (P1 P2 S1 S2 A1 A2 : Int) (s : ByteArray) (w : World) (ht : Tab w) (hT : T < 2549)
    (cc : ∀ w, Tab w → Calls Tryz.prog 75 #[.agg #[.int .i64 R1, .int .i64 R2], .agg #[.int .i64 K1, .int .i64 K2], .string s] w fun e w' => e = .returned (.int .i64 c) ∧ Below w.heap.size w w')
    (cp : ∀ w, Calls Tryz.prog 76 #[.int .i64 c, .agg #[.int .i64 K1, .int .i64 K2]] w fun e w' => e = .returned (.tuple #[.agg #[.int .i64 P1, .int .i64 P2], .bool true]) ∧ Below w.heap.size w w')
    (cs : ∀ w, Calls Tryz.prog 77 #[.agg #[.int .i64 R1, .int .i64 R2], .agg #[.int .i64 P1, .int .i64 P2]] w fun e w' => e = .returned (.tuple #[.agg #[.int .i64 S1, .int .i64 S2], .bool true]) ∧ Below w.heap.size w w')
    (ca : ∀ w, Calls Tryz.prog 78 #[.int .i64 T] w fun e w' => e = .returned (.agg #[.int .i64 A1, .int .i64 A2]) ∧ Below w.heap.size w w') :
    Calls Tryz.prog 59 #[.agg #[.int .i64 K1, .int .i64 K2], .string s, .agg #[.int .i64 R1, .int .i64 R2, .int .i64 T]] w fun e w' => e = .returned (.bool (A1 == S1 && A2 == S2)) ∧ Below w.heap.size w w' := by
  have CC := hidIt cc
  have CP := hidIt cp
  have CS := hidIt cs
  have CA := hidIt ca
  have HT := hidIt ht
  have q0 : ((c : Int) == -1) = false := by simp
  have q1 : ¬ (T : Int) < 0 := by omega
  have q2 : ¬ (2549 : Int) ≤ (T : Int) := by omega
  have z0 : w.heap.size < w.heap.size + 1 + 1 := by omega
  have F0 := hidIt (five_new w K1 K2 R1 R2 T 26 28)
  have B0 := hidIt (((Below.refl w.heap.size w).alloc (Nat.le_refl _) (.cells #[.int .i64 K1, .int .i64 K2] 26)).alloc (by simp) (.cells #[.int .i64 R1, .int .i64 R2, .int .i64 T] 28))
  clear cc cp cs ca ht
  go_enter Tryz.func59, Tryz.ntmps59
  go_wp2_with (fail)
  refine (CC.out _ (HT.out.kept B0.out)).mono ?_
  rintro e w1 ⟨rfl, hb1⟩
  have F1 : Five w1 w.heap.size K1 K2 R1 R2 T := five_kept hb1 F0.out (by simp)
  have B1 := hidIt (below_next B0.out hb1)
  have z1 : w.heap.size + 1 < w1.heap.size := by have := hb1.size; simp at this; omega
  have H1 := hidIt F1
  obtain ⟨a0, a1, a2, a3, a4⟩ := F1
  clear hb1 F0 B0
  go_wp2_with (fail)
  refine (CP.out _).mono ?_
  rintro e w2 ⟨rfl, hb2⟩
  have F2 := H1.out.next hb2 z1
  have B2 := hidIt (below_next B1.out hb2)
  have z2 : w.heap.size + 1 < w2.heap.size := by have := hb2.size; omega
  have z3 : w.heap.size + 1 < w2.heap.size + 1 := by omega
  have z4 : ¬ w.heap.size + 1 = w2.heap.size := by omega
  have H2 := hidIt F2
  obtain ⟨b0, b1, b2, b3, b4⟩ := F2
  clear hb2 B1 H1 a0 a1 a2 a3 a4
  go_wp2_with (fail)
  refine (CS.out _).mono ?_
  rintro e w3 ⟨rfl, hb3⟩
  have F3 : Five w3 w.heap.size K1 K2 R1 R2 T := (H2.out.next ((Below.refl w2.heap.size w2).alloc (Nat.le_refl _) _) z2).next hb3 (by simp; omega)
  have B3 := hidIt (below_step B2.out hb3)
  have z5 : w.heap.size + 1 < w3.heap.size := by have := hb3.size; simp at this; omega
  clear hb3 B2 H2 b0 b1 b2 b3 b4 z2 z3 z4
  have z6 : w.heap.size + 1 < w3.heap.size + 1 := by omega
  have z7 : ¬ w.heap.size + 1 = w3.heap.size := by omega
  go_upto_region 6 with fail
  have FZ : Five (w3.alloc (.cells #[.int .i64 S1, .int .i64 S2] 26)) w.heap.size K1 K2 R1 R2 T := F3.next ((Below.refl w3.heap.size w3).alloc (Nat.le_refl _) _) z5
  have SZ := Tw.newAt (w := w3) (x := S1) (y := S2) (T := 26) rfl
  have BZ := hidIt (below_old (o := .cells #[.int .i64 S1, .int .i64 S2] 26) B3.out)
  clear F3 B3 z6 z7
  generalize w3.alloc (.cells #[.int .i64 S1, .int .i64 S2] 26) = wz at FZ SZ BZ ⊢
  generalize w3.heap.size = bS at SZ ⊢
  have HS := hidIt SZ
  have m0 := FZ.2.2.2.2
  have m1 := SZ.c0
  have m2 := SZ.c1
  have m3 := SZ.lt
  clear FZ SZ
  have hp : (A1 = S1 ∧ A2 = S2) ∨ (A1 = S1 ∧ (A2 == S2) = false) ∨ (A1 == S1) = false := by
    by_cases h1 : A1 = S1
    · by_cases h2 : A2 = S2
      · exact .inl ⟨h1, h2⟩
      · exact .inr (.inl ⟨h1, by simpa using h2⟩)
    · exact .inr (.inr (by simpa using h1))
  rcases hp with ⟨rfl, rfl⟩ | ⟨rfl, hp⟩ | hp
  all_goals
   go_region_with (go_at_call 78; refine (CA.out _).mono ?_; rintro e w4 ⟨rfl, hb4⟩; have B4 := hidIt (below_next (Below.drew BZ.out) hb4); have n1 := (Tw.next (w := wz.drew) ⟨HS.out.lt, HS.out.c0, HS.out.c1⟩ hb4).c0; have n2 := (Tw.next (w := wz.drew) ⟨HS.out.lt, HS.out.c0, HS.out.c1⟩ hb4).c1; clear hb4)
  all_goals
    go_wp2_with (fail)
    go_ret
    refine ⟨?_, B4.out⟩
    first
      | (rw [show (A1 == A1 && A2 == A2) = true from by simp]; rfl)
      | (rw [show (A1 == A1 && A2 == S2) = false from by simp [hp]]; rfl)
      | (rw [show (A1 == S1 && A2 == S2) = false from by simp [hp]]; rfl)
set_option maxRecDepth 100000 in
set_option maxHeartbeats 4000000 in
theorem impl_Valid_no (K1 K2 R1 R2 T c : Int) (s : ByteArray) (w : World) (ht : Tab w) (h : c = -1 ∨ ((c == -1) = false ∧ T < 0) ∨ ((c == -1) = false ∧ ¬ T < 0 ∧ (2549 : Int) ≤ T))
    (cc : ∀ w, Tab w → Calls Tryz.prog 75 #[.agg #[.int .i64 R1, .int .i64 R2], .agg #[.int .i64 K1, .int .i64 K2], .string s] w fun e w' => e = .returned (.int .i64 c) ∧ Below w.heap.size w w') :
    Calls Tryz.prog 59 #[.agg #[.int .i64 K1, .int .i64 K2], .string s, .agg #[.int .i64 R1, .int .i64 R2, .int .i64 T]] w fun e w' => e = .returned (.bool false) ∧ Below w.heap.size w w' := by
  have CC := hidIt cc
  have HT := hidIt ht
  have z0 : w.heap.size < w.heap.size + 1 + 1 := by omega
  have F0 := hidIt (five_new w K1 K2 R1 R2 T 26 28)
  have B0 := hidIt (((Below.refl w.heap.size w).alloc (Nat.le_refl _) (.cells #[.int .i64 K1, .int .i64 K2] 26)).alloc (by simp) (.cells #[.int .i64 R1, .int .i64 R2, .int .i64 T] 28))
  clear cc ht
  rcases h with rfl | ⟨q0, q1⟩ | ⟨q0, q1, q2⟩
  all_goals
    go_enter Tryz.func59, Tryz.ntmps59
    go_wp2_with (fail)
    refine (CC.out _ (HT.out.kept B0.out)).mono ?_
    rintro e w1 ⟨rfl, hb1⟩
    have F1 : Five w1 w.heap.size K1 K2 R1 R2 T := five_kept hb1 F0.out (by simp)
    have B1 := hidIt (below_next B0.out hb1)
    have z1 : w.heap.size + 1 < w1.heap.size := by have := hb1.size; simp at this; omega
    obtain ⟨a0, a1, a2, a3, a4⟩ := F1
    clear hb1 F0 B0
    go_wp2_with (fail)
    go_ret
    exact ⟨rfl, B1.out⟩
set_option maxRecDepth 100000 in
set_option maxHeartbeats 8000000 in
theorem spec_Valid_aux (K1 K2 R1 R2 : Int) (T c : Nat) (P1 P2 S1 S2 A1 A2 : Int) (s : ByteArray) (w : World) (hT : T < 2549)
    (ck : ∀ w, Calls Tryz.prog 30 #[.agg #[.int .i64 K1, .int .i64 K2]] w fun e w' => e = .returned (.bool true) ∧ Below w.heap.size w w')
    (cr : ∀ w, Calls Tryz.prog 30 #[.agg #[.int .i64 R1, .int .i64 R2]] w fun e w' => e = .returned (.bool true) ∧ Below w.heap.size w w')
    (cc : ∀ w, Calls Tryz.prog 61 #[.agg #[.int .i64 R1, .int .i64 R2], .agg #[.int .i64 K1, .int .i64 K2], .string s] w fun e w' => e = .returned (.int .i64 c) ∧ Below w.heap.size w w')
    (cp : ∀ w, Calls Tryz.prog 14 #[.int .i64 c, .agg #[.int .i64 K1, .int .i64 K2]] w fun e w' => e = .returned (.agg #[.int .i64 P1, .int .i64 P2]) ∧ Below w.heap.size w w')
    (cs : ∀ w, Calls Tryz.prog 35 #[.agg #[.int .i64 R1, .int .i64 R2], .agg #[.int .i64 P1, .int .i64 P2]] w fun e w' => e = .returned (.agg #[.int .i64 S1, .int .i64 S2]) ∧ Below w.heap.size w w')
    (ca : ∀ w, Calls Tryz.prog 14 #[.int .i64 T, .agg #[.int .i64 2791, .int .i64 6375]] w fun e w' => e = .returned (.agg #[.int .i64 A1, .int .i64 A2]) ∧ Below w.heap.size w w') :
    Calls Tryz.prog 47 #[.agg #[.int .i64 K1, .int .i64 K2], .string s, .agg #[.int .i64 R1, .int .i64 R2, .int .i64 T]] w fun e w' => e = .returned (.bool (A1 == S1 && A2 == S2)) ∧ Below w.heap.size w w' := by
  have CK := hidIt ck
  have CR := hidIt cr
  have CC := hidIt cc
  have CP := hidIt cp
  have CS := hidIt cs
  have CA := hidIt ca
  have q1 : (0 : Int) ≤ (T : Int) := by omega
  have q2 : (T : Int) ≤ 2548 := by omega
  have z0 : w.heap.size < w.heap.size + 1 + 1 := by omega
  have F0 := hidIt (five_new w K1 K2 R1 R2 T 26 28)
  have B0 := hidIt (((Below.refl w.heap.size w).alloc (Nat.le_refl _) (.cells #[.int .i64 K1, .int .i64 K2] 26)).alloc (by simp) (.cells #[.int .i64 R1, .int .i64 R2, .int .i64 T] 28))
  clear ck cr cc cp cs ca
  go_enter Tryz.func47, Tryz.ntmps47
  go_wp2_with (fail)
  refine (CK.out _).mono ?_
  rintro e w1 ⟨rfl, hb1⟩
  have F1 : Five w1 w.heap.size K1 K2 R1 R2 T := five_kept hb1 F0.out (by simp)
  have B1 := hidIt (below_next B0.out hb1)
  have z1 : w.heap.size + 1 < w1.heap.size := by have := hb1.size; simp at this; omega
  have H1 := hidIt F1
  obtain ⟨a0, a1, a2, a3, a4⟩ := F1
  clear hb1 F0 B0
  go_wp2_with (fail)
  refine (CR.out _).mono ?_
  rintro e w2 ⟨rfl, hb2⟩
  have F2 := H1.out.next hb2 z1
  have B2 := hidIt (below_next B1.out hb2)
  have z2 : w.heap.size + 1 < w2.heap.size := by have := hb2.size; omega
  obtain ⟨f0, f1, f2, f3, f4⟩ := F2
  clear hb2 B1 H1 a0 a1 a2 a3 a4
  go_wp2_with (first | (go_at_call 68; go_in) | fail)
  go_upto_region 3 with fail
  have hp : (A1 = S1 ∧ A2 = S2) ∨ (A1 = S1 ∧ (A2 == S2) = false) ∨ (A1 == S1) = false := by
    by_cases h1 : A1 = S1
    · by_cases h2 : A2 = S2
      · exact .inl ⟨h1, h2⟩
      · exact .inr (.inl ⟨h1, by simpa using h2⟩)
    · exact .inr (.inr (by simpa using h1))
  rcases hp with ⟨rfl, rfl⟩ | ⟨rfl, hp⟩ | hp
  all_goals
   go_region_held3 (fun w' => w'.cell? ⟨w.heap.size, 0, none⟩ = some (.int .i64 K1) ∧ w'.cell? ⟨w.heap.size, 1, none⟩ = some (.int .i64 K2) ∧ w'.cell? ⟨w.heap.size + 1, 0, none⟩ = some (.int .i64 R1) ∧ w'.cell? ⟨w.heap.size + 1, 1, none⟩ = some (.int .i64 R2) ∧ w'.cell? ⟨w.heap.size + 1, 2, none⟩ = some (.int .i64 T))
    (first | assumption | exact ⟨f0, f1, f2, f3, f4⟩ | (with_reducible refine five_kept hbE (by assumption) ?_; omega) | (with_reducible refine five_kept hbD (by assumption) ?_; omega) | (with_reducible refine five_kept hbC (by assumption) ?_; omega) | (with_reducible refine five_kept hbB (by assumption) ?_; omega) | (with_reducible refine five_kept_drew hbA (by assumption) ?_; omega) | (with_reducible refine five_kept_drew hbA ⟨f0, f1, f2, f3, f4⟩ ?_; omega) | go_keep)
    (first
      | (go_at_call 15; refine (spec_Base _).mono ?_; rintro e wA ⟨rfl, hbA⟩; have zA : w2.heap.size ≤ wA.heap.size := hbA.size; have bA := below_next (w0 := w) (Below.drew B2.out) hbA)
      | (go_at_call 14; (with_reducible refine (CA.out _).mono ?_); rintro e wB ⟨rfl, hbB⟩; have zB := hbB.size; have bB := below_next (w0 := w) bA hbB)
      | (go_at_call 61; refine (CC.out _).mono ?_; rintro e wC ⟨rfl, hbC⟩; have zC := hbC.size; have bC := below_next (w0 := w) bB hbC)
      | (go_at_call 14; (with_reducible refine (CP.out _).mono ?_); rintro e wD ⟨rfl, hbD⟩; have zD := hbD.size; have bD := below_next (w0 := w) bC hbD)
      | (go_at_call 35; refine (CS.out _).mono ?_; rintro e wE ⟨rfl, hbE⟩; have zE := hbE.size; have bE := below_next (w0 := w) bD hbE))
  all_goals
    go_wp2_with (fail)
    go_ret
    refine ⟨?_, bE⟩
    first
      | (rw [show (A1 == A1 && A2 == A2) = true from by simp]; rfl)
      | (rw [show (A1 == A1 && A2 == S2) = false from by simp [hp]]; rfl)
      | (rw [show (A1 == S1 && A2 == S2) = false from by simp [hp]]; rfl)
end Go.Proofs.YtciikondckoboaaGreatDoor.Sg
