/-
  Texts: the numerals of a Point with a blank behind each; what the specification hashes of them.
  The program's hasher fed with numbers and Points; its nonce.
  Challenge of the program and of the specification: the challenge of two Points and a text; -1 when one is none.
  Signed of the program and of the specification: R and T of a secret and a text; the zero Sig and false when it is no secret.
  Signed of the program at any number; of the specification; two Sigs held against one another.
-/
import Derived.Test.YtciikondckoboaaDoorSignN
import Derived.Lib.ItoaLen
import Derived.Test.YtciikondckoboaaDoorCurveS
import Derived.Test.YtciikondckoboaaDoorSignK
import Derived.Test.YtciikondckoboaaDoorLawD
namespace Go.Proofs.YtciikondckoboaaDoor.Sg
open Go.ChangeShapes Go.WideShapes Go.ChangeAt Go.RowKit
/-- The numeral of a number. -/
def numS (n : Nat) : ByteArray := ⟨(Lib.itoa n).toArray⟩
def blank : ByteArray := ⟨#[32]⟩
/-- X and Y of a Point, a blank behind each. -/
def ptS (a b : Nat) : ByteArray := numS a ++ blank ++ numS b ++ blank
theorem numS_size (n : Nat) (h : n ≤ 1099511627776) : (numS n).size ≤ 21 := by
  have := Lib.itoa_length_le (n : Int) (by omega) (by omega)
  show (Lib.itoa n).toArray.size ≤ 21
  simpa using this
theorem blank_size : blank.size = 1 := rfl
theorem ptS_size (a b : Nat) (ha : a ≤ 1099511627776) (hb : b ≤ 1099511627776) : (ptS a b).size ≤ 44 := by
  have h1 := numS_size a ha
  have h2 := numS_size b hb
  unfold ptS
  rw [ByteArray.size_append, ByteArray.size_append, ByteArray.size_append, blank_size]
  omega
theorem bcell' {W w1 : World} (hb : Below W.heap.size W w1) : (∀ b o, b < W.heap.size → w1.cell? ⟨b, o, none⟩ = W.cell? ⟨b, o, none⟩) ∧ (∀ b o, b < W.heap.size → w1.frozen? ⟨b, o, none⟩ = W.frozen? ⟨b, o, none⟩) :=
  ⟨fun _ _ h => hb.cell (by simpa using h), fun _ _ h => hb.frozen (by simpa using h)⟩
set_option maxRecDepth 100000 in
set_option maxHeartbeats 4000000 in
theorem l3Point_any (a b : Nat) (w : World) (ha : a ≤ 1099511627776) (hb : b ≤ 1099511627776) :
    Calls Tryd.prog 62 #[.agg #[.int .i64 a, .int .i64 b]] w fun e w' => e = .returned (.string (ptS a b)) ∧ Below w.heap.size w w' := by
  have ca := fun w => l1Int_any a w ha
  have cb := fun w => l1Int_any b w hb
  have sa := numS_size a ha
  have sb := numS_size b hb
  have ep : ptS a b = numS a ++ ⟨#[32]⟩ ++ numS b ++ ⟨#[32]⟩ := rfl
  rw [ep]
  clear ep
  change ∀ w, Calls Tryd.prog _ _ w fun e w' => e = .returned (.string (numS a)) ∧ _ at ca
  change ∀ w, Calls Tryd.prog _ _ w fun e w' => e = .returned (.string (numS b)) ∧ _ at cb
  have CA := hidIt ca
  have CB := hidIt cb
  clear ca cb
  generalize numS a = xa at CA sa ⊢
  generalize numS b = xb at CB sb ⊢
  have q0 : (⟨#[32]⟩ : ByteArray).size = 1 := rfl
  have q1 : ¬ 9223372036854775807 < xa.size + 1 := by omega
  have q2 : ¬ 9223372036854775807 < xa.size + 1 + xb.size := by omega
  have q3 : ¬ 9223372036854775807 < xa.size + 1 + xb.size + 1 := by omega
  go_enter Tryd.func62, Tryd.ntmps62
  go_wp2_with (fail)
  go_region_with (go_at_call 34; first | (with_reducible refine (CA.out _).mono ?_; rintro e w1 ⟨rfl, hb1⟩; obtain ⟨hc1, hf1⟩ := bcell' hb1; have z1 := hb1.size; try simp at z1) | (with_reducible refine (CB.out _).mono ?_; rintro e w2 ⟨rfl, hb2⟩; obtain ⟨hc2, hf2⟩ := bcell' hb2; have z2 := hb2.size; try simp at z2))
  all_goals
    go_wp2_with (fail)
    go_ret
    exact ⟨rfl, ((Below.drew ((Below.refl w.heap.size w).alloc (Nat.le_refl _) _)).trans (hb1.mono (B' := w.heap.size) (by simp))).trans (hb2.mono (B' := w.heap.size) (by omega))⟩
/-- The challenge of R and the key, both Points, and a text. -/
def chN (r1 r2 k1 k2 : Nat) (s : ByteArray) : Nat := hashN (nums (ptS r1 r2 ++ ptS k1 k2 ++ s)) % 2549
theorem chN_lt (r1 r2 k1 k2 : Nat) (s : ByteArray) : chN r1 r2 k1 k2 s < 2549 := Nat.mod_lt _ (by omega)
set_option maxRecDepth 100000 in
set_option maxHeartbeats 4000000 in
theorem l3Challenge_any (r1 r2 k1 k2 : Nat) (s : ByteArray) (w : World) (h1 : r1 ≤ 1099511627776) (h2 : r2 ≤ 1099511627776) (h3 : k1 ≤ 1099511627776) (h4 : k2 ≤ 1099511627776) (hs : s.size ≤ 4611686018427380000) :
    Calls Tryd.prog 59 #[.agg #[.int .i64 r1, .int .i64 r2], .agg #[.int .i64 k1, .int .i64 k2], .string s] w fun e w' => e = .returned (.int .i64 (chN r1 r2 k1 k2 s)) ∧ Below w.heap.size w w' := by
  have CA := hidIt (fun w => l3Point_any r1 r2 w h1 h2)
  have CB := hidIt (fun w => l3Point_any k1 k2 w h3 h4)
  have sa := ptS_size r1 r2 h1 h2
  have sb := ptS_size k1 k2 h3 h4
  have ec : ((chN r1 r2 k1 k2 s : Nat) : Int) = (hashN (nums (ptS r1 r2 ++ ptS k1 k2 ++ s)) : Int).tmod 2549 := by unfold chN; rw [Int.tmod_eq_emod_of_nonneg (by omega)]; omega
  rw [ec]
  clear ec
  generalize ptS r1 r2 = xa at CA sa ⊢
  generalize ptS k1 k2 = xb at CB sb ⊢
  have CH := hidIt (fun w => spec_Hash (xa ++ xb ++ s) w (by rw [ByteArray.size_append, ByteArray.size_append]; omega))
  have q0 : (0 : Int) ≤ (hashN (nums (xa ++ xb ++ s)) : Int) := by omega
  generalize (hashN (nums (xa ++ xb ++ s)) : Int) = hh at CH q0 ⊢
  have q1 : ¬ 9223372036854775807 < xa.size + xb.size := by omega
  have q2 : ¬ 9223372036854775807 < xa.size + xb.size + s.size := by omega
  go_enter Tryd.func59, Tryd.ntmps59
  go_wp2_with (fail)
  go_region_with (first
    | (go_at_call 62; first | (with_reducible refine (CA.out _).mono ?_; rintro e w1 ⟨rfl, hb1⟩; obtain ⟨hc1, hf1⟩ := bcell' hb1; have z1 := hb1.size; try simp at z1) | (with_reducible refine (CB.out _).mono ?_; rintro e w2 ⟨rfl, hb2⟩; obtain ⟨hc2, hf2⟩ := bcell' hb2; have z2 := hb2.size; try simp at z2))
    | (go_at_call 71; refine (CH.out _).mono ?_; rintro e w3 ⟨rfl, rfl⟩))
  all_goals
    go_wp2_with (fail)
    go_ret
    exact ⟨rfl, ((Below.drew (((Below.refl w.heap.size w).alloc (Nat.le_refl _) _).alloc (by simp) _)).trans (hb1.mono (B' := w.heap.size) (by simp; omega))).trans (hb2.mono (B' := w.heap.size) (by omega))⟩
end Go.Proofs.YtciikondckoboaaDoor.Sg
namespace Go.Proofs.YtciikondckoboaaDoor.Sg
open Go.ChangeShapes Go.WideShapes Go.ChangeAt Go.RowKit
theorem Tab.lt {w : World} (h : Tab w) : 4 < w.heap.size := by
  unfold Tab Lib.TabIs World.var? at h
  rw [gPow] at h
  simp only [Option.bind_some] at h
  rcases Nat.lt_or_ge 4 w.heap.size with h' | h'
  · exact h'
  · rw [Array.getElem?_eq_none h'] at h; cases h
theorem Tab.only {w w' : World} {b : Nat} (h : Tab w) (k : Only b w w') (hb : 4 < b) : Tab w' := by
  have hl := h.lt
  unfold Tab Lib.TabIs World.var? at h ⊢
  rw [gPow] at h ⊢
  simp only [Option.bind_some] at h ⊢
  rw [k.block _ hl (by omega)]
  exact h
theorem Tab.old {w : World} {o : Obj} (h : Tab w) : Tab (w.alloc o) := h.kept ((Below.refl _ _).alloc (Nat.le_refl _) o)
theorem hrun_pt (h a b : Nat) : hrun (hrun h (nums (numS a ++ blank))) (nums (numS b ++ blank)) = hrun h (nums (ptS a b)) := by
  unfold ptS
  rw [← hrun_append, ← nums_append]
  congr 2
  apply ByteArray.ext
  simp [ByteArray.data_append]
theorem hrun_two (h : Nat) (a b : ByteArray) : hrun (hrun h (nums a)) (nums b) = hrun h (nums (a ++ b)) := by
  rw [← hrun_append, ← nums_append]
theorem nums_blank : nums blank = [32] := rfl
theorem hrun_blank (h : Nat) (a : ByteArray) : hstep (hrun h (nums a)) 32 = hrun h (nums (a ++ blank)) := by
  rw [← hrun_two, nums_blank, hrun_cons, hrun_nil]
theorem One.only {c : Nat} {w w' : World} {b h : Nat} (o : One w b h) (k : Only c w w') (hb : b ≠ c) : One w' b h :=
  ⟨Nat.lt_of_lt_of_le o.lt k.size, by rw [k.cell (by simpa using o.lt) (by simpa using hb)]; exact o.c0, by rw [k.frozen (by simpa using o.lt) (by simpa using hb)]; exact o.f0⟩
theorem One.next {w w' : World} {b h : Nat} (o : One w b h) (k : Below w.heap.size w w') : One w' b h := o.kept k o.lt
set_option maxHeartbeats 2000000 in
theorem number_any (b h n : Nat) (w : World) (o : One w b h) (hh : h < 2147483647) (hn : n ≤ 1099511627776) (ht : Tab w) :
    Calls Tryd.prog 68 #[.pointer (some ⟨b, 0, none⟩), .int .i64 n] w fun e w' => e = .returned (.tuple #[]) ∧ One w' b (hrun h (nums (numS n ++ blank))) ∧ Only b w w' := by
  have HO := hidIt o
  have CF := hidIt (fun w => formatInt_any n (by omega) (by omega) w)
  have hs := numS_size n hn
  have HT := hidIt ht
  clear o ht
  go_enter Tryd.func68, Tryd.ntmps68
  go_wp2_with (fail)
  refine (CF.out _ HT.out).mono ?_
  rintro e w1 ⟨rfl, hb1⟩
  have HB1 := hidIt hb1
  clear hb1
  go_wp2_with (fail)
  refine (text_any b h (numS n) _ (HO.out.next HB1.out) hh (by omega)).mono ?_
  rintro e w2 ⟨rfl, hO2, hB2⟩
  have HO2 := hidIt hO2
  have HB2 := hidIt hB2
  clear hO2 hB2
  go_wp2_with (fail)
  refine (take_any b _ 32 _ HO2.out (hrun_lt _ _ hh) (by omega)).mono ?_
  rintro e w3 ⟨rfl, rfl⟩
  go_wp2_with (fail)
  refine bodyPost_end (v := .tuple #[]) (by simp [results, Tryd.results68, go_sem]) rfl ⟨rfl, ?_, ((Only.of_below HB1.out).trans HB2.out).setCell 0 _⟩
  have := HO2.out.put (g := hstep (hrun h (nums (numS n))) 32)
  rw [hrun_blank] at this ⊢
  exact this
set_option maxHeartbeats 2000000 in
theorem point_hash (b h x y : Nat) (w : World) (o : One w b h) (hh : h < 2147483647) (hx : x ≤ 1099511627776) (hy : y ≤ 1099511627776) (ht : Tab w) (hb : 4 < b) :
    Calls Tryd.prog 43 #[.pointer (some ⟨b, 0, none⟩), .agg #[.int .i64 x, .int .i64 y]] w fun e w' => e = .returned (.tuple #[]) ∧ One w' b (hrun h (nums (ptS x y))) ∧ Only b w w' := by
  have HO := hidIt o
  have HT := hidIt ht
  have hlt := o.lt
  clear o ht
  go_enter Tryd.func43, Tryd.ntmps43
  go_wp2_with (fail)
  refine (number_any b h x _ (HO.out.next ((Below.refl _ _).alloc (Nat.le_refl _) _)) hh hx HT.out.old).mono ?_
  rintro e w1 ⟨rfl, hO1, hB1⟩
  have HO1 := hidIt hO1
  have HB1 := hidIt hB1
  have c1 := hB1.cell (p := ⟨w.heap.size, 1, none⟩) (by simp) (by simp; omega)
  simp at c1
  clear hO1 hB1
  have HT1 := hidIt (HT.out.old.only HB1.out hb)
  go_wp2_with (fail)
  refine (number_any b _ y _ HO1.out (hrun_lt _ _ hh) hy HT1.out).mono ?_
  rintro e w2 ⟨rfl, hO2, hB2⟩
  have HO2 := hidIt hO2
  have HB2 := hidIt hB2
  clear hO2 hB2
  go_wp2_with (fail)
  refine bodyPost_end (v := .tuple #[]) (by simp [results, Tryd.results43, go_sem]) rfl ⟨rfl, ?_, (((Only.refl b w).alloc _).trans HB1.out).trans HB2.out⟩
  have := HO2.out
  rw [hrun_pt] at this
  exact this
/-- The nonce of a secret and a text. -/
def noN (n : Nat) (s : ByteArray) : Nat := hashN (nums (numS n ++ blank ++ s)) % 2548 + 1
theorem noN_lt (n : Nat) (s : ByteArray) : noN n s < 2549 := by unfold noN; omega
theorem noN_pos (n : Nat) (s : ByteArray) : 0 < noN n s := by unfold noN; omega
set_option maxHeartbeats 2000000 in
theorem nonceOf_any (n : Nat) (s : ByteArray) (w : World) (hn : n ≤ 1099511627776) (hs : s.size ≤ 9223372036854775807) (ht : Tab w) :
    Calls Tryd.prog 48 #[.int .i64 n, .string s] w fun e w' => e = .returned (.int .i64 (noN n s)) ∧ Below w.heap.size w w' := by
  have HT := hidIt ht
  have htl := ht.lt
  have ec : ((noN n s : Nat) : Int) = (hend (hrun 17 (nums (numS n ++ blank ++ s))) : Int) % 2548 + 1 := by
    unfold noN hashN; omega
  rw [ec]
  clear ec ht
  go_enter Tryd.func48, Tryd.ntmps48
  go_wp2_with (fail)
  refine (newHasher_any _).mono ?_
  rintro e w1 ⟨rfl, hb1⟩
  have HB1 := hidIt hb1
  have z1 := hb1.size
  clear hb1
  have HT1 := hidIt (HT.out.kept HB1.out)
  go_wp2_with (fail)
  refine (number_any w1.heap.size 17 n _ (One.newAt rfl) (by omega) hn HT1.out.old).mono ?_
  rintro e w2 ⟨rfl, hO2, hB2⟩
  have HO2 := hidIt hO2
  have HB2 := hidIt hB2
  clear hO2 hB2
  go_wp2_with (fail)
  refine (text_any w1.heap.size _ s _ HO2.out (hrun_lt _ _ (by omega)) hs).mono ?_
  rintro e w3 ⟨rfl, hO3, hB3⟩
  rw [hrun_two] at hO3
  have hl := hrun_lt (nums (numS n ++ blank ++ s)) 17 (by omega)
  have hl2 := hend_lt _ hl
  have CE := hidIt (fun w => ended_any (hrun 17 (nums (numS n ++ blank ++ s))) w hl)
  have HB3 := hidIt hB3
  generalize hg : hrun 17 (nums (numS n ++ blank ++ s)) = g at hO3 CE hl2
  have HG := hidIt hg
  clear hg hl
  have c0 := hO3.c0
  have z3 := hO3.lt
  clear hO3 hB3
  have q0 : (0 : Int) ≤ (hend g : Int) := by omega
  have q1 : (hend g : Int) < 2147483647 := by omega
  go_wp2_with (fail)
  refine (CE.out _).mono ?_
  rintro e w4 ⟨rfl, hb4⟩
  go_wp2_with (fail)
  go_ret
  refine ⟨?_, (((HB1.out.alloc z1 _).trans (HB2.out.below (B := w.heap.size) (by omega) (by simp; omega))).trans (HB3.out.below (B := w.heap.size) (by omega) (by have := HB2.out.size; simp at this; omega))).trans (hb4.mono (by omega))⟩
  rw [HG.out]
  rfl
end Go.Proofs.YtciikondckoboaaDoor.Sg
namespace Go.Proofs.YtciikondckoboaaDoor.Sg
open Go.ChangeShapes Go.WideShapes Go.ChangeAt Go.RowKit
open Cv Cu
theorem ok_le {a b : Nat} (h : okN (a, b) = true) : a ≤ 1099511627776 ∧ b ≤ 1099511627776 := by
  have := ok_el h
  unfold El at this
  simp only at this
  omega
theorem hrun_all (a b s : ByteArray) : hrun (hrun (hrun 17 (nums a)) (nums b)) (nums s) = hrun 17 (nums (a ++ b ++ s)) := by
  rw [hrun_two, hrun_two, ByteArray.append_assoc]
set_option maxRecDepth 100000 in
set_option maxHeartbeats 4000000 in
theorem impl_Challenge_yes (r1 r2 k1 k2 : Nat) (s : ByteArray) (w : World) (hr : okN (r1, r2) = true) (hk : okN (k1, k2) = true) (hs : s.size ≤ 9223372036854775807) (ht : Tab w) :
    Calls Tryd.prog 16 #[.agg #[.int .i64 r1, .int .i64 r2], .agg #[.int .i64 k1, .int .i64 k2], .string s] w fun e w' => e = .returned (.int .i64 (chN r1 r2 k1 k2 s)) ∧ Below w.heap.size w w' := by
  have cr := impl_PointOk r1 r2
  rw [okI_cast, hr] at cr
  have ck := impl_PointOk k1 k2
  rw [okI_cast, hk] at ck
  have CR := hidIt cr
  have CK := hidIt ck
  have HT := hidIt ht
  have htl := ht.lt
  have br := ok_le hr
  have bk := ok_le hk
  have ec : ((chN r1 r2 k1 k2 s : Nat) : Int) = (hend (hrun (hrun (hrun 17 (nums (ptS r1 r2))) (nums (ptS k1 k2))) (nums s)) : Int) % 2549 := by
    rw [hrun_all]; unfold chN hashN; omega
  rw [ec]
  clear ec cr ck hr hk ht
  go_enter Tryd.func16, Tryd.ntmps16
  go_wp2_with (fail)
  refine (CR.out _).mono ?_
  rintro e w1 ⟨rfl, hb1⟩
  obtain ⟨hc1, hf1⟩ := bcell hb1
  have z1 : w.heap.size + 1 < w1.heap.size := by have := hb1.size; simp at this; omega
  have z0 : w.heap.size < w.heap.size + 1 + 1 := by omega
  go_wp2_with (fail)
  refine (CK.out _).mono ?_
  rintro e w2 ⟨rfl, hb2⟩
  obtain ⟨hc2, hf2⟩ := bcell hb2
  have z2 : w.heap.size + 1 < w2.heap.size := by have := hb2.size; omega
  go_wp2_with (fail)
  refine (newHasher_any _).mono ?_
  rintro e w3 ⟨rfl, hb3⟩
  have z3 : w.heap.size + 1 < w3.heap.size := by have := hb3.size; omega
  have B3 : Below w.heap.size w w3 := (((((Below.refl w.heap.size w).alloc (Nat.le_refl _) _).alloc (by simp) _).trans (hb1.mono (B' := w.heap.size) (by simp; omega))).trans (hb2.mono (B' := w.heap.size) (by omega))).trans (hb3.mono (B' := w.heap.size) (by omega))
  have R3 : w3.cell? ⟨w.heap.size, 0, none⟩ = some (.int .i64 r1) := by rw [hb3.cell (by simp; omega), hc2 _ _ (by omega), hc1 _ _ (by simp; omega)]; simp
  have R4 : w3.cell? ⟨w.heap.size, 1, none⟩ = some (.int .i64 r2) := by rw [hb3.cell (by simp; omega), hc2 _ _ (by omega), hc1 _ _ (by simp; omega)]; simp
  have K3 : w3.cell? ⟨w.heap.size + 1, 0, none⟩ = some (.int .i64 k1) := by rw [hb3.cell (by simp; omega), hc2 _ _ (by omega), hc1 _ _ (by simp)]; simp
  have K4 : w3.cell? ⟨w.heap.size + 1, 1, none⟩ = some (.int .i64 k2) := by rw [hb3.cell (by simp; omega), hc2 _ _ (by omega), hc1 _ _ (by simp)]; simp
  have HB3 := hidIt B3
  have HT3 := hidIt (HT.out.kept B3)
  clear hb1 hb2 hb3 hc1 hf1 hc2 hf2 B3
  have z4 : w.heap.size < w3.heap.size := by omega
  have z5 : ¬ w.heap.size = w3.heap.size := by omega
  have z6 : ¬ w.heap.size + 1 = w3.heap.size := by omega
  have z7 : w.heap.size < w3.heap.size + 1 := by omega
  have z8 : w.heap.size + 1 < w3.heap.size + 1 := by omega
  have HK3 := hidIt (And.intro K3 K4)
  go_wp2_with (fail)
  refine (point_hash w3.heap.size 17 r1 r2 _ (One.newAt rfl) (by omega) br.1 br.2 HT3.out.old (by omega)).mono ?_
  rintro e w4 ⟨rfl, hO4, hB4⟩
  have HO4 := hidIt hO4
  have HB4 := hidIt hB4
  have K5 := hB4.cell (p := ⟨w.heap.size + 1, 0, none⟩) (by simp; omega) (by simp; omega)
  have K6 := hB4.cell (p := ⟨w.heap.size + 1, 1, none⟩) (by simp; omega) (by simp; omega)
  rw [World.cell?_alloc_old _ _ _ (by simp; omega)] at K5 K6
  rw [K3] at K5
  rw [K4] at K6
  have y4 : w3.heap.size < w4.heap.size := hO4.lt
  have HT4 := hidIt (HT3.out.old.only hB4 (by omega))
  clear hO4 hB4 K3 K4 R3 R4
  go_wp2_with (fail)
  refine (point_hash w3.heap.size _ k1 k2 _ HO4.out (hrun_lt _ _ (by omega)) bk.1 bk.2 HT4.out (by omega)).mono ?_
  rintro e w5 ⟨rfl, hO5, hB5⟩
  have HO5 := hidIt hO5
  have HB5 := hidIt hB5
  clear hO5 hB5 K5 K6
  go_wp2_with (fail)
  refine (text_any w3.heap.size _ s _ HO5.out (hrun_lt _ _ (hrun_lt _ _ (by omega))) hs).mono ?_
  rintro e w6 ⟨rfl, hO6, hB6⟩
  have hl := hrun_lt (nums s) _ (hrun_lt (nums (ptS k1 k2)) _ (hrun_lt (nums (ptS r1 r2)) 17 (by omega)))
  have hl2 := hend_lt _ hl
  have CE := hidIt (fun w => ended_any _ w hl)
  have HB6 := hidIt hB6
  generalize hg : hrun (hrun (hrun 17 (nums (ptS r1 r2))) (nums (ptS k1 k2))) (nums s) = g at hO6 CE hl2
  have HG := hidIt hg
  have c0 := hO6.c0
  have y6 := hO6.lt
  clear hg hl hO6 hB6
  have q0 : (0 : Int) ≤ (hend g : Int) := by omega
  have q1 : (hend g : Int) < 2147483647 := by omega
  go_wp2_with (fail)
  refine (CE.out _).mono ?_
  rintro e w7 ⟨rfl, hb7⟩
  go_wp2_with (fail)
  go_ret
  have y5 := HB5.out.size
  have b4 := (HB3.out.alloc (by omega) _).trans (HB4.out.below (B := w.heap.size) (by omega) (by simp; omega))
  have b6 := (b4.trans (HB5.out.below (B := w.heap.size) (by omega) (by omega))).trans (HB6.out.below (B := w.heap.size) (by omega) (by omega))
  refine ⟨?_, b6.trans (hb7.mono (by omega))⟩
  rw [HG.out]
  rfl
set_option maxRecDepth 100000 in
set_option maxHeartbeats 4000000 in
theorem impl_Challenge_no (r1 r2 k1 k2 : Int) (s : ByteArray) (w : World) (h : okI r1 r2 = false ∨ okI r1 r2 = true ∧ okI k1 k2 = false) :
    Calls Tryd.prog 16 #[.agg #[.int .i64 r1, .int .i64 r2], .agg #[.int .i64 k1, .int .i64 k2], .string s] w fun e w' => e = .returned (.int .i64 (-1)) ∧ Below w.heap.size w w' := by
  have cr := impl_PointOk r1 r2
  have ck := impl_PointOk k1 k2
  rcases h with h | ⟨h, h2⟩
  · rw [h] at cr
    have CR := hidIt cr
    clear cr ck h
    go_enter Tryd.func16, Tryd.ntmps16
    go_wp2_with (fail)
    refine (CR.out _).mono ?_
    rintro e w1 ⟨rfl, hb1⟩
    go_wp2_with (fail)
    go_ret
    exact ⟨rfl, (((Below.refl w.heap.size w).alloc (Nat.le_refl _) _).alloc (by simp) _).trans (hb1.mono (B' := w.heap.size) (by simp; omega))⟩
  · rw [h] at cr
    rw [h2] at ck
    have CR := hidIt cr
    have CK := hidIt ck
    clear cr ck h h2
    go_enter Tryd.func16, Tryd.ntmps16
    go_wp2_with (fail)
    refine (CR.out _).mono ?_
    rintro e w1 ⟨rfl, hb1⟩
    obtain ⟨hc1, hf1⟩ := bcell hb1
    have z1 : w.heap.size + 1 < w1.heap.size := by have := hb1.size; simp at this; omega
    go_wp2_with (fail)
    refine (CK.out _).mono ?_
    rintro e w2 ⟨rfl, hb2⟩
    go_wp2_with (fail)
    go_ret
    exact ⟨rfl, ((((Below.refl w.heap.size w).alloc (Nat.le_refl _) _).alloc (by simp) _).trans (hb1.mono (B' := w.heap.size) (by simp; omega))).trans (hb2.mono (by omega))⟩
end Go.Proofs.YtciikondckoboaaDoor.Sg
namespace Go.Proofs.YtciikondckoboaaDoor.Sg
open Go.ChangeShapes Go.WideShapes Go.ChangeAt Go.RowKit
open Cv Cu
/-- R of a secret and a text. -/
def sgR (n : Nat) (s : ByteArray) : Nat × Nat := ns (2791, 6375) (noN n s)
/-- T of a secret and a text. -/
def sgT (n : Nat) (s : ByteArray) : Nat := (noN n s + chN (sgR n s).1 (sgR n s).2 (ns (2791, 6375) n).1 (ns (2791, 6375) n).2 s * n) % 2549
theorem sgT_lt (n : Nat) (s : ByteArray) : sgT n s < 2549 := Nat.mod_lt _ (by omega)
theorem wrap_small (m : Int) (h1 : 0 ≤ m) (h2 : m ≤ 9000000000) : IntKind.i64.wrap m = m := by rw [IntKind.wrap_i64]; omega
theorem prod_le {c n : Nat} (hc : c < 2549) (hn : n < 2549) : c * n ≤ 6492304 := Nat.mul_le_mul (show c ≤ 2548 by omega) (show n ≤ 2548 by omega)
/-- Block b holds the three numbers x, y, z, and may be written. -/
structure Tri (w : World) (b : Nat) (x y z : Int) : Prop where
  lt : b < w.heap.size
  c0 : w.cell? ⟨b, 0, none⟩ = some (.int .i64 x)
  c1 : w.cell? ⟨b, 1, none⟩ = some (.int .i64 y)
  c2 : w.cell? ⟨b, 2, none⟩ = some (.int .i64 z)
  f0 : w.frozen? ⟨b, 0, none⟩ = false
  f1 : w.frozen? ⟨b, 1, none⟩ = false
  f2 : w.frozen? ⟨b, 2, none⟩ = false
theorem Tri.next {w w' : World} {b : Nat} {x y z : Int} (h : Tri w b x y z) (k : Below w.heap.size w w') : Tri w' b x y z :=
  ⟨Nat.lt_of_lt_of_le h.lt k.size, by rw [k.cell (by simpa using h.lt)]; exact h.c0, by rw [k.cell (by simpa using h.lt)]; exact h.c1, by rw [k.cell (by simpa using h.lt)]; exact h.c2, by rw [k.frozen (by simpa using h.lt)]; exact h.f0, by rw [k.frozen (by simpa using h.lt)]; exact h.f1, by rw [k.frozen (by simpa using h.lt)]; exact h.f2⟩
theorem Tri.old {w : World} {o : Obj} {b : Nat} {x y z : Int} (h : Tri w b x y z) : Tri (w.alloc o) b x y z := h.next ((Below.refl w.heap.size w).alloc (Nat.le_refl _) o)
theorem Tri.newAt {w : World} {x y z : Int} {T : TypeId} {k : Nat} (h : w.heap.size = k) : Tri (w.alloc (.cells #[.int .i64 x, .int .i64 y, .int .i64 z] T)) k x y z := by
  subst h; exact ⟨by simp, by simp, by simp, by simp, by simp, by simp, by simp⟩
theorem Tri.put {w : World} {b : Nat} {x y z x' y' z' : Int} (h : Tri w b x y z) : Tri (((w.setCell ⟨b, 0, none⟩ (.int .i64 x')).setCell ⟨b, 1, none⟩ (.int .i64 y')).setCell ⟨b, 2, none⟩ (.int .i64 z')) b x' y' z' := by
  refine ⟨by simpa [World.setCell] using h.lt, ?_, ?_, ?_, ?_, ?_, ?_⟩
  · rw [cell_set_other (by decide), cell_set_other (by decide)]; exact World.cell?_setCell_same' _ _ _ (by rw [h.c0]; rfl)
  · rw [cell_set_other (by decide)]; exact World.cell?_setCell_same' _ _ _ (by rw [cell_set_other (by decide), h.c1]; rfl)
  · exact World.cell?_setCell_same' _ _ _ (by rw [cell_set_other (by decide), cell_set_other (by decide), h.c2]; rfl)
  · simpa using h.f0
  · simpa using h.f1
  · simpa using h.f2
theorem Tri.drew {w : World} {b : Nat} {x y z : Int} (h : Tri w b x y z) : Tri w.drew b x y z := ⟨h.lt, h.c0, h.c1, h.c2, h.f0, h.f1, h.f2⟩
theorem Tw.drew {w : World} {b : Nat} {x y : Int} (h : Tw w b x y) : Tw w.drew b x y := ⟨h.lt, h.c0, h.c1⟩
theorem ret_via3 {fn : Func} {tm : Array Value} {wf : World} {b : Nat} {x y z : Int} {v : Value} (t : Tri wf b x y z) (h : ∀ w2, Tri w2 b x y z → (results fn tm).run Tryd.prog w2 = .ok v w2) : (results fn tm).run Tryd.prog wf = .ok v wf := h wf t
set_option maxRecDepth 100000 in
set_option maxHeartbeats 4000000 in
theorem impl_Signed_aux (n k c R1 R2 K1 K2 T : Nat) (s : ByteArray) (w : World) (ht : Tab w) (h2 : n < 2549) (hk : k < 2549) (hc : c < 2549) (hT : (k + c * n) % 2549 = T)
    (ck : ∀ w, Calls Tryd.prog 17 #[.int .i64 n] w fun e w' => e = .returned (.tuple #[.agg #[.int .i64 K1, .int .i64 K2], .bool true]) ∧ Below w.heap.size w w')
    (cn : ∀ w, Tab w → Calls Tryd.prog 48 #[.int .i64 n, .string s] w fun e w' => e = .returned (.int .i64 k) ∧ Below w.heap.size w w')
    (cb : ∀ w, Calls Tryd.prog 40 #[.int .i64 k] w fun e w' => e = .returned (.agg #[.int .i64 R1, .int .i64 R2]) ∧ Below w.heap.size w w')
    (cc : ∀ w, Tab w → Calls Tryd.prog 16 #[.agg #[.int .i64 R1, .int .i64 R2], .agg #[.int .i64 K1, .int .i64 K2], .string s] w fun e w' => e = .returned (.int .i64 c) ∧ Below w.heap.size w w') :
    Calls Tryd.prog 23 #[.int .i64 n, .string s] w fun e w' => e = .returned (.tuple #[.agg #[.int .i64 R1, .int .i64 R2, .int .i64 T], .bool true]) ∧ Below w.heap.size w w' := by
  have CK := hidIt ck
  have CN := hidIt cn
  have CB := hidIt cb
  have CC := hidIt cc
  have HT := hidIt ht
  have hp := prod_le hc h2
  have q1 : (0 : Int) ≤ (c : Int) * (n : Int) := Int.mul_nonneg (by omega) (by omega)
  have q2 : (c : Int) * (n : Int) ≤ 6492304 := by rw [← Int.natCast_mul]; omega
  have q3 : ((k : Int) + (c : Int) * (n : Int)).tmod 2549 = (T : Int) := by rw [Int.tmod_eq_emod_of_nonneg (by omega), ← Int.natCast_mul, ← hT]; omega
  have q4 : ((k : Int) + (c : Int) * (n : Int)) % 2549 = (T : Int) := by rw [← Int.natCast_mul, ← hT]; omega
  have e1 : IntKind.i64.wrap ((c : Int) * (n : Int)) = (c : Int) * (n : Int) := wrap_small _ q1 (by omega)
  have e2 : IntKind.i64.wrap ((k : Int) + (c : Int) * (n : Int)) = (k : Int) + (c : Int) * (n : Int) := wrap_small _ (by omega) (by omega)
  clear ck cn cb cc ht hT hp
  go_enter Tryd.func23, Tryd.ntmps23
  go_wp2_with (fail)
  refine (CK.out _).mono ?_
  rintro e w1 ⟨rfl, hb1⟩
  have z1 : w.heap.size < w1.heap.size := by have := hb1.size; simp at this; omega
  have B1 := hidIt (((Below.refl w.heap.size w).alloc (Nat.le_refl _) (.cells #[.int .i64 0, .int .i64 0, .int .i64 0] 29)).trans (hb1.mono (B' := w.heap.size) (by simp)))
  have S1 := hidIt ((Tri.newAt (w := w) (x := 0) (y := 0) (z := 0) rfl).next hb1)
  clear hb1
  go_wp2_with (fail)
  refine (CN.out _ (HT.out.kept (B1.out.alloc (by omega) _))).mono ?_
  rintro e w2 ⟨rfl, hb2⟩
  have S2 := hidIt (S1.out.old.next hb2)
  have K2t := hidIt ((Tw.newAt (x := K1) (y := K2) rfl).next hb2)
  have B2 := hidIt (below_step B1.out hb2)
  clear hb2 S1 B1
  go_wp2_with (fail)
  refine (CB.out _).mono ?_
  rintro e w3 ⟨rfl, hb3⟩
  have S3 := hidIt (S2.out.next hb3)
  have K3t := hidIt (K2t.out.next hb3)
  have B3 := hidIt (below_next B2.out hb3)
  clear hb3 S2 K2t B2
  go_upto_region 6 with fail
  have SZ := S3.out.old (o := .cells #[.int .i64 R1, .int .i64 R2] 27)
  have KZ := K3t.out.old (o := .cells #[.int .i64 R1, .int .i64 R2] 27)
  have RZ := Tw.newAt (w := w3) (x := R1) (y := R2) (T := 27) rfl
  have BZ := below_old (o := .cells #[.int .i64 R1, .int .i64 R2] 27) B3.out
  clear S3 K3t B3
  generalize w3.alloc (.cells #[.int .i64 R1, .int .i64 R2] 27) = wz at SZ KZ RZ BZ ⊢
  generalize w3.heap.size = bR at RZ ⊢
  generalize w1.heap.size = bK at KZ z1 ⊢
  have TZ := hidIt (HT.out.kept BZ)
  have HS := hidIt SZ
  have HBZ := hidIt BZ
  have HR := hidIt RZ
  have HK := hidIt KZ
  have r0 := RZ.c0
  have r1 := RZ.c1
  have r2 := RZ.lt
  have k0 := KZ.c0
  have k1 := KZ.c1
  have k2 := KZ.lt
  have s0 := SZ.c0
  have s1 := SZ.c1
  have s2 := SZ.c2
  have s3 := SZ.f0
  have s4 := SZ.f1
  have s5 := SZ.f2
  have s6 := SZ.lt
  clear SZ BZ KZ RZ
  go_region_with (go_at_call 16; refine (CC.out _ (TZ.out.kept (Below.drew (Below.refl _ _)))).mono ?_; rintro e w4 ⟨rfl, hb4⟩; have z4 : wz.heap.size ≤ w4.heap.size := hb4.size; have H4 := hidIt (HS.out.drew.next hb4); have B4 := hidIt (below_next (Below.drew HBZ.out) hb4); have x0 := H4.out.c0; have x1 := H4.out.c1; have x2 := H4.out.c2; have x3 := H4.out.f0; have x4 := H4.out.f1; have x5 := H4.out.f2; have x6 := H4.out.lt; have y0 := ((Sg.Tw.drew HR.out).next hb4).c0; have y1 := ((Sg.Tw.drew HR.out).next hb4).c1; clear hb4)
  all_goals
    go_wp2_with (fail)
    refine bodyPost_ret (v := .tuple #[.agg #[.int .i64 R1, .int .i64 R2, .int .i64 T], .bool true]) ?_ rfl ⟨rfl, ((B4.out.setCell (by simp) _).setCell (by simp) _).setCell (by simp) _⟩
    refine ret_via3 (H4.out.put (x' := R1) (y' := R2) (z' := T)) (fun w9 j => ?_)
    have j0 := j.c0
    have j1 := j.c1
    have j2 := j.c2
    clear j x0 x1 x2 x3 x4 x5 x6 y0 y1 s0 s1 s2 s3 s4 s5 s6 r0 r1 r2 k0 k1 k2
    simp [results, Tryd.results23, go_sem, j0, j1, j2]
end Go.Proofs.YtciikondckoboaaDoor.Sg
namespace Go.Proofs.YtciikondckoboaaDoor.Sg
open Go.ChangeShapes Go.WideShapes Go.ChangeAt Go.RowKit
open Cv Cu
theorem sgR_eq (n : Nat) (s : ByteArray) : sgR n s = ns (2791, 6375) (noN n s) := sgR.eq_1 n s
theorem pr (p : Nat × Nat) : (p.1, p.2) = p := rfl
theorem sgR_ok (n : Nat) (s : ByteArray) : okN ((sgR n s).1, (sgR n s).2) = true := by rw [pr, sgR_eq]; exact ns_ok ok_base _
theorem key_ok (n : Nat) : okN ((ns (2791, 6375) n).1, (ns (2791, 6375) n).2) = true := by rw [pr]; exact ns_ok ok_base _
/-- The challenge of what is signed. -/
def sgC (n : Nat) (s : ByteArray) : Nat := chN (sgR n s).1 (sgR n s).2 (ns (2791, 6375) n).1 (ns (2791, 6375) n).2 s
theorem sgC_eq (n : Nat) (s : ByteArray) : sgC n s = chN (sgR n s).1 (sgR n s).2 (ns (2791, 6375) n).1 (ns (2791, 6375) n).2 s := sgC.eq_1 n s
theorem sgC_lt (n : Nat) (s : ByteArray) : sgC n s < 2549 := by rw [sgC_eq]; exact chN_lt _ _ _ _ _
theorem sgT_eq (n : Nat) (s : ByteArray) : sgT n s = (noN n s + sgC n s * n) % 2549 := by rw [sgC_eq]; exact sgT.eq_1 n s
theorem noN_eq (n : Nat) (s : ByteArray) : noN n s = hashN (nums (numS n ++ blank ++ s)) % 2548 + 1 := noN.eq_1 n s
theorem timesBase_R (n : Nat) (s : ByteArray) (w : World) : Calls Tryd.prog 40 #[.int .i64 (noN n s)] w fun e w' => e = .returned (.agg #[.int .i64 (sgR n s).1, .int .i64 (sgR n s).2]) ∧ Below w.heap.size w w' := by
  have h := timesBase_any (noN n s) w (by have := noN_lt n s; omega)
  rw [← sgR_eq] at h
  exact h
theorem impl_Challenge_R (n : Nat) (s : ByteArray) (w : World) (hs : s.size ≤ 4611686018427380000) (ht : Tab w) :
    Calls Tryd.prog 16 #[.agg #[.int .i64 (sgR n s).1, .int .i64 (sgR n s).2], .agg #[.int .i64 (ns (2791, 6375) n).1, .int .i64 (ns (2791, 6375) n).2], .string s] w fun e w' => e = .returned (.int .i64 (sgC n s)) ∧ Below w.heap.size w w' := by
  rw [sgC_eq]
  exact impl_Challenge_yes (sgR n s).1 (sgR n s).2 (ns (2791, 6375) n).1 (ns (2791, 6375) n).2 s w (sgR_ok n s) (key_ok n) (by omega) ht
theorem impl_Signed_yes (n : Nat) (s : ByteArray) (w : World) (h1 : 0 < n) (h2 : n < 2549) (hs : s.size ≤ 4611686018427380000) (ht : Tab w) :
    Calls Tryd.prog 23 #[.int .i64 n, .string s] w fun e w' => e = .returned (.tuple #[.agg #[.int .i64 (sgR n s).1, .int .i64 (sgR n s).2, .int .i64 (sgT n s)], .bool true]) ∧ Below w.heap.size w w' :=
  impl_Signed_aux n (noN n s) (sgC n s) (sgR n s).1 (sgR n s).2 (ns (2791, 6375) n).1 (ns (2791, 6375) n).2 (sgT n s) s w ht h2 (noN_lt n s) (sgC_lt n s) (sgT_eq n s).symm
    (fun w => impl_KeyOf_yes n w h1 h2) (fun w t => nonceOf_any n s w (by omega) (by omega) t) (timesBase_R n s)
    (fun w t => impl_Challenge_R n s w hs t)
set_option maxRecDepth 100000 in
set_option maxHeartbeats 2000000 in
theorem impl_Signed_no (n : Int) (s : ByteArray) (w : World) (h : ¬ 0 < n ∨ 0 < n ∧ ¬ n < 2549) :
    Calls Tryd.prog 23 #[.int .i64 n, .string s] w fun e w' => e = .returned (.tuple #[.agg #[.int .i64 0, .int .i64 0, .int .i64 0], .bool false]) ∧ Below w.heap.size w w' := by
  have CK := hidIt (fun w => impl_KeyOf_no n w h)
  clear h
  go_enter Tryd.func23, Tryd.ntmps23
  go_wp2_with (fail)
  refine (CK.out _).mono ?_
  rintro e w1 ⟨rfl, hb1⟩
  have S1 := hidIt ((Tri.newAt (w := w) (x := 0) (y := 0) (z := 0) (T := 29) rfl).next hb1)
  have z1 : w.heap.size < w1.heap.size := S1.out.lt
  have x0 := S1.out.c0
  have x1 := S1.out.c1
  have x2 := S1.out.c2
  have x3 := S1.out.f0
  have x4 := S1.out.f1
  have x5 := S1.out.f2
  have z2 : w.heap.size < w1.heap.size + 1 := by omega
  go_wp2_with (fail)
  refine bodyPost_ret (v := .tuple #[.agg #[.int .i64 0, .int .i64 0, .int .i64 0], .bool false]) ?_ rfl ⟨rfl, ?_⟩
  · simp [results, Tryd.results23, go_sem, *]
  · have b := (((((Below.refl w.heap.size w).alloc (Nat.le_refl _) (.cells #[.int .i64 0, .int .i64 0, .int .i64 0] 29)).trans (hb1.mono (B' := w.heap.size) (by simp))).setCell (p := ⟨w.heap.size, 0, none⟩) (by simp) (.int .i64 0)).setCell (p := ⟨w.heap.size, 1, none⟩) (by simp) (.int .i64 0)).setCell (p := ⟨w.heap.size, 2, none⟩) (by simp) (.int .i64 0)
    exact b.alloc (by simp; omega) _
set_option maxRecDepth 100000 in
set_option maxHeartbeats 4000000 in
theorem l3Signed_aux (n k c R1 R2 K1 K2 T : Nat) (s x : ByteArray) (hh : Nat) (w : World) (h2 : n < 2549) (hc : c < 2549) (hk : hh % 2548 + 1 = k) (hT : (k + c * n) % 2549 = T) (hx : x.size ≤ 21) (hs : s.size ≤ 4611686018427380000) (hlt : hh < 2147483647)
    (cn : ∀ w, Calls Tryd.prog 34 #[.int .i64 n] w fun e w' => e = .returned (.string x) ∧ Below w.heap.size w w')
    (ch : ∀ w, Calls Tryd.prog 71 #[.string (x ++ ⟨#[32]⟩ ++ s)] w fun e w' => e = .returned (.int .i64 hh) ∧ w' = w)
    (cr : ∀ w, Calls Tryd.prog 50 #[.int .i64 k, .agg #[.int .i64 2791, .int .i64 6375]] w fun e w' => e = .returned (.agg #[.int .i64 R1, .int .i64 R2]) ∧ Below w.heap.size w w')
    (ck : ∀ w, Calls Tryd.prog 50 #[.int .i64 n, .agg #[.int .i64 2791, .int .i64 6375]] w fun e w' => e = .returned (.agg #[.int .i64 K1, .int .i64 K2]) ∧ Below w.heap.size w w')
    (cc : ∀ w, Calls Tryd.prog 59 #[.agg #[.int .i64 R1, .int .i64 R2], .agg #[.int .i64 K1, .int .i64 K2], .string s] w fun e w' => e = .returned (.int .i64 c) ∧ Below w.heap.size w w') :
    Calls Tryd.prog 52 #[.int .i64 n, .string s] w fun e w' => e = .returned (.agg #[.int .i64 R1, .int .i64 R2, .int .i64 T]) ∧ Below w.heap.size w w' := by
  have CK := hidIt ck
  have CN := hidIt cn
  have CH := hidIt ch
  have CR := hidIt cr
  have CC := hidIt cc
  have hp := prod_le hc h2
  have hk2 : k < 2549 := by omega
  have q1 : (0 : Int) ≤ (c : Int) * (n : Int) := Int.mul_nonneg (by omega) (by omega)
  have q2 : (c : Int) * (n : Int) ≤ 6492304 := by rw [← Int.natCast_mul]; omega
  have q3 : ((k : Int) + (c : Int) * (n : Int)).tmod 2549 = (T : Int) := by rw [Int.tmod_eq_emod_of_nonneg (by omega), ← Int.natCast_mul, ← hT]; omega
  have q4 : ((k : Int) + (c : Int) * (n : Int)) % 2549 = (T : Int) := by rw [← Int.natCast_mul, ← hT]; omega
  have e1 : IntKind.i64.wrap ((c : Int) * (n : Int)) = (c : Int) * (n : Int) := wrap_small _ q1 (by omega)
  have e2 : IntKind.i64.wrap ((k : Int) + (c : Int) * (n : Int)) = (k : Int) + (c : Int) * (n : Int) := wrap_small _ (by omega) (by omega)
  have e3 : (hh : Int) % 2548 + 1 = (k : Int) := by omega
  have p0 : (0 : Int) ≤ (hh : Int) := by omega
  have p1 : (hh : Int) < 2147483647 := by omega
  have g0 : (⟨#[32]⟩ : ByteArray).size = 1 := rfl
  have g1 : ¬ 9223372036854775807 < x.size + 1 := by omega
  have g2 : ¬ 9223372036854775807 < x.size + 1 + s.size := by omega
  clear ck cn ch cr cc hT hp hk
  go_enter Tryd.func52, Tryd.ntmps52
  go_wp2_with (fail)
  refine (CN.out _).mono ?_
  rintro e w1 ⟨rfl, hb1⟩
  have S1 := hidIt ((Tri.newAt (w := w) (x := 0) (y := 0) (z := 0) (T := 29) rfl).next hb1)
  have B1 := hidIt (below_step (Below.refl w.heap.size w) hb1)
  clear hb1
  go_wp2_with (fail)
  refine (CH.out _).mono ?_
  rintro e w2 ⟨rfl, rfl⟩
  go_wp2_with (fail)
  refine (spec_Base _).mono ?_
  rintro e w3 ⟨rfl, hb3⟩
  have S3 := hidIt (S1.out.next hb3)
  have B3 := hidIt (below_next B1.out hb3)
  clear hb3 S1 B1
  go_wp2_with (fail)
  refine (CR.out _).mono ?_
  rintro e w4 ⟨rfl, hb4⟩
  have S4 := hidIt (S3.out.next hb4)
  have B4 := hidIt (below_next B3.out hb4)
  clear hb4 S3 B3
  go_upto_region 3 with fail
  have SZ := S4.out.old (o := .cells #[.int .i64 R1, .int .i64 R2] 27)
  have RZ := Tw.newAt (w := w4) (x := R1) (y := R2) (T := 27) rfl
  have BZ := below_old (o := .cells #[.int .i64 R1, .int .i64 R2] 27) B4.out
  clear S4 B4
  generalize w4.alloc (.cells #[.int .i64 R1, .int .i64 R2] 27) = wz at SZ RZ BZ ⊢
  generalize w4.heap.size = bR at RZ ⊢
  have HS := hidIt SZ
  have HBZ := hidIt BZ
  have HR := hidIt RZ
  have r0 := RZ.c0
  have r1 := RZ.c1
  have r2 := RZ.lt
  clear SZ BZ RZ
  go_region_with (first
    | (go_at_call 51; refine (spec_Base _).mono ?_; rintro e wA ⟨rfl, hbA⟩; have HA := hidIt (HS.out.drew.next hbA); have RA := hidIt ((Sg.Tw.drew HR.out).next hbA); have BA := hidIt (below_next (Below.drew HBZ.out) hbA); have rA0 := RA.out.c0; have rA1 := RA.out.c1; have rA2 := RA.out.lt; clear hbA)
    | (go_at_call 50; refine (CK.out _).mono ?_; rintro e wB ⟨rfl, hbB⟩; have HB := hidIt (HA.out.next hbB); have RB := hidIt (RA.out.next hbB); have BB := hidIt (below_next BA.out hbB); have rB0 := RB.out.c0; have rB1 := RB.out.c1; have rB2 := RB.out.lt; clear hbB)
    | (go_at_call 59; refine (CC.out _).mono ?_; rintro e wC ⟨rfl, hbC⟩; have HC := hidIt (HB.out.next hbC); have RC := hidIt (RB.out.next hbC); have BC := hidIt (below_next BB.out hbC); have rC0 := RC.out.c0; have rC1 := RC.out.c1; have rC2 := RC.out.lt; have x0 := HC.out.c0; have x1 := HC.out.c1; have x2 := HC.out.c2; have x3 := HC.out.f0; have x4 := HC.out.f1; have x5 := HC.out.f2; have x6 := HC.out.lt; clear hbC))
  all_goals
    go_wp2_with (fail)
    refine bodyPost_ret (v := .agg #[.int .i64 R1, .int .i64 R2, .int .i64 T]) ?_ rfl ⟨rfl, ((BC.out.setCell (by simp) _).setCell (by simp) _).setCell (by simp) _⟩
    refine ret_via3 (HC.out.put (x' := R1) (y' := R2) (z' := T)) (fun w9 j => ?_)
    have j0 := j.c0
    have j1 := j.c1
    have j2 := j.c2
    clear j x0 x1 x2 x3 x4 x5 x6 r0 r1 r2 rA0 rA1 rA2 rB0 rB1 rB2 rC0 rC1 rC2
    simp [results, Tryd.results52, go_sem, j0, j1, j2]
theorem l2Times_R (n : Nat) (s : ByteArray) (w : World) : Calls Tryd.prog 50 #[.int .i64 (noN n s), .agg #[.int .i64 2791, .int .i64 6375]] w fun e w' => e = .returned (.agg #[.int .i64 (sgR n s).1, .int .i64 (sgR n s).2]) ∧ Below w.heap.size w w' := by
  have h := l2Times_any 2791 6375 (noN n s) w ok_base (by have := noN_lt n s; omega)
  rw [← sgR_eq] at h
  exact h
theorem l3Challenge_R (n : Nat) (s : ByteArray) (w : World) (hs : s.size ≤ 4611686018427380000) :
    Calls Tryd.prog 59 #[.agg #[.int .i64 (sgR n s).1, .int .i64 (sgR n s).2], .agg #[.int .i64 (ns (2791, 6375) n).1, .int .i64 (ns (2791, 6375) n).2], .string s] w fun e w' => e = .returned (.int .i64 (sgC n s)) ∧ Below w.heap.size w w' := by
  rw [sgC_eq]
  have h1 := ok_le (sgR_ok n s)
  have h2 := ok_le (key_ok n)
  exact l3Challenge_any (sgR n s).1 (sgR n s).2 (ns (2791, 6375) n).1 (ns (2791, 6375) n).2 s w h1.1 h1.2 h2.1 h2.2 hs
theorem l1Int_S (n : Nat) (w : World) (hn : n < 2549) : Calls Tryd.prog 34 #[.int .i64 n] w fun e w' => e = .returned (.string (numS n)) ∧ Below w.heap.size w w' := by
  have h := l1Int_any n w (by omega)
  rw [show (⟨(Lib.itoa n).toArray⟩ : ByteArray) = numS n from (numS.eq_1 n).symm] at h
  exact h
theorem spec_Hash_S (n : Nat) (s : ByteArray) (w : World) (hn : n < 2549) (hs : s.size ≤ 4611686018427380000) : Calls Tryd.prog 71 #[.string (numS n ++ ⟨#[32]⟩ ++ s)] w fun e w' => e = .returned (.int .i64 (hashN (nums (numS n ++ blank ++ s)))) ∧ w' = w := by
  rw [← blank.eq_1]
  exact spec_Hash _ w (by have := numS_size n (by omega); rw [ByteArray.size_append, ByteArray.size_append, blank_size]; omega)
theorem l3Signed_any (n : Nat) (s : ByteArray) (w : World) (h2 : n < 2549) (hs : s.size ≤ 4611686018427380000) :
    Calls Tryd.prog 52 #[.int .i64 n, .string s] w fun e w' => e = .returned (.agg #[.int .i64 (sgR n s).1, .int .i64 (sgR n s).2, .int .i64 (sgT n s)]) ∧ Below w.heap.size w w' :=
  l3Signed_aux n (noN n s) (sgC n s) (sgR n s).1 (sgR n s).2 (ns (2791, 6375) n).1 (ns (2791, 6375) n).2 (sgT n s) s (numS n) (hashN (nums (numS n ++ blank ++ s))) w h2 (sgC_lt n s) (noN_eq n s).symm (sgT_eq n s).symm (numS_size n (by omega)) hs (hashN_lt _)
    (fun w => l1Int_S n w h2) (fun w => spec_Hash_S n s w h2 hs) (l2Times_R n s) (fun w => l2Times_any 2791 6375 n w ok_base (by omega))
    (fun w => l3Challenge_R n s w hs)
end Go.Proofs.YtciikondckoboaaDoor.Sg
