/-
  Texts: the numerals of a Point with a blank behind each; what the specification hashes of them.
-/
import Derived.Test.YtllajhieocploaaGreatDoorSignN
import Derived.Lib.ItoaLen
namespace Go.Proofs.YtllajhieocploaaGreatDoor.Sg
open Go.ChangeShapes Go.WideShapes Go.ChangeAt Go.RowKit
/-- The numeral of a number. -/
def numS (n : Nat) : ByteArray := ⟨(Lib.itoa n).toArray⟩
def blank : ByteArray := ⟨#[32]⟩
/-- X and Y of a Point, a blank behind each. -/
def ptS (a b : Nat) : ByteArray := numS a ++ blank ++ numS b ++ blank
theorem numS_size (n : Nat) (h : n ≤ 1099511627776) : (numS n).size ≤ 21 := by
  have := Lib.itoa_length_le (n : Int) (by omega) (by omega)
  show (Lib.itoa n).toArray.size ≤ 21
  simpa using this
theorem blank_size : blank.size = 1 := rfl
theorem ptS_size (a b : Nat) (ha : a ≤ 1099511627776) (hb : b ≤ 1099511627776) : (ptS a b).size ≤ 44 := by
  have h1 := numS_size a ha
  have h2 := numS_size b hb
  unfold ptS
  rw [ByteArray.size_append, ByteArray.size_append, ByteArray.size_append, blank_size]
  omega
theorem bcell' {W w1 : World} (hb : Below W.heap.size W w1) : (∀ b o, b < W.heap.size → w1.cell? ⟨b, o, none⟩ = W.cell? ⟨b, o, none⟩) ∧ (∀ b o, b < W.heap.size → w1.frozen? ⟨b, o, none⟩ = W.frozen? ⟨b, o, none⟩) :=
  ⟨fun _ _ h => hb.cell (by simpa using h), fun _ _ h => hb.frozen (by simpa using h)⟩
set_option maxRecDepth 100000 in
set_option maxHeartbeats 4000000 in
theorem l3Point_any (a b : Nat) (w : World) (ha : a ≤ 1099511627776) (hb : b ≤ 1099511627776) :
    Calls Tryz.prog 109 #[.agg #[.int .i64 a, .int .i64 b]] w fun e w' => e = .returned (.string (ptS a b)) ∧ Below w.heap.size w w' := by
  have ca := fun w => l1Int_any a w ha
  have cb := fun w => l1Int_any b w hb
  have sa := numS_size a ha
  have sb := numS_size b hb
  have ep : ptS a b = numS a ++ ⟨#[32]⟩ ++ numS b ++ ⟨#[32]⟩ := rfl
  rw [ep]
  clear ep
  change ∀ w, Calls Tryz.prog _ _ w fun e w' => e = .returned (.string (numS a)) ∧ _ at ca
  change ∀ w, Calls Tryz.prog _ _ w fun e w' => e = .returned (.string (numS b)) ∧ _ at cb
  have CA := hidIt ca
  have CB := hidIt cb
  clear ca cb
  generalize numS a = xa at CA sa ⊢
  generalize numS b = xb at CB sb ⊢
  have q0 : (⟨#[32]⟩ : ByteArray).size = 1 := rfl
  have q1 : ¬ 9223372036854775807 < xa.size + 1 := by omega
  have q2 : ¬ 9223372036854775807 < xa.size + 1 + xb.size := by omega
  have q3 : ¬ 9223372036854775807 < xa.size + 1 + xb.size + 1 := by omega
  go_enter Tryz.func109, Tryz.ntmps109
  go_wp2_with (fail)
  go_region_with (go_at_call 89; first | (with_reducible refine (CA.out _).mono ?_; rintro e w1 ⟨rfl, hb1⟩; obtain ⟨hc1, hf1⟩ := bcell' hb1; have z1 := hb1.size; try simp at z1) | (with_reducible refine (CB.out _).mono ?_; rintro e w2 ⟨rfl, hb2⟩; obtain ⟨hc2, hf2⟩ := bcell' hb2; have z2 := hb2.size; try simp at z2))
  all_goals
    go_wp2_with (fail)
    go_ret
    exact ⟨rfl, ((Below.drew ((Below.refl w.heap.size w).alloc (Nat.le_refl _) _)).trans (hb1.mono (B' := w.heap.size) (by simp))).trans (hb2.mono (B' := w.heap.size) (by omega))⟩
/-- The challenge of R and the key, both Points, and a text. -/
def chN (r1 r2 k1 k2 : Nat) (s : ByteArray) : Nat := hashN (nums (ptS r1 r2 ++ ptS k1 k2 ++ s)) % 2549
theorem chN_lt (r1 r2 k1 k2 : Nat) (s : ByteArray) : chN r1 r2 k1 k2 s < 2549 := Nat.mod_lt _ (by omega)
set_option maxRecDepth 100000 in
set_option maxHeartbeats 4000000 in
theorem l3Challenge_any (r1 r2 k1 k2 : Nat) (s : ByteArray) (w : World) (h1 : r1 ≤ 1099511627776) (h2 : r2 ≤ 1099511627776) (h3 : k1 ≤ 1099511627776) (h4 : k2 ≤ 1099511627776) (hs : s.size ≤ 4611686018427380000) :
    Calls Tryz.prog 129 #[.agg #[.int .i64 r1, .int .i64 r2], .agg #[.int .i64 k1, .int .i64 k2], .string s] w fun e w' => e = .returned (.int .i64 (chN r1 r2 k1 k2 s)) ∧ Below w.heap.size w w' := by
  have CA := hidIt (fun w => l3Point_any r1 r2 w h1 h2)
  have CB := hidIt (fun w => l3Point_any k1 k2 w h3 h4)
  have sa := ptS_size r1 r2 h1 h2
  have sb := ptS_size k1 k2 h3 h4
  have ec : ((chN r1 r2 k1 k2 s : Nat) : Int) = (hashN (nums (ptS r1 r2 ++ ptS k1 k2 ++ s)) : Int).tmod 2549 := by unfold chN; rw [Int.tmod_eq_emod_of_nonneg (by omega)]; omega
  rw [ec]
  clear ec
  generalize ptS r1 r2 = xa at CA sa ⊢
  generalize ptS k1 k2 = xb at CB sb ⊢
  have CH := hidIt (fun w => spec_Hash (xa ++ xb ++ s) w (by rw [ByteArray.size_append, ByteArray.size_append]; omega))
  have q0 : (0 : Int) ≤ (hashN (nums (xa ++ xb ++ s)) : Int) := by omega
  generalize (hashN (nums (xa ++ xb ++ s)) : Int) = hh at CH q0 ⊢
  have q1 : ¬ 9223372036854775807 < xa.size + xb.size := by omega
  have q2 : ¬ 9223372036854775807 < xa.size + xb.size + s.size := by omega
  go_enter Tryz.func129, Tryz.ntmps129
  go_wp2_with (fail)
  go_region_with (first
    | (go_at_call 109; first | (with_reducible refine (CA.out _).mono ?_; rintro e w1 ⟨rfl, hb1⟩; obtain ⟨hc1, hf1⟩ := bcell' hb1; have z1 := hb1.size; try simp at z1) | (with_reducible refine (CB.out _).mono ?_; rintro e w2 ⟨rfl, hb2⟩; obtain ⟨hc2, hf2⟩ := bcell' hb2; have z2 := hb2.size; try simp at z2))
    | (go_at_call 88; refine (CH.out _).mono ?_; rintro e w3 ⟨rfl, rfl⟩))
  all_goals
    go_wp2_with (fail)
    go_ret
    exact ⟨rfl, ((Below.drew (((Below.refl w.heap.size w).alloc (Nat.le_refl _) _).alloc (by simp) _)).trans (hb1.mono (B' := w.heap.size) (by simp; omega))).trans (hb2.mono (B' := w.heap.size) (by omega))⟩
end Go.Proofs.YtllajhieocploaaGreatDoor.Sg
