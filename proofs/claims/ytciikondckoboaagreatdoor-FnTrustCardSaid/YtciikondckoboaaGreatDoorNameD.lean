/-
  What the drawing functions of chapter 5 answer, whatever the bytes: texts; they write into their own cursor and new memory alone.
-/
import Derived.Test.YtciikondckoboaaGreatDoorNameB
import Derived.Test.YtciikondckoboaaGreatDoorNameU
namespace Go.Proofs.YtciikondckoboaaGreatDoor.Nm
open Go.ChangeShapes Go.WideShapes Go.ChangeAt Go.RowKit
open Dr
abbrev lits1 : Array Value := #[.string ⟨#[122, 111, 110, 101]⟩, .string ⟨#[122, 111, 110, 101]⟩, .string ⟨#[98]⟩, .string ⟨#[]⟩]
theorem lits1_at {c : Nat} {w w1 : World} (h : Only c (w.alloc (.cells lits1 9)) w1) (hc : w.heap.size ≠ c) (x : Nat) (hx : x < 4) : ∃ t : ByteArray, t.size ≤ 4 ∧ w1.cell? ⟨w.heap.size, x, none⟩ = some (.string t) := by
  rw [h.cell (p := ⟨w.heap.size, x, none⟩) (by simp) hc]
  have : x = 0 ∨ x = 1 ∨ x = 2 ∨ x = 3 := by omega
  rcases this with rfl | rfl | rfl | rfl
  · exact ⟨⟨#[122, 111, 110, 101]⟩, by decide, by simp⟩
  · exact ⟨⟨#[122, 111, 110, 101]⟩, by decide, by simp⟩
  · exact ⟨⟨#[98]⟩, by decide, by simp⟩
  · exact ⟨⟨#[]⟩, by decide, by simp⟩
abbrev lits2 : Array Value := #[.string ⟨#[97]⟩, .string ⟨#[98]⟩, .string ⟨#[119, 101, 98]⟩, .string ⟨#[120, 45, 49]⟩, .string ⟨#[97, 97]⟩]
theorem lits2_at {c : Nat} {w w1 : World} (h : Only c (w.alloc (.cells lits2 9)) w1) (hc : w.heap.size ≠ c) (x : Nat) (hx : x < 5) : ∃ t : ByteArray, t.size ≤ 3 ∧ w1.cell? ⟨w.heap.size, x, none⟩ = some (.string t) := by
  rw [h.cell (p := ⟨w.heap.size, x, none⟩) (by simp) hc]
  have : x = 0 ∨ x = 1 ∨ x = 2 ∨ x = 3 ∨ x = 4 := by omega
  rcases this with rfl | rfl | rfl | rfl | rfl
  · exact ⟨⟨#[97]⟩, by decide, by simp⟩
  · exact ⟨⟨#[98]⟩, by decide, by simp⟩
  · exact ⟨⟨#[119, 101, 98]⟩, by decide, by simp⟩
  · exact ⟨⟨#[120, 45, 49]⟩, by decide, by simp⟩
  · exact ⟨⟨#[97, 97]⟩, by decide, by simp⟩
abbrev lits3 : Array Value := #[.string ⟨#[97, 98, 99, 100, 101, 102, 103, 104, 105, 106, 107, 108]⟩, .string ⟨#[97, 98, 99, 100, 101, 102, 103, 104, 105, 106, 107, 108, 109]⟩, .string ⟨#[97, 46, 98, 46, 99, 46, 100, 46, 101, 46, 102]⟩, .string ⟨#[97, 46, 98, 46, 99, 46, 100, 46, 101, 46, 102, 46, 103]⟩, .string ⟨#[97, 98, 99, 100, 101, 102, 103, 104, 105, 106, 107, 108, 46, 97, 98, 99, 100, 101, 102, 103, 104, 105, 106, 107, 108, 46, 97, 98, 99, 100, 101, 102, 103, 104, 105, 106, 107, 108, 46, 97, 98, 99, 100, 101, 102, 103, 104, 105, 106, 107, 108, 46, 97, 98, 99, 100, 101, 102, 103, 104]⟩, .string ⟨#[97, 98, 99, 100, 101, 102, 103, 104, 105, 106, 107, 108, 46, 97, 98, 99, 100, 101, 102, 103, 104, 105, 106, 107, 108, 46, 97, 98, 99, 100, 101, 102, 103, 104, 105, 106, 107, 108, 46, 97, 98, 99, 100, 101, 102, 103, 104, 105, 106, 107, 108, 46, 97, 98, 99, 100, 101, 102, 103, 104, 105]⟩]
theorem lits3_at {c : Nat} {w w1 : World} (h : Only c (w.alloc (.cells lits3 9)) w1) (hc : w.heap.size ≠ c) (x : Nat) (hx : x < 6) : ∃ t : ByteArray, t.size ≤ 61 ∧ w1.cell? ⟨w.heap.size, x, none⟩ = some (.string t) := by
  rw [h.cell (p := ⟨w.heap.size, x, none⟩) (by simp) hc]
  have : x = 0 ∨ x = 1 ∨ x = 2 ∨ x = 3 ∨ x = 4 ∨ x = 5 := by omega
  rcases this with rfl | rfl | rfl | rfl | rfl | rfl
  · exact ⟨⟨#[97, 98, 99, 100, 101, 102, 103, 104, 105, 106, 107, 108]⟩, by decide, by simp⟩
  · exact ⟨⟨#[97, 98, 99, 100, 101, 102, 103, 104, 105, 106, 107, 108, 109]⟩, by decide, by simp⟩
  · exact ⟨⟨#[97, 46, 98, 46, 99, 46, 100, 46, 101, 46, 102]⟩, by decide, by simp⟩
  · exact ⟨⟨#[97, 46, 98, 46, 99, 46, 100, 46, 101, 46, 102, 46, 103]⟩, by decide, by simp⟩
  · exact ⟨⟨#[97, 98, 99, 100, 101, 102, 103, 104, 105, 106, 107, 108, 46, 97, 98, 99, 100, 101, 102, 103, 104, 105, 106, 107, 108, 46, 97, 98, 99, 100, 101, 102, 103, 104, 105, 106, 107, 108, 46, 97, 98, 99, 100, 101, 102, 103, 104, 105, 106, 107, 108, 46, 97, 98, 99, 100, 101, 102, 103, 104]⟩, by decide, by simp⟩
  · exact ⟨⟨#[97, 98, 99, 100, 101, 102, 103, 104, 105, 106, 107, 108, 46, 97, 98, 99, 100, 101, 102, 103, 104, 105, 106, 107, 108, 46, 97, 98, 99, 100, 101, 102, 103, 104, 105, 106, 107, 108, 46, 97, 98, 99, 100, 101, 102, 103, 104, 105, 106, 107, 108, 46, 97, 98, 99, 100, 101, 102, 103, 104, 105]⟩, by decide, by simp⟩
set_option maxRecDepth 100000 in
set_option maxHeartbeats 4000000 in
theorem l5Draw_any (Bb c : Nat) (a : Option Addr) (len cap : Nat) (w : World) (hC : Cur Bb w c a len cap) :
    Calls Tryz.prog 20 #[.pointer (some ⟨c, 0, none⟩)] w fun e w' => ∃ t : ByteArray, e = .returned (.string t) ∧ Cur Bb w' c a len cap ∧ Only c w w' := by
  have hlt := hC.lt
  have HC := hidIt hC
  clear hC
  go_enter Tryz.func20, Tryz.ntmps20
  go_wp2_with (fail)
  refine (l1Below_any Bb c a len cap 4 _ (by decide) (HC.out.kept ((Below.refl (c + 1) w).alloc (by omega) _))).mono ?_
  rintro e w1 ⟨x, x0, x1, rfl, hC1, hO1⟩
  obtain ⟨xn, rfl⟩ := Int.eq_ofNat_of_zero_le x0
  obtain ⟨s0, hs0, c0⟩ := lits1_at hO1 (by omega) xn (by omega)
  have C1 := hidIt hC1
  have O1 := hidIt (((Only.refl c w).alloc _).trans hO1)
  clear hC1 hO1 HC
  have q1 : (xn : Int) < 4 := x1
  go_wp2_with (fail)
  refine (l1Below_any Bb c a len cap 4 _ (by decide) C1.out).mono ?_
  rintro e w2 ⟨y, y0, y1, rfl, hC2, hO2⟩
  obtain ⟨yn, rfl⟩ := Int.eq_ofNat_of_zero_le y0
  have C2 := hidIt hC2
  have O2 := hidIt (O1.out.trans hO2)
  clear hC2 hO2 C1 O1 c0
  go_wp2_with (fail)
  go_loopw [3, 4] (fun y z wx => ∃ (n : Nat) (s : ByteArray), y = .string s ∧ z = .int .i64 n ∧ s.size + 4 * n ≤ 16 ∧ Cur Bb wx c a len cap ∧ Only c w wx) (fun _ z _ => (intOf z).toNat)
  case atStart => exact ⟨yn, s0, rfl, rfl, by omega, C2.out, O2.out⟩
  case round =>
    obtain ⟨n, s, rfl, rfl, hn, hCr, hOr⟩ := hrel
    have HCr := hidIt hCr
    have HOr := hidIt hOr
    clear hCr hOr C2 O2
    by_cases h0 : 0 < n
    · have h0' : (0 : Int) < n := by omega
      have h0'' : (n : Int) ≤ 4 := by omega
      go_wp2_with (fail)
      refine (l1Below_any Bb c a len cap 5 _ (by decide) (HCr.out.kept ((Below.refl (c + 1) wr).alloc HCr.out.lt _))).mono ?_
      rintro e w3 ⟨z, z0, z1, rfl, hC3, hO3⟩
      obtain ⟨zn, rfl⟩ := Int.eq_ofNat_of_zero_le z0
      obtain ⟨t, ht, d0⟩ := lits2_at hO3 (by have := HCr.out.lt; omega) zn (by omega)
      have C3 := hidIt hC3
      have O3 := hidIt ((HOr.out.alloc _).trans hO3)
      clear hC3 hO3 HCr HOr
      have q2 : (zn : Int) < 5 := z1
      by_cases he : s = ByteArray.empty
      · subst he
        go_wp2_with (fail)
        refine ⟨⟨n - 1, t, rfl, ?_, by omega, C3.out, O3.out⟩, by simp [intOf]; omega⟩
        congr 1
        omega
      · have e1 := not_empty he
        have e2 := filled he
        have p1 : (t ++ (⟨#[46]⟩ : ByteArray)).size = t.size + 1 := by rw [ByteArray.size_append]; rfl
        have p2 : ¬ 9223372036854775807 < t.size + 1 := by omega
        have p3 : ¬ 9223372036854775807 < t.size + 1 + s.size := by omega
        have p4 : Hid ((t ++ (⟨#[46]⟩ : ByteArray) ++ s).size = t.size + 1 + s.size) := hidIt (by rw [ByteArray.size_append, p1])
        clear p1
        go_wp2_with (fail)
        refine ⟨⟨n - 1, _, rfl, ?_, ?_, C3.out, O3.out⟩, by simp [intOf]; omega⟩
        · congr 1
          omega
        · rw [p4.out]; omega
    · have h0' : ¬ (0 : Int) < n := by omega
      go_wp2_with (fail)
      refine (l1Once_any Bb c a len cap 10 _ (by decide) HCr.out).mono ?_
      rintro e w4 ⟨b1, rfl, hC4, hO4⟩
      have C4 := hidIt hC4
      have O4 := hidIt (HOr.out.trans hO4)
      clear hC4 hO4 HCr HOr
      have p1 : (s ++ (⟨#[113]⟩ : ByteArray)).size ≤ 1000 := by rw [ByteArray.size_append]; show s.size + 1 ≤ 1000; omega
      have p2 : ¬ 9223372036854775807 < s.size + 1 := by omega
      have HP1 := hidIt p1
      clear p1
      cases b1 with
      | false =>
        go_wp2_with (fail)
        refine (l1Once_any Bb c a len cap 30 _ (by decide) C4.out).mono ?_
        rintro e w6 ⟨b2, rfl, hC6, hO6⟩
        have C6 := hidIt hC6
        have O6 := hidIt (O4.out.trans hO6)
        clear hC6 hO6 C4 O4
        cases b2 with
        | false =>
          go_wp2_with (fail)
          go_ret
          exact ⟨_, rfl, C6.out, O6.out⟩
        | true =>
          go_wp2_with (fail)
          refine (l1Below_any Bb c a len cap 6 _ (by decide) (C6.out.kept ((Below.refl (c + 1) w6).alloc C6.out.lt _))).mono ?_
          rintro e w7 ⟨z, z0, z1, rfl, hC7, hO7⟩
          obtain ⟨zn, rfl⟩ := Int.eq_ofNat_of_zero_le z0
          obtain ⟨t, ht, d0⟩ := lits3_at hO7 (by have := C6.out.lt; omega) zn (by omega)
          have C7 := hidIt hC7
          have O7 := hidIt ((O6.out.alloc _).trans hO7)
          clear hC7 hO7 C6 O6
          have q2 : (zn : Int) < 6 := z1
          go_wp2_with (fail)
          go_ret
          exact ⟨_, rfl, C7.out, O7.out⟩
      | true =>
        go_wp2_with (fail)
        refine (l1Bend_any Bb c a len cap _ _ C4.out HP1.out).mono ?_
        rintro e w5 ⟨s5, _, rfl, hC5, hO5⟩
        have C5 := hidIt hC5
        have O5 := hidIt (O4.out.trans hO5)
        clear hC5 hO5 C4 O4
        go_wp2_with (fail)
        refine (l1Once_any Bb c a len cap 30 _ (by decide) C5.out).mono ?_
        rintro e w6 ⟨b2, rfl, hC6, hO6⟩
        have C6 := hidIt hC6
        have O6 := hidIt (O5.out.trans hO6)
        clear hC6 hO6 C5 O5
        cases b2 with
        | false =>
          go_wp2_with (fail)
          go_ret
          exact ⟨_, rfl, C6.out, O6.out⟩
        | true =>
          go_wp2_with (fail)
          refine (l1Below_any Bb c a len cap 6 _ (by decide) (C6.out.kept ((Below.refl (c + 1) w6).alloc C6.out.lt _))).mono ?_
          rintro e w7 ⟨z, z0, z1, rfl, hC7, hO7⟩
          obtain ⟨zn, rfl⟩ := Int.eq_ofNat_of_zero_le z0
          obtain ⟨t, ht, d0⟩ := lits3_at hO7 (by have := C6.out.lt; omega) zn (by omega)
          have C7 := hidIt hC7
          have O7 := hidIt ((O6.out.alloc _).trans hO7)
          clear hC7 hO7 C6 O6
          have q2 : (zn : Int) < 6 := z1
          go_wp2_with (fail)
          go_ret
          exact ⟨_, rfl, C7.out, O7.out⟩
end Go.Proofs.YtciikondckoboaaGreatDoor.Nm
