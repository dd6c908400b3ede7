/-
  Hash: what the program's hash state, hasher and Hash answer and turn, and the specification's Hash.
-/
import Derived.Test.YtceddedlfdgbhaaGreatDoorSignP
import Derived.Test.YtceddedlfdgbhaaGreatDoorField
import Derived.Test.YtceddedlfdgbhaaGreatDoorMem
import Derived.Deep.RegionWith
import Derived.Deep.Cut
namespace Go.Proofs.YtceddedlfdgbhaaGreatDoor.Sg
open Go.ChangeShapes Go.WideShapes Go.ChangeAt Go.RowKit
theorem hidIt {p : Prop} (h : p) : Hid p := h
/-- Block b's first cell holds the number h, and may be written. -/
structure One (w : World) (b h : Nat) : Prop where
  lt : b < w.heap.size
  c0 : w.cell? ⟨b, 0, none⟩ = some (.int .i64 h)
  f0 : w.frozen? ⟨b, 0, none⟩ = false
theorem One.kept {B : Nat} {w w' : World} {b h : Nat} (o : One w b h) (k : Below B w w') (hb : b < B) : One w' b h :=
  ⟨Nat.lt_of_lt_of_le o.lt k.size, by rw [k.cell (by simpa using hb)]; exact o.c0, by rw [k.frozen (by simpa using hb)]; exact o.f0⟩
theorem One.put {w : World} {b h g : Nat} (o : One w b h) : One (w.setCell ⟨b, 0, none⟩ (.int .i64 g)) b g :=
  ⟨by simpa [World.setCell] using o.lt, World.cell?_setCell_same' _ _ _ (by rw [o.c0]; rfl), by simpa using o.f0⟩
theorem One.newAt {w : World} {h k : Nat} {T : TypeId} (e : w.heap.size = k) : One (w.alloc (.cells #[.int .i64 h] T)) k h := by
  subst e; exact ⟨by simp, by simp, by simp⟩
theorem One.drew {w : World} {b h : Nat} (o : One w b h) : One w.drew b h := ⟨o.lt, o.c0, o.f0⟩
set_option maxHeartbeats 1000000 in
theorem take_any (b h c : Nat) (w : World) (o : One w b h) (hh : h < 2147483647) (hc : c < 256) :
    Calls Tryz.prog 111 #[.pointer (some ⟨b, 0, none⟩), .int .u8 c] w fun e w' => e = .returned (.tuple #[]) ∧ w' = w.setCell ⟨b, 0, none⟩ (.int .i64 (hstep h c)) := by
  obtain ⟨lt, c0, f0⟩ := o
  have h1 : (0 : Int) ≤ h := by omega
  have h2 : (h : Int) < 2147483647 := by omega
  have h3 : (0 : Int) ≤ c := by omega
  have h4 : (c : Int) < 256 := by omega
  go_enter Tryz.func111, Tryz.ntmps111
  go_wp2
  refine bodyPost_end (v := .tuple #[]) (by simp [results, Tryz.results111, go_sem]) rfl ⟨rfl, ?_⟩
  have e : (((h : Int) * 1000003 + (c : Int) + 1) % 2147483647) = (hstep h c : Int) := by unfold hstep; omega
  rw [e]
set_option maxHeartbeats 2000000 in
theorem ended_any (h : Nat) (w : World) (hh : h < 2147483647) :
    Calls Tryz.prog 100 #[.agg #[.int .i64 h]] w fun e w' => e = .returned (.int .i64 (hend h)) ∧ Below w.heap.size w w' := by
  go_enter Tryz.func100, Tryz.ntmps100
  go_wp2_with (fail)
  go_loopw [3] (fun y wx => ∃ i : Nat, y = .int .i64 i ∧ i ≤ 5 ∧ One wx w.heap.size (hrun h (List.replicate i 0)) ∧ Below w.heap.size w wx) (fun y _ => (5 - intOf y).toNat)
  case atStart => exact ⟨0, rfl, by omega, One.newAt rfl, (Below.refl _ _).alloc (Nat.le_refl _) _⟩
  case round =>
    obtain ⟨i, rfl, hi, hO, hB⟩ := hrel
    have HO := hidIt hO
    have HB := hidIt hB
    clear hB
    by_cases h5 : i < 5
    · have h5' : (i : Int) < 5 := by omega
      clear hO
      go_wp2_with (fail)
      refine (take_any w.heap.size _ 0 _ HO.out (hrun_lt _ _ hh) (by decide)).mono ?_
      rintro e w1 ⟨rfl, rfl⟩
      go_wp2_with (fail)
      refine ⟨⟨i + 1, by simp, by omega, ?_, HB.out.setCell (by simp) _⟩, by simp [intOf]; omega⟩
      have := HO.out.put (g := hstep (hrun h (List.replicate i 0)) 0)
      rw [List.replicate_succ', hrun_append, hrun_cons, hrun_nil]
      exact this
    · have h5' : ¬ (i : Int) < 5 := by omega
      have e5 : i = 5 := by omega
      subst e5
      obtain ⟨lt, c0, f0⟩ := hO
      go_wp2_with (fail)
      go_ret
      exact ⟨rfl, HB.out⟩
set_option maxHeartbeats 1000000 in
theorem newHasher_any (w : World) : Calls Tryz.prog 97 #[] w fun e w' => e = .returned (.agg #[.int .i64 17]) ∧ Below w.heap.size w w' := by
  go_enter Tryz.func97, Tryz.ntmps97
  go_wp2
  refine bodyPost_ret (v := .agg #[.int .i64 17]) (by simp [results, Tryz.results97, go_sem]) rfl ⟨rfl, ?_⟩
  exact (Below.refl _ _).alloc (Nat.le_refl _) _
set_option maxHeartbeats 2000000 in
theorem text_any (b h : Nat) (s : ByteArray) (w : World) (o : One w b h) (hh : h < 2147483647) (hs : s.size ≤ 9223372036854775807) :
    Calls Tryz.prog 99 #[.pointer (some ⟨b, 0, none⟩), .string s] w fun e w' => e = .returned (.tuple #[]) ∧ One w' b (hrun h (nums s)) ∧ Only b w w' := by
  have HO := hidIt o
  clear o
  go_enter Tryz.func99, Tryz.ntmps99
  go_wp2_with (fail)
  go_loopw [7] (fun y wx => ∃ i : Nat, y = .int .i64 i ∧ i ≤ s.size ∧ One wx b (hrun h ((nums s).take i)) ∧ Only b w wx) (fun y _ => (s.size - intOf y).toNat)
  case atStart => exact ⟨0, rfl, by omega, HO.out, Only.refl _ _⟩
  case round =>
    obtain ⟨i, rfl, hi, hO, hB⟩ := hrel
    have HP := hidIt hO
    have HB := hidIt hB
    clear hB
    by_cases h5 : i < s.size
    · have h5' : (i : Int) < s.size := by omega
      have h6 : (0 : Int) ≤ i := by omega
      have h7 : (i : Int) + 1 ≤ 9223372036854775807 := by omega
      clear hO
      go_wp2_with (fail)
      go_region_with (go_at_call 111; refine (take_any b _ _ _ HP.out.drew (hrun_lt _ _ hh) (UInt8.toNat_lt _)).mono ?_; rintro e w1 ⟨rfl, rfl⟩)
      all_goals
        go_wp2_with (fail)
        refine ⟨⟨i + 1, by simp, by omega, ?_, (HB.out.setCell 0 _).drew⟩, by simp [intOf]; omega⟩
        rw [hrun_take s h i h5]
        exact HP.out.put.drew
    · have h5' : ¬ (i : Int) < s.size := by omega
      have e5 : i = s.size := by omega
      subst e5
      clear hO
      go_wp2_with (fail)
      refine bodyPost_end (v := .tuple #[]) (by simp [results, Tryz.results99, go_sem]) rfl ⟨rfl, ?_, HB.out⟩
      have := HP.out
      rw [nums_take_all] at this
      exact this
set_option maxHeartbeats 2000000 in
theorem spec_Hash (s : ByteArray) (w : World) (hs : s.size ≤ 4611686018427387904) :
    Calls Tryz.prog 39 #[.string s] w fun e w' => e = .returned (.int .i64 (hashN (nums s))) ∧ w' = w := by
  go_enter Tryz.func39, Tryz.ntmps39
  go_wp2_with (fail)
  go_loopw [3, 4] (fun y z wx => ∃ i h : Nat, y = .int .i64 h ∧ z = .int .i64 i ∧ i ≤ s.size + 5 ∧ Hid (h = hrun 17 ((pad s).take i)) ∧ h < 2147483647 ∧ wx = w) (fun _ z _ => (s.size + 5 - intOf z).toNat)
  case atStart => exact ⟨0, 17, rfl, rfl, by omega, rfl, by omega, rfl⟩
  case round =>
    obtain ⟨i, h, rfl, rfl, hi, hh, hl, rfl⟩ := hrel
    have l1 : (0 : Int) ≤ h := by omega
    have l2 : (h : Int) < 2147483647 := by omega
    have l3 : (0 : Int) ≤ i := by omega
    have l4 : (i : Int) + 1 ≤ 9223372036854775807 := by omega
    have l5 : (s.size : Int) + 5 ≤ 9223372036854775807 := by omega
    by_cases h5 : i < s.size
    · have h6 : (i : Int) < s.size := by omega
      have h7 : (i : Int) < s.size + 5 := by omega
      have l6 : ((s[i]'h5).toNat : Int) < 256 := by have := UInt8.toNat_lt (s[i]'h5); omega
      have l7 : (0 : Int) ≤ ((s[i]'h5).toNat : Int) := by omega
      go_wp2_with (fail)
      refine ⟨⟨i + 1, hstep h (s[i]'h5).toNat, ?_, by simp, by omega, ?_, hstep_lt _ _, trivial⟩, by simp [intOf]; omega⟩
      · refine congrArg (Value.int IntKind.i64) ?_; unfold hstep; omega
      · show _ = _
        rw [hrun_pad_lt s 17 i h5, ← hh.out]
    · have h6 : ¬ (i : Int) < s.size := by omega
      by_cases h7 : i < s.size + 5
      · have h8 : (i : Int) < s.size + 5 := by omega
        go_wp2_with (fail)
        refine ⟨⟨i + 1, hstep h 0, ?_, by simp, by omega, ?_, hstep_lt _ _, trivial⟩, by simp [intOf]; omega⟩
        · refine congrArg (Value.int IntKind.i64) ?_; unfold hstep; omega
        · show _ = _
          rw [hrun_pad_ge s 17 i (by omega) h7, ← hh.out]
      · have h8 : ¬ (i : Int) < s.size + 5 := by omega
        have e5 : i = s.size + 5 := by omega
        go_wp2_with (fail)
        go_ret
        refine ⟨?_, rfl⟩
        rw [hh.out, e5, hrun_pad]
        rfl
end Go.Proofs.YtceddedlfdgbhaaGreatDoor.Sg
