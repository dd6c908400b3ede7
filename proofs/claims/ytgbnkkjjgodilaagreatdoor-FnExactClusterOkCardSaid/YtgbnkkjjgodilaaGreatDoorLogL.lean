/-
  What the laws' own helpers of chapter 4 answer: szLineS, toLineS, eqLineS.
-/
import Derived.Test.YtgbnkkjjgodilaaGreatDoorLogS
import Derived.OwnWalk
import Derived.Laws.AppendOwn
namespace Go.Proofs.YtgbnkkjjgodilaaGreatDoor.Lg
open Go.ChangeShapes Go.WideShapes Go.ChangeAt Go.RowKit
open Sg
set_option linter.unusedVariables false
set_option maxHeartbeats 2000000 in
theorem szLine_any (s : ByteArray) (q l : Int) (w : World) (h0 : 0 ≤ l) (h1 : l ≤ 1048576) (hs : s.size ≤ 9223372036854775807) :
    Calls Tryz.prog 93 #[.agg #[.string s, .int .i64 q], .int .i64 l] w fun e w' => ∃ r : Int, e = .returned (.int .i64 r) ∧ r ≤ l ∧ Below w.heap.size w w' := by
  have h2 : -9223372036854775808 ≤ l - (s.size : Int) := by omega
  have h3 : l - (s.size : Int) ≤ 9223372036854775807 := by omega
  by_cases hs2 : l - (s.size : Int) < 0
  · go_enter Tryz.func93, Tryz.ntmps93
    go_wp2
    go_ret
    exact ⟨-1, rfl, by omega, (Below.refl _ _).alloc (Nat.le_refl _) _⟩
  · go_enter Tryz.func93, Tryz.ntmps93
    go_wp2
    go_ret
    exact ⟨_, rfl, by omega, (Below.refl _ _).alloc (Nat.le_refl _) _⟩
set_option maxHeartbeats 4000000 in
theorem szLineS_any (a : Option Addr) (cap : Nat) (L : List Ln) (l : Int) (w : World) (h : Rd w a L) (hl : L.length ≤ 9223372036854775807) (hs : ∀ i, i < L.length → (lat L i).1.size ≤ 9223372036854775807) (h0 : 0 ≤ l) (h1 : l ≤ 1048576) :
    Calls Tryz.prog 66 #[.slice a L.length cap, .int .i64 l] w fun e w' => ∃ r : Int, e = .returned (.int .i64 r) ∧ r ≤ l ∧ (0 ≤ r → L.length ≤ 1048576) ∧ Below w.heap.size w w' := by
  generalize hn : L.length = n at *
  have HR := hidIt h
  have HN := hidIt hn
  have HS := hidIt hs
  clear h hn hs
  have h2 : -9223372036854775808 ≤ l - (n : Int) := by omega
  have h3 : l - (n : Int) ≤ 9223372036854775807 := by omega
  by_cases hs2 : l - (n : Int) < 0
  · go_enter Tryz.func66, Tryz.ntmps66
    go_wp2
    go_ret
    exact ⟨-1, rfl, by omega, fun h => by omega, Below.refl _ _⟩
  · have hn2 : n ≤ 1048576 := by omega
    go_enter Tryz.func66, Tryz.ntmps66
    go_wp2_with (fail)
    go_loopw [1, 5] (fun z y wx => ∃ (i : Nat) (r : Int), y = .int .i64 i ∧ z = .int .i64 r ∧ 0 ≤ r ∧ r ≤ l ∧ i ≤ n ∧ Below w.heap.size w wx) (fun _ y _ => (n - intOf y).toNat)
    case atStart => exact ⟨0, _, rfl, rfl, by omega, by omega, by omega, Below.refl _ _⟩
    case round =>
      obtain ⟨i, r, rfl, rfl, r0, r1, hi, hB⟩ := hrel
      have HRx := hidIt (HR.out.kept hB)
      have HB := hidIt hB
      clear hB
      by_cases hin : i < n
      · have hin' : (i : Int) < (n : Int) := by omega
        obtain ⟨b, off, rfl, c0, c1⟩ := HRx.out.cell i (by rw [HN.out]; exact hin)
        have hsz := HS.out i hin
        generalize lat L i = x at c0 c1 hsz
        obtain ⟨s, q⟩ := x
        go_wp2_with (fail)
        refine (szLine_any s q r _ r0 (by omega) hsz).mono ?_
        rintro e w1 ⟨r', rfl, hr', hb1⟩
        have HB1 := hidIt (HB.out.trans (hb1.mono HB.out.size))
        clear hb1 HRx HB
        by_cases hneg : r' < 0
        · go_wp2_with (fail)
          go_ret
          exact ⟨-1, rfl, by omega, fun h => by omega, HB1.out⟩
        · go_wp2_with (fail)
          exact ⟨⟨i + 1, r', by simp, rfl, by omega, by omega, by omega, HB1.out⟩, by simp [intOf]; omega⟩
      · have hin' : ¬ (i : Int) < (n : Int) := by omega
        go_wp2_with (fail)
        go_ret
        first | exact ⟨r, rfl, r1, fun _ => hn2, HB.out⟩ | exact ⟨r, rfl, r1, HB.out⟩
set_option maxHeartbeats 2000000 in
theorem toLine_any (s : ByteArray) (q : Int) (w : World) :
    Calls Tryz.prog 103 #[.agg #[.string s, .int .i64 q]] w fun e w' => e = .returned (.agg #[.string s, .int .i64 q]) ∧ Below w.heap.size w w' := by
  go_enter Tryz.func103, Tryz.ntmps103
  go_wp2
  refine bodyPost_ret (v := .agg #[.string s, .int .i64 q]) (by simp [results, Tryz.results103, go_sem]) rfl ⟨rfl, ?_⟩
  exact (((Below.refl w.heap.size w).alloc (Nat.le_refl _) _).alloc (by simp) _).alloc (by simp; omega) _
set_option maxHeartbeats 2000000 in
theorem eqLine_any (s : ByteArray) (q : Int) (w : World) :
    Calls Tryz.prog 116 #[.agg #[.string s, .int .i64 q], .agg #[.string s, .int .i64 q]] w fun e w' => e = .returned (.bool true) ∧ Below w.heap.size w w' := by
  go_enter Tryz.func116, Tryz.ntmps116
  go_wp2
  go_ret
  exact ⟨rfl, ((Below.refl w.heap.size w).alloc (Nat.le_refl _) _).alloc (by simp) _⟩
theorem infoLn : (Tryz.prog.info? 104).map (fun i => (i.zero, i.size, i.bytes)) = some (some (.agg #[.string ByteArray.empty, .int .i64 0]), 2, 24) := by kernel_rfl
set_option maxRecDepth 100000 in
set_option maxHeartbeats 4000000 in
theorem toLineS_any (a : Option Addr) (cap : Nat) (L : List Ln) (w : World) (h : Rd w a L) (hl : L.length ≤ 1048576) :
    Calls Tryz.prog 76 #[.slice a L.length cap] w fun e w' => ∃ v, e = .returned v ∧ Own w' w.heap.size v L ∧ Below w.heap.size w w' := by
  generalize hn : L.length = n at *
  obtain ⟨i0, hi, hz0, hz1, hz2⟩ := info_parts infoLn
  have HR := hidIt h
  have HN := hidIt hn
  clear h hn
  go_enter Tryz.func76, Tryz.ntmps76
  go_wp2_with (first
    | (at_make; refine wpList_make_full _ rfl _ _ 47 rfl w.heap.size 104 i0 (.agg #[.string ByteArray.empty, .int .i64 0]) 2 Tryz.underlying47 hi hz0 hz1 _ _ _ _ n rfl rfl (by omega) (by omega) (by rw [hz2]; omega) (by unfold maxLen; omega) (Nat.le_refl _) ?_)
    | fail)
  intro w1 hown hgrow
  have HO : Hid (Own w1 w.heap.size (.slice (some ⟨w.heap.size, 0, none⟩) n n) (List.replicate n (ByteArray.empty, 0))) := by
    refine hidIt ?_
    unfold Own
    rw [List.length_replicate, lcells_zero]
    exact hown
  have HB := hidIt ((Below.refl w.heap.size w).grown hgrow (Nat.le_refl _) (fun k hk => by cases hk))
  clear hown hgrow
  go_wp2_with (fail)
  go_loopw [4] (fun y wx => ∃ (i : Nat) (M : List Ln), y = .int .i64 i ∧ i ≤ n ∧ M.length = n ∧ Hid (∀ j, j < i → lat M j = lat L j) ∧ Own wx w.heap.size (.slice (some ⟨w.heap.size, 0, none⟩) n n) M ∧ Below w.heap.size w wx) (fun y _ => (n - intOf y).toNat)
  case atStart => exact ⟨0, _, rfl, by omega, by simp, hidIt (fun j hj => by omega), HO.out, HB.out⟩
  case round =>
    obtain ⟨i, M, rfl, hin0, hM, hE, hO, hB⟩ := hrel
    have HRx := hidIt (HR.out.kept hB)
    have HBx := hidIt hB
    have HOx := hidIt hO
    have HM := hidIt hM
    clear hB hO HO HB hM
    by_cases hin : i < n
    · have hin' : (i : Int) < (n : Int) := by omega
      obtain ⟨b, off, rfl, c0, c1⟩ := HRx.out.cell i (by rw [HN.out]; exact hin)
      generalize hx : lat L i = x at c0 c1
      have HX := hidIt hx
      clear hx
      obtain ⟨s, q⟩ := x
      go_wp2_with (fail)
      refine (toLine_any s q _).mono ?_
      rintro e w2 ⟨rfl, hb2⟩
      have HB2 := hidIt (HBx.out.trans (hb2.mono HBx.out.size))
      have HO2 := hidIt (HOx.out.kept hb2)
      have hiM : i < M.length := by rw [HM.out]; exact hin
      have HO3 := hidIt (HO2.out.line hiM s q)
      obtain ⟨c2, c3, f0, f1⟩ := HO2.out.at hiM
      clear hb2 HRx HBx HOx HO2
      have HMi := hidIt hiM
      clear hiM
      go_wp2_with (fail)
      refine ⟨⟨i + 1, _, by simp, by omega, by rw [List.length_set]; exact HM.out, hidIt (fun j hj => ?_), HO3.out, (HB2.out.setCell (by simp) _).setCell (by simp) _⟩, by simp [intOf]; omega⟩
      rw [lat_set HMi.out]
      split
      · next e => subst e; exact HX.out.symm
      · exact hE.out j (by omega)
    · have hin' : ¬ (i : Int) < (n : Int) := by omega
      have e : M = L := ext_lat (by rw [HM.out, HN.out]) (fun j hj => hE.out j (by rw [HM.out] at hj; omega))
      subst e
      go_wp2_with (fail)
      go_ret
      exact ⟨_, rfl, HOx.out, HBx.out⟩
theorem held4c {W wA : World} {b x y c u v : Nat} {a0 a1 a2 a3 : Value} (k : Below W.heap.size W wA) (h : W.cell? ⟨b, x, none⟩ = some a0 ∧ W.cell? ⟨b, y, none⟩ = some a1 ∧ W.cell? ⟨c, u, none⟩ = some a2 ∧ W.cell? ⟨c, v, none⟩ = some a3) : wA.cell? ⟨b, x, none⟩ = some a0 ∧ wA.cell? ⟨b, y, none⟩ = some a1 ∧ wA.cell? ⟨c, u, none⟩ = some a2 ∧ wA.cell? ⟨c, v, none⟩ = some a3 := by
  rw [k.cell (p := ⟨b, x, none⟩) (cell_block h.1), k.cell (p := ⟨b, y, none⟩) (cell_block h.1), k.cell (p := ⟨c, u, none⟩) (cell_block h.2.2.1), k.cell (p := ⟨c, v, none⟩) (cell_block h.2.2.1)]
  exact h
theorem held4c_drew {W wA : World} {b x y c u v : Nat} {a0 a1 a2 a3 : Value} (k : Below W.drew.heap.size W.drew wA) (h : W.cell? ⟨b, x, none⟩ = some a0 ∧ W.cell? ⟨b, y, none⟩ = some a1 ∧ W.cell? ⟨c, u, none⟩ = some a2 ∧ W.cell? ⟨c, v, none⟩ = some a3) : wA.cell? ⟨b, x, none⟩ = some a0 ∧ wA.cell? ⟨b, y, none⟩ = some a1 ∧ wA.cell? ⟨c, u, none⟩ = some a2 ∧ wA.cell? ⟨c, v, none⟩ = some a3 := held4c (W := W.drew) k h
set_option maxRecDepth 100000 in
set_option maxHeartbeats 4000000 in
theorem eqLineS_any (a b : Option Addr) (ca cb : Nat) (L : List Ln) (w : World) (ha : Rd w a L) (hb : Rd w b L) (hl : L.length ≤ 9223372036854775806) :
    Calls Tryz.prog 86 #[.slice a L.length ca, .slice b L.length cb] w fun e w' => e = .returned (.bool true) ∧ Below w.heap.size w w' := by
  generalize hn : L.length = n at *
  have HA := hidIt ha
  have HB := hidIt hb
  have HN := hidIt hn
  clear ha hb hn
  have hnn : ((n : Int) != (n : Int)) = false := by simp
  go_enter Tryz.func86, Tryz.ntmps86
  go_wp2_with (fail)
  go_loopw [5] (fun y wx => ∃ i : Nat, y = .int .i64 i ∧ i ≤ n ∧ Below w.heap.size w wx) (fun y _ => (n - intOf y).toNat)
  case atStart => exact ⟨0, rfl, by omega, Below.refl _ _⟩
  case round =>
    obtain ⟨i, rfl, hi, hB⟩ := hrel
    have RA := hidIt (HA.out.kept hB)
    have RB := hidIt (HB.out.kept hB)
    have KX := hidIt hB
    clear hB
    by_cases hin : i < n
    · have hin' : (i : Int) < (n : Int) := by omega
      obtain ⟨b1, o1, rfl, c0, c1⟩ := RA.out.cell i (by rw [HN.out]; omega)
      obtain ⟨b2, o2, rfl, d0, d1⟩ := RB.out.cell i (by rw [HN.out]; omega)
      generalize lat L i = x at c0 c1 d0 d1
      obtain ⟨s, q⟩ := x
      have hf := And.intro c0 (And.intro c1 (And.intro d0 d1))
      clear RA RB HA HB
      go_wp2_with (fail)
      go_region_held3 (fun w' => w'.cell? ⟨b1, o1 + i * 2, none⟩ = some (.string s) ∧ w'.cell? ⟨b1, o1 + i * 2 + 1, none⟩ = some (.int .i64 q) ∧ w'.cell? ⟨b2, o2 + i * 2, none⟩ = some (.string s) ∧ w'.cell? ⟨b2, o2 + i * 2 + 1, none⟩ = some (.int .i64 q))
        (first | assumption | (with_reducible exact held4c_drew hbB hf) | go_keep)
        (first | (go_at_call 116; refine (eqLine_any s q _).mono ?_; rintro e wB ⟨rfl, hbB⟩))
      have hBB : Hid (Below w.heap.size w wB) := hidIt (KX.out.drew.trans (hbB.mono (by have := KX.out.size; simpa using this)))
      clear hbB hf
      go_wp2_with (fail)
      exact ⟨⟨i + 1, by simp, by omega, hBB.out⟩, by simp [intOf]; omega⟩
    · have hin' : ¬ (i : Int) < (n : Int) := by omega
      go_wp2_with (fail)
      go_ret
      exact ⟨rfl, KX.out⟩
end Go.Proofs.YtgbnkkjjgodilaaGreatDoor.Lg
