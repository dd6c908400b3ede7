/-
  Keys of secrets; the secrets that a Roll has; what is Served, of the program.
-/
import Derived.Test.YteclbfgkeoiclaaRollK
import Derived.Test.YteclbfgkeoiclaaSignK
import Derived.Test.YteclbfgkeoiclaaPtP
import Derived.Test.YteclbfgkeoiclaaIntP
import Derived.Test.YteclbfgkeoiclaaBoxM
namespace Go.Proofs.Yteclbfgkeoiclaa.Ro
open Go.ChangeShapes Go.WideShapes Go.ChangeAt Go.RowKit
open Cv Cu
open Go.Proofs.Yteclbfgkeoiclaa.Pt (Ln lat)
set_option linter.unusedVariables false
theorem sec_nat {x : Int} (h : secB x = true) : ∃ n : Nat, x = n ∧ 0 < n ∧ n < 2549 := by
  simp only [secB, inB, Bool.and_eq_true, decide_eq_true_eq] at h
  exact ⟨x.toNat, by omega, by omega, by omega⟩
def keyI (x : Int) : Ln := (((ns (2791, 6375) x.toNat).1 : Int), ((ns (2791, 6375) x.toNat).2 : Int))
theorem keyI_nat (n : Nat) : keyI n = (((ns (2791, 6375) n).1 : Int), ((ns (2791, 6375) n).2 : Int)) := rfl
theorem spec_times (x : Int) (h : secB x = true) (w : World) : Calls Try.prog 43 #[.int .i64 x, .agg #[.int .i64 2791, .int .i64 6375]] w fun e w' => e = .returned (.agg #[.int .i64 (keyI x).1, .int .i64 (keyI x).2]) ∧ Below w.heap.size w w' := by
  obtain ⟨n, rfl, h1, h2⟩ := sec_nat h
  rw [keyI_nat]
  exact l2Times_any 2791 6375 n w ok_base (by omega)
theorem impl_KeyOf_sec (x : Int) (h : secB x = true) (w : World) : Calls Try.prog 19 #[.int .i64 x] w fun e w' => e = .returned (.tuple #[.agg #[.int .i64 (keyI x).1, .int .i64 (keyI x).2], .bool true]) ∧ Below w.heap.size w w' := by
  obtain ⟨n, rfl, h1, h2⟩ := sec_nat h
  rw [keyI_nat]
  exact impl_KeyOf_yes n w h1 h2
/-- The secrets of a Roll; what is Served. -/
def secR (p m o n a : Int) : List Int := if rollOk p m o n a = false then [] else if p = 1 then [m, o] else [m, o, n]
def serR (p m o n a : Int) : List Ln := (secR p m o n a).map keyI
theorem ser_length (p m o n a : Int) : (serR p m o n a).length = (secR p m o n a).length := by simp [serR]
theorem sec_length (p m o n a : Int) : (secR p m o n a).length ≤ 3 := by
  unfold secR
  split
  · simp
  · split <;> simp
theorem roll_secs {p m o n a : Int} (h : rollOk p m o n a = true) : secB m = true ∧ secB o = true ∧ (p = 1 → n = 0) ∧ (p ≠ 1 → secB n = true) := by
  unfold rollOk rollB at h
  by_cases h1 : p = 1
  · rw [if_pos h1] at h
    simp only [Bool.and_eq_true, beq_iff_eq] at h
    exact ⟨h.1, h.2.1, fun _ => h.2.2.2, fun e => absurd h1 e⟩
  · rw [if_neg h1] at h
    simp only [Bool.and_eq_true] at h
    exact ⟨h.1, h.2.1, fun e => absurd e h1, fun _ => h.2.2.2.2⟩
theorem sec_all {p m o n a x : Int} (h : x ∈ secR p m o n a) : secB x = true := by
  unfold secR at h
  cases hr : rollOk p m o n a with
  | false => simp [hr] at h
  | true =>
    obtain ⟨hm, ho, _, hn⟩ := roll_secs hr
    rw [if_neg (by simp [hr])] at h
    by_cases h1 : p = 1
    · rw [if_pos h1] at h
      simp at h
      rcases h with rfl | rfl
      · exact hm
      · exact ho
    · rw [if_neg h1] at h
      simp at h
      rcases h with rfl | rfl | rfl
      · exact hm
      · exact ho
      · exact hn h1
attribute [local go_sem] as_st_nil as_st_st as_st_rd as_st_mv as_rd_nil as_rd_st as_rd_rd as_rd_mv as_mv_nil as_mv_st as_mv_rd as_mv_mv
theorem own_i0 (w : World) {k : Nat} (h : w.heap.size = k) (b : Nat) (hb : b ≤ k) : Iv.Own (w.alloc (.cells #[] 2)) b (.slice (some ⟨k, 0, none⟩) 0 0) [] := by
  subst h
  exact (Iv.Own.new w).mono hb
theorem own_i2 (w : World) (m o : Int) {k : Nat} (h : w.heap.size = k) (b : Nat) (hb : b ≤ k) : Iv.Own (w.alloc (.cells #[.int .i64 m, .int .i64 o] 2)) b (.slice (some ⟨k, 0, none⟩) 2 2) [m, o] := by
  subst h
  exact ⟨by simp [Iv.icells], .inr ⟨w.heap.size, 2, _, rfl, hb, heap_alloc_new w _, Nat.le_refl _, by decide, rfl, rfl⟩⟩
theorem own_i3 (w : World) (m o n : Int) {k : Nat} (h : w.heap.size = k) (b : Nat) (hb : b ≤ k) : Iv.Own (w.alloc (.cells #[.int .i64 m, .int .i64 o, .int .i64 n] 2)) b (.slice (some ⟨k, 0, none⟩) 3 3) [m, o, n] := by
  subst h
  exact ⟨by simp [Iv.icells], .inr ⟨w.heap.size, 3, _, rfl, hb, heap_alloc_new w _, Nat.le_refl _, by decide, rfl, rfl⟩⟩
theorem own_apart {w : World} {base base' e e' s s' n n' : Nat} {v v' : Value} {xs xs' : List Value} (h : w.ownsRow base e s v n xs) (h' : w.ownsRow base' e' s' v' n' xs') (hne : e ≠ e') : v.ownBlock = none ∨ v.ownBlock ≠ v'.ownBlock := by
  rcases h.2 with ⟨rfl, _⟩ | ⟨g, cap, cur, rfl, _, hg, _⟩
  · exact .inl rfl
  · refine .inr (fun k => ?_)
    rcases h'.2 with ⟨rfl, _⟩ | ⟨g', cap', cur', rfl, _, hg', _⟩
    · cases k
    · cases k
      rw [hg] at hg'
      cases hg'
      exact hne rfl
set_option maxRecDepth 100000 in
set_option maxHeartbeats 4000000 in
theorem secretsOf_nil (w : World) : Calls Try.prog 35 #[.nilIface] w fun e w' => ∃ v, e = .returned v ∧ Iv.Own w' w.heap.size v [] ∧ Below w.heap.size w w' := by
  go_enter Try.func35, Try.ntmps35
  go_wp2
  go_ret
  exact ⟨_, rfl, own_i0 _ (by simp) _ (by omega), by go_grown⟩
set_option maxRecDepth 100000 in
set_option maxHeartbeats 4000000 in
theorem secretsOf_st (m o a : Int) (w : World) : Calls Try.prog 35 #[stV m o a] w fun e w' => ∃ v, e = .returned v ∧ Iv.Own w' w.heap.size v [m, o] ∧ Below w.heap.size w w' := by
  go_enter Try.func35, Try.ntmps35
  go_wp2
  go_ret
  exact ⟨_, rfl, own_i2 _ _ _ (by simp) _ (by omega), by go_grown⟩
set_option maxRecDepth 100000 in
set_option maxHeartbeats 4000000 in
theorem secretsOf_rd (m o n a : Int) (w : World) : Calls Try.prog 35 #[rdV m o n a] w fun e w' => ∃ v, e = .returned v ∧ Iv.Own w' w.heap.size v [m, o, n] ∧ Below w.heap.size w w' := by
  go_enter Try.func35, Try.ntmps35
  go_wp2
  go_ret
  exact ⟨_, rfl, own_i3 _ _ _ _ (by simp) _ (by omega), by go_grown⟩
set_option maxRecDepth 100000 in
set_option maxHeartbeats 4000000 in
theorem secretsOf_mv (m o n a : Int) (w : World) : Calls Try.prog 35 #[mvV m o n a] w fun e w' => ∃ v, e = .returned v ∧ Iv.Own w' w.heap.size v [m, o, n] ∧ Below w.heap.size w w' := by
  go_enter Try.func35, Try.ntmps35
  go_wp2
  go_ret
  exact ⟨_, rfl, own_i3 _ _ _ _ (by simp) _ (by omega), by go_grown⟩
theorem impl_secretsOf (p m o n a : Int) (w : World) : Calls Try.prog 35 #[shV p m o n a] w fun e w' => ∃ v, e = .returned v ∧ Iv.Own w' w.heap.size v (secR p m o n a) ∧ Below w.heap.size w w' := by
  unfold shV secR
  cases hr : rollOk p m o n a with
  | false => exact secretsOf_nil w
  | true =>
    rw [if_neg (show ¬ true = false by decide), if_neg (show ¬ true = false by decide)]
    by_cases h1 : p = 1
    · rw [if_pos h1, if_pos h1]
      exact secretsOf_st m o a w
    · rw [if_neg h1, if_neg h1]
      by_cases h2 : p = 2
      · rw [if_pos h2]
        exact secretsOf_rd m o n a w
      · rw [if_neg h2]
        exact secretsOf_mv m o n a w
theorem infoPt : (Try.prog.info? 40).map (fun i => (i.zero, i.size, i.bytes)) = some (some (.agg #[.int .i64 0, .int .i64 0]), 2, 16) := by kernel_rfl
theorem fresh_cells (w : World) (x y : Int) (T : TypeId) : ∀ j u, ([Value.int .i64 x, Value.int .i64 y] : List Value)[j]? = some u → (w.alloc (.cells #[.int .i64 x, .int .i64 y] T)).cell? ((⟨w.heap.size, 0, none⟩ : Addr).add j) = some u := by
  intro j u hj
  match j, hj with
  | 0, hj => simp at hj; subst hj; simp [Addr.add]
  | 1, hj => simp at hj; subst hj; simp [Addr.add]
theorem take_map (L : List Int) (i : Nat) (h : i < L.length) : (L.map keyI).take i ++ [keyI (Iv.iat L i)] = (L.map keyI).take (i + 1) := by
  rw [Iv.iat_at h, List.take_add_one, List.getElem?_map, List.getElem?_eq_getElem h]
  rfl
set_option maxRecDepth 100000 in
set_option maxHeartbeats 8000000 in
theorem impl_Served (p m o n a : Int) (w : World) : Calls Try.prog 14 #[rv p m o n a] w fun e w' => ∃ v, e = .returned v ∧ Pt.Own w' w.heap.size v (serR p m o n a) ∧ Below w.heap.size w w' := by
  obtain ⟨i0, hi0, hz0, hz1, hz2⟩ := info_parts infoPt
  have C := hidIt (fun W => impl_shapeOf p m o n a W)
  have D := hidIt (fun W => impl_secretsOf p m o n a W)
  have hlen := sec_length p m o n a
  have HA : Hid (∀ i, i < (secR p m o n a).length → secB (Iv.iat (secR p m o n a) i) = true) := hidIt (fun i hi => sec_all (by rw [Iv.iat_at hi]; exact List.getElem_mem hi))
  have HS : Hid (serR p m o n a = (secR p m o n a).map keyI) := hidIt rfl
  generalize serR p m o n a = R at HS ⊢
  generalize secR p m o n a = L at HA HS D hlen
  generalize shV p m o n a = s at C D
  have HB := hidIt (show Below w.heap.size w (((w.alloc (rbox p m o n a 25)).alloc (.cells #[] 40)).alloc (rbox p m o n a 25)) by go_grown)
  have HO : Hid (Pt.Own (((w.alloc (rbox p m o n a 25)).alloc (.cells #[] 40)).alloc (rbox p m o n a 25)) w.heap.size (.slice (some ⟨w.heap.size + 1, 0, none⟩) 0 0) []) := by
    have h := ((Pt.Own.new (w.alloc (rbox p m o n a 25))).alloc (rbox p m o n a 25)).mono (b' := w.heap.size) (by simp)
    exact hidIt (by simpa using h)
  generalize hn : L.length = k at *
  have HN := hidIt hn
  clear hn
  go_enter Try.func14, Try.ntmps14
  go_wp2_with (fail)
  refine (C.out _).mono ?_
  rintro e w1 ⟨rfl, rfl⟩
  go_wp2_with (fail)
  refine (D.out _).mono ?_
  rintro e w2 ⟨v2, rfl, hR, k2⟩
  replace hR := hR.mono (b' := w.heap.size) (by simp; omega)
  obtain ⟨b, cap, rfl, hcap, _⟩ := hR.form
  rw [HN.out] at hR hcap ⊢
  replace HB := hidIt (HB.out.trans (k2.mono HB.out.size))
  replace HO := hidIt (HO.out.kept k2)
  have HR := hidIt hR
  clear hR k2 C D
  go_wp2_with (fail)
  go_loopw [3, 13] (fun v y wx => ∃ i : Nat, y = .int .i64 i ∧ i ≤ k ∧ Pt.Own wx w.heap.size v (R.take i) ∧ Iv.Own wx w.heap.size (.slice b k cap) L ∧ Below w.heap.size w wx) (fun _ y _ => (k - intOf y).toNat)
  case atStart => exact ⟨0, rfl, by omega, by simpa using HO.out, HR.out, HB.out⟩
  case round =>
    obtain ⟨i, rfl, hi, hO, hR, hB⟩ := hrel
    replace HO := hidIt hO
    replace HR := hidIt hR
    replace HB := hidIt hB
    clear hO hR hB
    by_cases hin : i < k
    · have hin' : (i : Int) < (k : Int) := by omega
      obtain ⟨b', cap', eb, _, _, hRd, _⟩ := HR.out.form
      have eb1 := (Value.slice.inj eb).1
      subst eb1
      clear eb
      obtain ⟨b1, o1, rfl, c0⟩ := hRd.cell i (by rw [HN.out]; exact hin)
      clear hRd
      have CK := hidIt (fun W => impl_KeyOf_sec _ (HA.out i hin) W)
      have HT := hidIt (take_map L i (by rw [HN.out]; exact hin))
      generalize Iv.iat L i = x at c0 CK HT
      generalize keyI x = q at CK HT
      obtain ⟨qx, qy⟩ := q
      go_wp2_with (fail)
      refine (CK.out _).mono ?_
      rintro e w3 ⟨rfl, k3⟩
      have HB3 := hidIt ((HB.out.trans (k3.mono HB.out.size)).alloc (by have := HB.out.size; have := k3.size; omega) (.cells #[.int .i64 qx, .int .i64 qy] 40))
      have HR3 := hidIt ((HR.out.kept k3).alloc (.cells #[.int .i64 qx, .int .i64 qy] 40))
      have HO3 := hidIt ((HO.out.kept k3).alloc (.cells #[.int .i64 qx, .int .i64 qy] 40))
      clear k3 HB HR HO
      have hlen3 : (R.take i).length ≤ 3 := by rw [List.length_take]; omega
      go_wp2_with (first | (at_builtin; refine wpList_append_own _ rfl _ _ 36 rfl w.heap.size 40 i0 (.agg #[.int .i64 0, .int .i64 0]) 2 16 Try.underlying36 hi0 hz0 hz1 hz2 rfl (by decide) _ _ _ rfl (World.ownsRow.alloc HO3.out (.cells #[.int .i64 qx, .int .i64 qy] 40)) ⟨w3.heap.size + 1, 0, none⟩ 1 1 [.int .i64 qx, .int .i64 qy] rfl rfl ?c2 (Pt.lcells_one [(qx, qy)]) ?c3 ?c4 ?c5 ?_))
      case c2 =>
        have h := fresh_cells (w3.alloc (.cells #[.int .i64 qx, .int .i64 qy] 40)) qx qy 40
        simpa using h
      case c3 => unfold maxLen; omega
      case c4 => omega
      case c5 => have := HB3.out.size; simp at this; simp; omega
      intro v' w9 hown hgrow _
      have HO9 := hidIt (Pt.Own.more (L := R.take i) (x := (qx, qy)) (by rw [List.length_take]; exact hown))
      have kk := Pt.grown_below (Pt.Own.alloc HO3.out (.cells #[.int .i64 qx, .int .i64 qy] 40)) hgrow (B := w.heap.size) (Nat.le_refl _) (by have := HB3.out.size; simp at this; simp; omega)
      have HB9 := hidIt ((HB3.out.alloc (by have := HB3.out.size; simp at this; simp; omega) (.cells #[.int .i64 qx, .int .i64 qy] 40)).trans kk)
      have HR9 : Hid (Iv.Own w9 w.heap.size (.slice (some ⟨b1, o1, none⟩) k cap) L) := hidIt (World.ownsRow.kept (HR3.out.alloc (.cells #[.int .i64 qx, .int .i64 qy] 40)) hgrow (own_apart (HR3.out.alloc (.cells #[.int .i64 qx, .int .i64 qy] 40)) (Pt.Own.alloc HO3.out (.cells #[.int .i64 qx, .int .i64 qy] 40)) (by decide)))
      clear hown hgrow kk
      go_wp2_with (fail)
      refine ⟨⟨i + 1, by simp, by omega, ?_, HR9.out, HB9.out⟩, by simp [intOf]; omega⟩
      rw [HS.out, ← HT.out, ← HS.out]
      exact HO9.out
    · have hin' : ¬ (i : Int) < (k : Int) := by omega
      go_wp2_with (fail)
      go_ret
      refine ⟨_, rfl, ?_, HB.out⟩
      have h := HO.out
      rw [List.take_of_length_le (by rw [HS.out, List.length_map, HN.out]; omega)] at h
      exact h
end Go.Proofs.Yteclbfgkeoiclaa.Ro
