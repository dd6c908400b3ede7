/-
  The program's fitting, longest, RuleFor and May.
-/
import Derived.Test.YtbdibkcamomgpaaRuI
import Derived.Test.YtbdibkcamomgpaaRuF
import Derived.Deep.RegionHeld3
namespace Go.Proofs.Ytbdibkcamomgpaa.Ru
open Go.ChangeShapes Go.WideShapes Go.ChangeAt Go.RowKit
open Go.Proofs.Ytbdibkcamomgpaa.Rc (BelowBy BelowBy.one wp_region_below calls_below calls_same)
set_option linter.unusedVariables false
set_option maxHeartbeats 1000000 in
set_option maxRecDepth 100000 in
theorem lib_HasPrefix (k x : ByteArray) (w : World) (hk : k.size ≤ 9223372036854775807) (hx : x.size ≤ 9223372036854775807) :
    Calls Try.prog 46 #[.string k, .string x] w fun e w' => e = .returned (.bool (fit (bs x) (bs k))) ∧ w' = w := by
  have H : Calls Try.prog 45 #[.string k, .string x] w fun e w' => e = .returned (.bool (fit (bs x) (bs k))) ∧ w' = w := by
    by_cases hl : x.size ≤ k.size
    · have h1 : (x.size : Int) ≤ (k.size : Int) := by omega
      rw [fit_text]
      go_enter Try.func45, Try.ntmps45
      go_wp2
      go_ret
      exact ⟨rfl, rfl⟩
    · have h1 : ¬ (x.size : Int) ≤ (k.size : Int) := by omega
      rw [fit_long hl]
      go_enter Try.func45, Try.ntmps45
      go_wp2
      go_ret
      exact ⟨rfl, rfl⟩
  go_enter Try.func46, Try.ntmps46
  go_wp2_with (go_at_call 45; refine H.mono ?_; rintro e w' ⟨rfl, rfl⟩)
  go_ret
  exact ⟨rfl, rfl⟩
/-- Those that fit. -/
def fits (L : List Rw) (k : Bytes) : List Rw := L.filter (fun x => fit (bs x.1) k)
theorem fits_take {L : List Rw} {k : Bytes} {i : Nat} (h : i < L.length) : fits (L.take (i + 1)) k = fits (L.take i) k ++ (if fit (bs (rat L i).1) k = true then [rat L i] else []) := by
  rw [take_rat h]
  unfold fits
  rw [List.filter_append]
  congr 1
  rw [List.filter_cons, List.filter_nil]
theorem fits_len (L : List Rw) (k : Bytes) : (fits L k).length ≤ L.length := List.length_filter_le _ _
theorem freshR {w : World} {k : Nat} (h : w.heap.size = k) (x : Rw) (T : TypeId) : ∀ j u, (rcells [x])[j]? = some u → (w.alloc (.cells (rc x) T)).cell? ((⟨k, 0, none⟩ : Addr).add j) = some u := by subst h; exact fresh w x T
set_option maxRecDepth 100000 in
set_option maxHeartbeats 8000000 in
theorem impl_fitting (a : Option Addr) (cap : Nat) (L : List Rw) (k : ByteArray) (w : World) (h : Rd w a L) (hl : L.length ≤ 12) (hs : ∀ i, i < L.length → (rat L i).1.size ≤ 9223372036854775807) (hk : k.size ≤ 9223372036854775807) :
    Calls Try.prog 44 #[.slice a L.length cap, .string k] w fun e w' => ∃ v, e = .returned v ∧ Own w' w.heap.size v (fits L (bs k)) ∧ Below w.heap.size w w' := by
  obtain ⟨i0, hi0, hz0, hz1, hz2⟩ := info_parts infoRw
  have HR0 := hidIt h
  have HS := hidIt hs
  have HO0 := hidIt (Own.new w)
  have HB0 := hidIt ((Below.refl w.heap.size w).alloc (Nat.le_refl _) (.cells #[] 52))
  have HKT := hidIt (fun i hi => fits_take (L := L) (k := bs k) (i := i) hi)
  have HKE : Hid (fits (L.take L.length) (bs k) = fits L (bs k)) := hidIt (by rw [List.take_length])
  have HKL := hidIt (fun i => show (fits (L.take i) (bs k)).length ≤ 12 from Nat.le_trans (fits_len _ _) (Nat.le_trans (by rw [List.length_take]; omega) hl))
  have HC := hidIt (fun x W (hx : x.size ≤ 9223372036854775807) => lib_HasPrefix k x W hk hx)
  clear h hs
  generalize fits L (bs k) = K at HKE ⊢
  generalize hn : L.length = m at *
  have HN := hidIt hn
  clear hn
  go_enter Try.func44, Try.ntmps44
  go_wp2_with (fail)
  go_loopw [5, 11] (fun z y wx => ∃ i : Nat, y = .int .i64 i ∧ i ≤ m ∧ Hid (Own wx w.heap.size z (fits (L.take i) (bs k))) ∧ Hid (Below w.heap.size w wx)) (fun _ y _ => (m - intOf y).toNat)
  case atStart => exact ⟨0, rfl, by omega, HO0, HB0⟩
  case round =>
    obtain ⟨i, rfl, hi, HO, HB⟩ := hrel
    clear HO0 HB0
    by_cases hin : i < m
    · have hin' : (i : Int) < (m : Int) := by omega
      obtain ⟨b, off, ea, c0, c1, c2⟩ := (HR0.out.kept HB.out).all (i := i) (by rw [HN.out]; exact hin)
      subst ea
      have HKi := hidIt (HKT.out i hin)
      have hln := HKL.out i
      have hsz := HS.out i hin
      generalize rat L i = x at c0 c1 c2 HKi hsz
      obtain ⟨xk, xr, xw⟩ := x
      simp only at c0 c1 c2 HKi hsz
      have HCi := hidIt (fun W => HC.out xk W hsz)
      generalize fit (bs xk) (bs k) = ft at HCi HKi
      have HBz := hidIt (HB.out.alloc HB.out.size (.cells #[.string xk, .bool xr, .bool xw] 52))
      have HOz := hidIt (HO.out.alloc (.cells #[.string xk, .bool xr, .bool xw] 52))
      cases ft with
      | false =>
        go_wp2_with (go_at_call 46; refine (HCi.out _).mono ?_; rintro e w' ⟨rfl, rfl⟩)
        exact ⟨⟨i + 1, by simp, by omega, hidIt (by rw [HKi.out, if_neg (by decide), List.append_nil]; exact HOz.out), HBz⟩, by simp [intOf]; omega⟩
      | true =>
        generalize hkl : (fits (L.take i) (bs k)).length = kl at *
        have HKLn := hidIt hkl
        clear hkl
        have HOw : Hid ((wr.alloc (.cells #[.string xk, .bool xr, .bool xw] 52)).ownsRow w.heap.size 52 3 u5 kl (rcells (fits (L.take i) (bs k)))) := hidIt (by have := HOz.out; unfold Own at this; rw [HKLn.out] at this; exact this)
        go_wp2_with (first
          | (go_at_call 46; refine (HCi.out _).mono ?_; rintro e w' ⟨rfl, rfl⟩)
          | (at_builtin; refine wpList_append_own _ rfl _ _ 29 rfl w.heap.size 52 i0 (.agg #[.string ByteArray.empty, .bool false, .bool false]) 3 24 Try.underlying29 hi0 hz0 hz1 hz2 rfl (by decide) _ _ _ rfl (World.ownsRow.alloc HOw.out (.cells #[.string xk, .bool xr, .bool xw] 52)) ⟨wr.heap.size + 1, 0, none⟩ 1 1 [.string xk, .bool xr, .bool xw] rfl rfl (freshR (by simp) (xk, xr, xw) 52) (rcells_one [(xk, xr, xw)]) ?c3 ?c4 ?c5 ?_))
        case c3 => unfold maxLen; omega
        case c4 => omega
        case c5 => have := HBz.out.size; simp at this ⊢; omega
        intro v' w9 hown hgrow _
        have HO9 := hidIt (Own.more (L := fits (L.take i) (bs k)) (M := [(xk, xr, xw)]) (by rw [HKLn.out]; exact hown))
        have kk := grown_below (Own.alloc HOz.out (.cells #[.string xk, .bool xr, .bool xw] 52)) hgrow (Bb := w.heap.size) (Nat.le_refl _) (by have := HBz.out.size; simp at this ⊢; omega)
        have HB9 := hidIt ((HBz.out.alloc HBz.out.size (.cells #[.string xk, .bool xr, .bool xw] 52)).trans kk)
        clear hown hgrow kk
        go_wp2_with (fail)
        exact ⟨⟨i + 1, by simp, by omega, hidIt (by rw [HKi.out, if_pos trivial]; exact HO9.out), HB9⟩, by simp [intOf]; omega⟩
    · have hin' : ¬ (i : Int) < (m : Int) := by omega
      have HI : Hid (i = m) := hidIt (by omega)
      have HE : Hid (Own wr w.heap.size u5 K) := hidIt (by have := HO.out; rw [HI.out, HKE.out] at this; exact this)
      obtain ⟨z1, z2, ez, _⟩ := HE.out.form
      subst ez
      go_wp2_with (fail)
      go_ret
      exact ⟨_, rfl, HE.out, HB.out⟩
/-- The place of the longest of the first n + 1, the first of its length. -/
def lng (F : List Rw) : Nat → Nat
  | 0 => 0
  | n + 1 => if (rat F (lng F n)).1.size < (rat F (n + 1)).1.size then n + 1 else lng F n
theorem lng_le (F : List Rw) : ∀ n, lng F n ≤ n
  | 0 => Nat.le_refl _
  | n + 1 => by
    have := lng_le F n
    unfold lng
    split <;> omega
theorem lng_most (F : List Rw) : ∀ n i, i ≤ n → (rat F i).1.size ≤ (rat F (lng F n)).1.size
  | 0, i, h => by
    obtain rfl : i = 0 := by omega
    exact Nat.le_refl _
  | n + 1, i, h => by
    unfold lng
    rcases Nat.eq_or_lt_of_le h with e | e
    · subst e
      split <;> omega
    · have := lng_most F n i (by omega)
      split <;> omega
theorem rat_in {F : List Rw} {j : Nat} (h : j < F.length) : rat F j ∈ F := rat_mem h
/-- What is the longest of those that fit. -/
theorem for_lng {L : List Rw} {k : Bytes} (h : okR L = true) (hn : (fits L k).length ≠ 0) : forR L k = some (rat (fits L k) (lng (fits L k) ((fits L k).length - 1))) := by
  have hj : lng (fits L k) ((fits L k).length - 1) < (fits L k).length := by have := lng_le (fits L k) ((fits L k).length - 1); omega
  have hm := rat_mem hj
  obtain ⟨h1, h2⟩ := List.mem_filter.1 hm
  obtain ⟨i, hi, e⟩ := List.mem_iff_getElem.1 h1
  rw [← rat_at hi] at e
  have hlg := lng_most (fits L k) ((fits L k).length - 1)
  rw [← e] at hlg h2 ⊢
  refine for_is h hi h2 (fun j hj hf => ?_)
  have hin : rat L j ∈ fits L k := List.mem_filter.2 ⟨rat_mem hj, hf⟩
  obtain ⟨q, hq, e'⟩ := List.mem_iff_getElem.1 hin
  have := hlg q (by omega)
  rw [rat_at hq, e'] at this
  rw [bs_length, bs_length]
  exact this
theorem for_nought {L : List Rw} {k : Bytes} (hn : (fits L k).length = 0) : forR L k = none := by
  refine for_none (fun j hj => ?_)
  cases e : fit (kat L j) k with
  | false => rfl
  | true =>
    have hin : rat L j ∈ fits L k := List.mem_filter.2 ⟨rat_mem hj, e⟩
    rw [List.eq_nil_of_length_eq_zero hn] at hin
    cases hin
set_option maxRecDepth 100000 in
set_option maxHeartbeats 8000000 in
theorem impl_longest (a : Option Addr) (cap : Nat) (F : List Rw) (w : World) (h : Rd w a F) (hl : F.length ≤ 12) (hc : F.length ≤ cap) (hc2 : cap ≤ 9223372036854775807) (hs : ∀ i, i < F.length → (rat F i).1.size ≤ 9223372036854775807) :
    Calls Try.prog 43 #[.slice a F.length cap] w fun e w' => e = .returned (.tuple #[rv (if F.length = 0 then zr else rat F (lng F (F.length - 1))), .bool (decide (F.length ≠ 0))]) ∧ Below w.heap.size w w' := by
  have HB0 := hidIt ((Below.refl w.heap.size w).alloc (Nat.le_refl _) (.cells #[.string ⟨#[]⟩, .bool false, .bool false] 52))
  have BX0 := hidIt (Bo.Box.new w #[.string ⟨#[]⟩, .bool false, .bool false] 52)
  by_cases h0 : F.length = 0
  · rw [if_pos h0, decide_eq_false (by simpa using h0)]
    rw [h0]
    go_enter Try.func43, Try.ntmps43
    go_wp2_with (fail)
    refine bodyPost_ret (v := .tuple #[rv (⟨#[]⟩, false, false), .bool false]) (by simp [results, Try.results43, go_sem]) rfl ⟨rfl, HB0.out⟩
  · rw [if_neg h0, decide_eq_true h0]
    have HR := hidIt h
    have HS := hidIt hs
    have HL1 : Hid (lng F 0 = 0) := hidIt rfl
    have HL2 : Hid (∀ n, lng F (n + 1) = if (rat F (lng F n)).1.size < (rat F (n + 1)).1.size then n + 1 else lng F n) := hidIt (fun n => rfl)
    have HL3 := hidIt (lng_le F)
    clear h hs
    generalize lng F = G at HL1 HL2 HL3 ⊢
    obtain ⟨m, hm⟩ : ∃ m, F.length = m + 1 := ⟨F.length - 1, by omega⟩
    have HN := hidIt hm
    rw [hm] at hl hc ⊢
    clear hm h0
    have e0 : m + 1 - 1 = m := by omega
    rw [e0]
    have hnz : (((m : Int) + 1) == 0) = false := by simp; omega
    have hm1 : (1 : Int) ≤ (m : Int) + 1 := by omega
    obtain ⟨b, off, ea, c0, c1, c2⟩ := ((HR.out.kept HB0.out)).all (i := 0) (by rw [HN.out]; omega)
    subst ea
    have HRb := HR
    simp only [Nat.zero_mul, Nat.add_zero] at c0 c1 c2
    obtain ⟨x, hx⟩ : ∃ x, rat F 0 = x := ⟨_, rfl⟩
    rw [hx] at c0 c1 c2
    have HX := hidIt hx
    clear hx
    obtain ⟨xk, xr, xw⟩ := x
    simp only at c0 c1 c2
    have HB1 := hidIt (HB0.out.alloc HB0.out.size (.cells #[.string xk, .bool xr, .bool xw] 52))
    have BX1 := hidIt (BX0.out.alloc (.cells #[.string xk, .bool xr, .bool xw] 52))
    have BY1 := hidIt (Bo.Box.newAt (w := w.alloc (.cells #[.string ⟨#[]⟩, .bool false, .bool false] 52)) (c := #[.string xk, .bool xr, .bool xw]) (T := 52) (k := w.heap.size + 1) (by simp))
    go_enter Try.func43, Try.ntmps43
    go_wp2_with (fail)
    case inl hcp =>
      go_loopw [17] (fun y wx => ∃ i : Nat, y = .int .i64 i ∧ i ≤ m ∧ Hid (Bo.Box wx (w.heap.size + 1) (rc (rat F (G i)))) ∧ Hid (Bo.Box wx w.heap.size #[.string ⟨#[]⟩, .bool false, .bool false]) ∧ Hid (Below w.heap.size w wx)) (fun y _ => (m - intOf y).toNat)
      case atStart => exact ⟨0, rfl, by omega, hidIt (by rw [HL1.out, HX.out]; exact BY1.out), BX1, HB1⟩
      case round =>
        obtain ⟨i, rfl, hi, BY, BX, HB⟩ := hrel
        clear BY1 BX1 HB1 BX0 HB0 c0 c1 c2
        have HGi := HL3.out i
        obtain ⟨z, hz⟩ : ∃ z, rat F (G i) = z := ⟨_, rfl⟩
        rw [hz] at BY
        have hzs : z.1.size ≤ 9223372036854775807 := by rw [← hz]; exact HS.out _ (by rw [HN.out]; omega)
        have HZ := hidIt hz
        clear hz
        obtain ⟨zk, zr', zw⟩ := z
        simp only [rc] at BY hzs
        by_cases hin : i < m
        · exact absurd hin (by omega)
        · have hin' : ¬ (i : Int) < (m : Int) := by omega
          have HI : Hid (i = m) := hidIt (by omega)
          have HE : Hid (rat F (G m) = (zk, zr', zw)) := hidIt (by rw [← HI.out]; exact HZ.out)
          have f0 := BY.out.c 0 rfl
          have f1 := BY.out.c 1 rfl
          have f2 := BY.out.c 2 rfl
          have g0 := BX.out.fr 0
          have g1 := BX.out.fr 1
          have g2 := BX.out.fr 2
          have k0 := BX.out.c 0 rfl
          have k1 := BX.out.c 1 rfl
          have k2 := BX.out.c 2 rfl
          have B3 := hidIt (((BX.out.put (c' := #[.string zk, .bool false, .bool false]) 0 (.string zk) (by simp) rfl).put (c' := #[.string zk, .bool zr', .bool false]) 1 (.bool zr') (by simp) rfl).put (c' := #[.string zk, .bool zr', .bool zw]) 2 (.bool zw) (by simp) rfl)
          have K3 := hidIt (((HB.out.setCell (p := ⟨w.heap.size, 0, none⟩) (Nat.le_refl _) (.string zk)).setCell (p := ⟨w.heap.size, 1, none⟩) (Nat.le_refl _) (.bool zr')).setCell (p := ⟨w.heap.size, 2, none⟩) (Nat.le_refl _) (.bool zw))
          go_wp2_with (fail)
          generalize ((wr.setCell ⟨w.heap.size, 0, none⟩ (.string zk)).setCell ⟨w.heap.size, 1, none⟩ (.bool zr')).setCell ⟨w.heap.size, 2, none⟩ (.bool zw) = w3 at B3 K3 ⊢
          clear f0 f1 f2 g0 g1 g2 k0 k1 k2
          have f0 := B3.out.c 0 rfl
          have f1 := B3.out.c 1 rfl
          have f2 := B3.out.c 2 rfl
          refine bodyPost_ret (v := .tuple #[rv (zk, zr', zw), .bool true]) (by simp [results, Try.results43, go_sem, f0, f1, f2]) rfl ⟨by rw [HE.out], K3.out⟩
    case inr hcp =>
      go_loopw [17] (fun y wx => ∃ i : Nat, y = .int .i64 i ∧ i ≤ m ∧ Hid (Bo.Box wx (w.heap.size + 1) (rc (rat F (G i)))) ∧ Hid (Bo.Box wx w.heap.size #[.string ⟨#[]⟩, .bool false, .bool false]) ∧ Hid (Below w.heap.size w wx)) (fun y _ => (m - intOf y).toNat)
      case atStart => exact ⟨0, rfl, by omega, hidIt (by rw [HL1.out, HX.out]; exact BY1.out), BX1, HB1⟩
      case round =>
        obtain ⟨i, rfl, hi, BY, BX, HB⟩ := hrel
        clear BY1 BX1 HB1 BX0 HB0 c0 c1 c2
        have HGi := HL3.out i
        obtain ⟨z, hz⟩ : ∃ z, rat F (G i) = z := ⟨_, rfl⟩
        rw [hz] at BY
        have hzs : z.1.size ≤ 9223372036854775807 := by rw [← hz]; exact HS.out _ (by rw [HN.out]; omega)
        have HZ := hidIt hz
        clear hz
        obtain ⟨zk, zr', zw⟩ := z
        simp only [rc] at BY hzs
        by_cases hin : i < m
        · have hin' : (i : Int) < (m : Int) := by omega
          obtain ⟨b', off', ea, d0, d1, d2⟩ := (HR.out.kept HB.out).all (i := i + 1) (by rw [HN.out]; omega)
          cases ea
          rw [show off + (i + 1) * 3 = off + 3 + i * 3 by omega] at d0 d1 d2
          have hys := HS.out (i + 1) (by rw [HN.out]; omega)
          obtain ⟨y, hy⟩ : ∃ y, rat F (i + 1) = y := ⟨_, rfl⟩
          rw [hy] at d0 d1 d2 hys
          have HY := hidIt hy
          clear hy
          obtain ⟨yk, yr, yw⟩ := y
          simp only at d0 d1 d2 hys
          have HBz := hidIt (HB.out.alloc HB.out.size (.cells #[.string yk, .bool yr, .bool yw] 52))
          have BXz := hidIt (BX.out.alloc (.cells #[.string yk, .bool yr, .bool yw] 52))
          have BYz := hidIt (BY.out.alloc (.cells #[.string yk, .bool yr, .bool yw] 52))
          have f0 := BYz.out.c 0 rfl
          have f1 := BYz.out.c 1 rfl
          have f2 := BYz.out.c 2 rfl
          have g0 := BYz.out.fr 0
          have g1 := BYz.out.fr 1
          have g2 := BYz.out.fr 2
          by_cases hlt : zk.size < yk.size
          · have hlt' : (zk.size : Int) < (yk.size : Int) := by omega
            have HG : Hid (rat F (G (i + 1)) = (yk, yr, yw)) := hidIt (by rw [HL2.out i, HZ.out, HY.out, if_pos hlt, HY.out])
            have BY3 := hidIt (((BYz.out.put (c' := #[.string yk, .bool zr', .bool zw]) 0 (.string yk) (by simp) rfl).put (c' := #[.string yk, .bool yr, .bool zw]) 1 (.bool yr) (by simp) rfl).put (c' := #[.string yk, .bool yr, .bool yw]) 2 (.bool yw) (by simp) rfl)
            have BX3 := hidIt (((BXz.out.other (d := w.heap.size + 1) (i := 0) (v := .string yk) (by omega)).other (d := w.heap.size + 1) (i := 1) (v := .bool yr) (by omega)).other (d := w.heap.size + 1) (i := 2) (v := .bool yw) (by omega))
            have HB3 := hidIt (((HBz.out.setCell (p := ⟨w.heap.size + 1, 0, none⟩) (Nat.le_succ _) (.string yk)).setCell (p := ⟨w.heap.size + 1, 1, none⟩) (Nat.le_succ _) (.bool yr)).setCell (p := ⟨w.heap.size + 1, 2, none⟩) (Nat.le_succ _) (.bool yw))
            go_wp2_with (fail)
            exact ⟨⟨i + 1, by simp, by omega, hidIt (by rw [HG.out]; exact BY3.out), BX3, HB3⟩, by simp [intOf]; omega⟩
          · have hlt' : ¬ (zk.size : Int) < (yk.size : Int) := by omega
            have HG : Hid (rat F (G (i + 1)) = (zk, zr', zw)) := hidIt (by rw [HL2.out i, HZ.out, HY.out, if_neg hlt, HZ.out])
            go_wp2_with (fail)
            exact ⟨⟨i + 1, by simp, by omega, hidIt (by rw [HG.out]; exact BYz.out), BXz, HBz⟩, by simp [intOf]; omega⟩
        · have hin' : ¬ (i : Int) < (m : Int) := by omega
          have HI : Hid (i = m) := hidIt (by omega)
          have HE : Hid (rat F (G m) = (zk, zr', zw)) := hidIt (by rw [← HI.out]; exact HZ.out)
          have f0 := BY.out.c 0 rfl
          have f1 := BY.out.c 1 rfl
          have f2 := BY.out.c 2 rfl
          have g0 := BX.out.fr 0
          have g1 := BX.out.fr 1
          have g2 := BX.out.fr 2
          have k0 := BX.out.c 0 rfl
          have k1 := BX.out.c 1 rfl
          have k2 := BX.out.c 2 rfl
          have B3 := hidIt (((BX.out.put (c' := #[.string zk, .bool false, .bool false]) 0 (.string zk) (by simp) rfl).put (c' := #[.string zk, .bool zr', .bool false]) 1 (.bool zr') (by simp) rfl).put (c' := #[.string zk, .bool zr', .bool zw]) 2 (.bool zw) (by simp) rfl)
          have K3 := hidIt (((HB.out.setCell (p := ⟨w.heap.size, 0, none⟩) (Nat.le_refl _) (.string zk)).setCell (p := ⟨w.heap.size, 1, none⟩) (Nat.le_refl _) (.bool zr')).setCell (p := ⟨w.heap.size, 2, none⟩) (Nat.le_refl _) (.bool zw))
          go_wp2_with (fail)
          generalize ((wr.setCell ⟨w.heap.size, 0, none⟩ (.string zk)).setCell ⟨w.heap.size, 1, none⟩ (.bool zr')).setCell ⟨w.heap.size, 2, none⟩ (.bool zw) = w3 at B3 K3 ⊢
          clear f0 f1 f2 g0 g1 g2 k0 k1 k2
          have f0 := B3.out.c 0 rfl
          have f1 := B3.out.c 1 rfl
          have f2 := B3.out.c 2 rfl
          refine bodyPost_ret (v := .tuple #[rv (zk, zr', zw), .bool true]) (by simp [results, Try.results43, go_sem, f0, f1, f2]) rfl ⟨by rw [HE.out], K3.out⟩
set_option maxRecDepth 100000 in
set_option maxHeartbeats 8000000 in
theorem impl_RuleFor (a : Option Addr) (cap : Nat) (L : List Rw) (k : ByteArray) (w : World) (h : Rd w a L) (hl : L.length ≤ 9223372036854775807) (hs : ∀ i, i < L.length → (rat L i).1.size ≤ 9223372036854775807) (hk : k.size ≤ 9223372036854775807) :
    Calls Try.prog 41 #[.slice a L.length cap, .string k] w fun e w' => e = .returned (.tuple #[rv ((forR L (bs k)).getD zr), .bool (forR L (bs k)).isSome]) ∧ Below w.heap.size w w' := by
  have HR := hidIt h
  have CO := hidIt (fun W (r : Rd W a L) => impl_RulesOk a cap L W r hl hs)
  have HB := hidIt ((Below.refl w.heap.size w).alloc (Nat.le_refl _) (.cells #[.string ⟨#[]⟩, .bool false, .bool false] 52))
  have BX := hidIt (Bo.Box.new w #[.string ⟨#[]⟩, .bool false, .bool false] 52)
  cases ho : okR L with
  | false =>
    rw [ho] at CO
    rw [for_bad ho]
    clear h hs ho
    generalize L.length = m at *
    go_enter Try.func41, Try.ntmps41
    go_wp2_with (fail)
    refine (CO.out _ (HR.out.kept HB.out)).mono ?_
    rintro e w2 ⟨rfl, kk⟩
    replace HB := hidIt (HB.out.trans (kk.mono HB.out.size))
    replace BX := hidIt (BX.out.kept kk)
    clear kk
    have f0 := BX.out.c 0 rfl
    have f1 := BX.out.c 1 rfl
    have f2 := BX.out.c 2 rfl
    have g0 := BX.out.fr 0
    have g1 := BX.out.fr 1
    have g2 := BX.out.fr 2
    have B3 := hidIt (((BX.out.put 0 (.string ⟨#[]⟩) (by simp) rfl).put 1 (.bool false) (by simp) rfl).put 2 (.bool false) (by simp) rfl)
    have K3 := hidIt (((HB.out.setCell (p := ⟨w.heap.size, 0, none⟩) (Nat.le_refl _) (.string ⟨#[]⟩)).setCell (p := ⟨w.heap.size, 1, none⟩) (Nat.le_refl _) (.bool false)).setCell (p := ⟨w.heap.size, 2, none⟩) (Nat.le_refl _) (.bool false))
    go_wp2_with (fail)
    generalize ((w2.setCell ⟨w.heap.size, 0, none⟩ (.string ⟨#[]⟩)).setCell ⟨w.heap.size, 1, none⟩ (.bool false)).setCell ⟨w.heap.size, 2, none⟩ (.bool false) = w3 at B3 K3 ⊢
    clear f0 f1 f2 g0 g1 g2
    have f0 := B3.out.c 0 rfl
    have f1 := B3.out.c 1 rfl
    have f2 := B3.out.c 2 rfl
    refine bodyPost_ret (v := .tuple #[rv (⟨#[]⟩, false, false), .bool false]) (by simp [results, Try.results41, go_sem, f0, f1, f2]) rfl ⟨rfl, K3.out⟩
  | true =>
    rw [ho] at CO
    have h12 := okR_len ho
    have CF := hidIt (fun W (r : Rd W a L) => impl_fitting a cap L k W r h12 hs hk)
    have hf1 := fits_len L (bs k)
    have HFs : Hid (∀ i, i < (fits L (bs k)).length → (rat (fits L (bs k)) i).1.size ≤ 9223372036854775807) := hidIt (fun i hi => by
      obtain ⟨h1, _⟩ := List.mem_filter.1 (show rat (fits L (bs k)) i ∈ L.filter (fun x => fit (bs x.1) (bs k)) from rat_mem hi)
      obtain ⟨j, hj, e⟩ := List.mem_iff_getElem.1 h1
      rw [← rat_at hj] at e
      rw [← e]
      exact hs j hj)
    have HE : Hid (rv ((forR L (bs k)).getD zr) = rv (if (fits L (bs k)).length = 0 then zr else rat (fits L (bs k)) (lng (fits L (bs k)) ((fits L (bs k)).length - 1))) ∧ (forR L (bs k)).isSome = decide ((fits L (bs k)).length ≠ 0)) := hidIt (by
      by_cases h0 : (fits L (bs k)).length = 0
      · rw [for_nought h0, if_pos h0, decide_eq_false (by simpa using h0)]
        exact ⟨rfl, rfl⟩
      · rw [for_lng ho h0, if_neg h0, decide_eq_true h0]
        exact ⟨rfl, rfl⟩)
    rw [HE.out.1, HE.out.2]
    clear h hs ho HE
    generalize fits L (bs k) = F at CF HFs hf1 ⊢
    have CL := hidIt (fun b c W (r : Rd W b F) hc1 hc2 => impl_longest b c F W r (by omega) hc1 hc2 HFs.out)
    generalize (if F.length = 0 then zr else rat F (lng F (F.length - 1))) = x at CL ⊢
    generalize decide (F.length ≠ 0) = is at CL ⊢
    generalize hF : F.length = f at *
    have HF := hidIt hF
    clear hF
    obtain ⟨x0, x1, x2⟩ := x
    simp only [rv] at CL ⊢
    generalize L.length = m at *
    go_enter Try.func41, Try.ntmps41
    go_wp2_with (fail)
    refine (CO.out _ (HR.out.kept HB.out)).mono ?_
    rintro e w2 ⟨rfl, kk⟩
    replace HB := hidIt (HB.out.trans (kk.mono HB.out.size))
    replace BX := hidIt (BX.out.kept kk)
    clear kk
    go_wp2_with (fail)
    refine (CF.out _ (HR.out.kept HB.out)).mono ?_
    rintro e w3 ⟨v, rfl, hO, kk⟩
    replace HB := hidIt (HB.out.trans (kk.mono HB.out.size))
    replace BX := hidIt (BX.out.kept kk)
    clear kk
    obtain ⟨b1, c1, ev, hc1, hc2, hR⟩ := hO.formN HF.out
    subst ev
    have HRF := hidIt hR
    have HC2 := hidIt hc2
    clear hO hR hc2
    go_wp2_with (fail)
    refine (CL.out b1 c1 _ HRF.out hc1 HC2.out).mono ?_
    rintro e w4 ⟨rfl, kk⟩
    replace HB := hidIt (HB.out.trans (kk.mono HB.out.size))
    replace BX := hidIt (BX.out.kept kk)
    clear kk
    have f0 := BX.out.c 0 rfl
    have f1 := BX.out.c 1 rfl
    have f2 := BX.out.c 2 rfl
    have g0 := BX.out.fr 0
    have g1 := BX.out.fr 1
    have g2 := BX.out.fr 2
    have B3 := hidIt (((BX.out.put (c' := #[.string x0, .bool false, .bool false]) 0 (.string x0) (by simp) rfl).put (c' := #[.string x0, .bool x1, .bool false]) 1 (.bool x1) (by simp) rfl).put (c' := #[.string x0, .bool x1, .bool x2]) 2 (.bool x2) (by simp) rfl)
    have K3 := hidIt (((HB.out.setCell (p := ⟨w.heap.size, 0, none⟩) (Nat.le_refl _) (.string x0)).setCell (p := ⟨w.heap.size, 1, none⟩) (Nat.le_refl _) (.bool x1)).setCell (p := ⟨w.heap.size, 2, none⟩) (Nat.le_refl _) (.bool x2))
    go_wp2_with (fail)
    generalize ((w4.setCell ⟨w.heap.size, 0, none⟩ (.string x0)).setCell ⟨w.heap.size, 1, none⟩ (.bool x1)).setCell ⟨w.heap.size, 2, none⟩ (.bool x2) = w5 at B3 K3 ⊢
    clear f0 f1 f2 g0 g1 g2
    have f0 := B3.out.c 0 rfl
    have f1 := B3.out.c 1 rfl
    have f2 := B3.out.c 2 rfl
    refine bodyPost_ret (v := .tuple #[rv (x0, x1, x2), .bool is]) (by simp [results, Try.results41, go_sem, f0, f1, f2]) rfl ⟨rfl, K3.out⟩
theorem may_flat (L : List Rw) (k : Bytes) (wr : Bool) : mayR L k wr = if wr then ((forR L k).getD zr).2.2 else ((forR L k).getD zr).2.1 := by
  unfold mayR
  cases forR L k with
  | none => cases wr <;> rfl
  | some r => rfl
set_option maxRecDepth 100000 in
set_option maxHeartbeats 8000000 in
theorem impl_May (a : Option Addr) (cap : Nat) (L : List Rw) (k : ByteArray) (wr : Bool) (w : World) (h : Rd w a L) (hl : L.length ≤ 9223372036854775807) (hs : ∀ i, i < L.length → (rat L i).1.size ≤ 9223372036854775807) (hk : k.size ≤ 9223372036854775807) :
    Calls Try.prog 39 #[.slice a L.length cap, .string k, .bool wr] w fun e w' => e = .returned (.bool (mayR L (bs k) wr)) ∧ Below w.heap.size w w' := by
  have C := hidIt (impl_RuleFor a cap L k w h hl hs hk)
  rw [may_flat]
  generalize (forR L (bs k)).isSome = is at C
  generalize (forR L (bs k)).getD zr = x at C ⊢
  obtain ⟨x0, x1, x2⟩ := x
  simp only [rv] at C ⊢
  generalize L.length = m at *
  clear h hs
  cases wr with
  | false =>
    go_enter Try.func39, Try.ntmps39
    go_wp2_with (fail)
    refine C.out.mono ?_
    rintro e w1 ⟨rfl, kk⟩
    have HB := hidIt kk
    clear kk
    go_wp2_with (fail)
    go_ret
    exact ⟨rfl, by go_grown <;> first | exact HB.out | exact HB.out.size⟩
  | true =>
    go_enter Try.func39, Try.ntmps39
    go_wp2_with (fail)
    refine C.out.mono ?_
    rintro e w1 ⟨rfl, kk⟩
    have HB := hidIt kk
    clear kk
    go_wp2_with (fail)
    go_ret
    exact ⟨rfl, by go_grown <;> first | exact HB.out | exact HB.out.size⟩
end Go.Proofs.Ytbdibkcamomgpaa.Ru
