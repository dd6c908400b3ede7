/-
  The program's ShowRules: letWord, letsText, the words, strings.Join at the blank.
-/
import Derived.Test.YtnmmmhkafdhfcaaDoorRuJ
import Derived.Test.YtnmmmhkafdhfcaaDoorRuR
import Derived.Test.YtnmmmhkafdhfcaaDoorShelf
import Derived.Deep.RegionHeld3
namespace Go.Proofs.YtnmmmhkafdhfcaaDoor.Ru
open Go.ChangeShapes Go.WideShapes Go.ChangeAt Go.RowKit
open Go.Proofs.YtnmmmhkafdhfcaaDoor.Rc (BelowBy BelowBy.one wp_region_below calls_below calls_same)
open Go.Proofs.YtnmmmhkafdhfcaaDoor.Nm (sat sat_at scells B)
set_option linter.unusedVariables false
theorem infoT : (Tryd.prog.info? 9).map (fun i => (i.zero, i.size, i.bytes)) = some (some (.string ByteArray.empty), 1, 16) := by kernel_rfl
/-- An append of texts onto a row of one's own, as one step of a region that draws its order. -/
theorem step_append_texts {ops : Array Oper} {o : Oper} {a : Act} {w : World} {K : Act → World → Prop} {Q : Exit → Act → World → Prop} {E : Prop}
    (hg : o.guard = none) (s x : Operand) (hop : o.op = Op.call { callee := Callee.builtin Builtin.append, args := #[s, x], argTypes := #[65, 65] })
    (base : Nat) (v : Value) (M N : List ByteArray) (hs : a.eval s = v) (hown : Nm.Own w base v M) (ad : Addr) (m c : Nat) (hm : N.length = m) (hx : a.eval x = .slice (some ad) m c) (hc : ∀ j u, (scells N)[j]? = some u → w.cell? (ad.add j) = some u)
    (hl : M.length + m ≤ 1000) (hb : base ≤ w.heap.size)
    (hK : ∀ v' w', Nm.Own w' base v' (M ++ N) → w.grownBy w' v.ownBlock → K (a.put o.dst v') w') :
    if Region.wanted o (yielded ops a.tmps) = true then Oper.wp Tryd.prog o a w K Q else E := by
  have hw : Region.wanted o (yielded ops a.tmps) = true := by simp [Region.wanted, hg]
  obtain ⟨i0, hi0, hz0, hz1, hz2⟩ := info_parts infoT
  rw [if_pos hw]
  obtain ⟨v', w', hrun, r1, r2, r3⟩ := run_append_own (P := Tryd.prog) w base 65 o.type 9 i0 (.string ByteArray.empty) 1 16 Tryd.underlying65 hi0 hz0 hz1 hz2 rfl (by decide) v M.length (scells M) hown ad m c (scells N) (by rw [List.length_map, hm]; omega) hc (Nm.scells_one _) (by unfold maxLen; omega) (by omega) hb
  unfold Oper.wp
  simp [execOp, hop, resolve, invoke, builtin, hs, hx, hrun, Result.andThen]
  refine hK v' w' ?_ r2
  unfold Nm.Own
  rw [List.length_append, hm, scells, List.map_append]
  exact r1
/-- What is let, as a word. -/
def flS (x : Rw) : ByteArray := fl x.2.1 114 ++ fl x.2.2 119
theorem flS_size (x : Rw) : (flS x).size = 2 := by unfold flS; rw [ByteArray.size_append, fl_size, fl_size]
theorem bs_flS (x : Rw) : bs (flS x) = flb x := by
  unfold flS flb
  rw [bs_append, bs_fl, bs_fl]
  rfl
/-- The words of the first so many. -/
def wdS (L : List Rw) : Nat → List ByteArray
  | 0 => []
  | n + 1 => wdS L n ++ [flS (rat L n), (rat L n).1]
theorem wdS_length (L : List Rw) : ∀ n, (wdS L n).length = 2 * n
  | 0 => rfl
  | n + 1 => by simp only [wdS, List.length_append, wdS_length L n, List.length_cons, List.length_nil]; omega
theorem join_two {ws : List Bytes} (h : ws ≠ []) (a b s : Bytes) : Go.Lib.join (ws ++ [a, b]) s = Go.Lib.join ws s ++ s ++ a ++ s ++ b := by
  cases ws with
  | nil => exact absurd rfl h
  | cons x r =>
    rw [List.cons_append, Go.Lib.join_cons, Go.Lib.join_cons]
    simp [Go.Lib.joinTail]
theorem join_shown (L : List Rw) : ∀ n, Go.Lib.join ((wdS L (n + 1)).map bs) [32] = bs (shw L (n + 1))
  | 0 => by
    have e : bs (shw L 1) = flb (rat L 0) ++ 32 :: bs (rat L 0).1 := by
      simp only [shw, bs_append, bs_fl, bs_bl, bs_empty, flb]
      simp
    rw [e]
    show Go.Lib.join [bs (flS (rat L 0)), bs (rat L 0).1] [32] = _
    rw [Go.Lib.join_cons, bs_flS]
    simp [Go.Lib.joinTail]
  | n + 1 => by
    have ih := join_shown L n
    have e : bs (shw L (n + 2)) = bs (shw L (n + 1)) ++ 32 :: (flb (rat L (n + 1)) ++ 32 :: bs (rat L (n + 1)).1) := by
      simp only [shw, bs_append, bs_fl, bs_bl, flb]
      simp
    have hne : (wdS L (n + 1)).map bs ≠ [] := by
      intro h0
      have := congrArg List.length h0
      rw [List.length_map, wdS_length] at this
      simp at this
    have ew : (wdS L (n + 2)).map bs = (wdS L (n + 1)).map bs ++ [bs (flS (rat L (n + 1))), bs (rat L (n + 1)).1] := by
      show (wdS L (n + 1) ++ [flS (rat L (n + 1)), (rat L (n + 1)).1]).map bs = _
      rw [List.map_append]
      rfl
    rw [ew, join_two hne, ih, bs_flS, e]
    simp
set_option maxHeartbeats 1000000 in
theorem impl_letWord (b : Bool) (c : UInt8) (w : World) : Calls Tryd.prog 82 #[.bool b, .string ⟨#[c]⟩] w fun e w' => e = .returned (.string (fl b c)) ∧ w' = w := by
  cases b with
  | false =>
    go_enter Tryd.func82, Tryd.ntmps82
    go_wp2
    go_ret
    exact ⟨rfl, rfl⟩
  | true =>
    go_enter Tryd.func82, Tryd.ntmps82
    go_wp2
    go_ret
    exact ⟨rfl, rfl⟩
set_option maxRecDepth 100000 in
set_option maxHeartbeats 2000000 in
theorem impl_letsText (x : Rw) (w : World) : Calls Tryd.prog 68 #[rv x] w fun e w' => e = .returned (.string (flS x)) ∧ Below w.heap.size w w' := by
  obtain ⟨xk, xr, xw⟩ := x
  have C1 := hidIt (fun W => impl_letWord xr 114 W)
  have C2 := hidIt (fun W => impl_letWord xw 119 W)
  have hz1 := fl_size xr 114
  have hz2 := fl_size xw 119
  unfold flS
  simp only
  generalize fl xr 114 = t1 at *
  generalize fl xw 119 = t2 at *
  have BX := hidIt (Bo.Box.new w #[.string xk, .bool xr, .bool xw] 46)
  have HBz := hidIt ((Below.refl w.heap.size w).alloc (Nat.le_refl _) (.cells #[.string xk, .bool xr, .bool xw] 46))
  go_enter Tryd.func68, Tryd.ntmps68
  go_wp2_with (fail)
  generalize w.alloc (.cells #[.string xk, .bool xr, .bool xw] 46) = wz at BX HBz ⊢
  haveI := BelowBy.one wz
  have g1 := fun p : BelowBy wz => p.cell (BX.out.c 1 rfl)
  have g2 := fun p : BelowBy wz => p.cell (BX.out.c 2 rfl)
  refine wp_region_below (by kernel_rfl) (by kernel_rfl) ?_
  repeat (go_big_quiet_step (first | (go_at_call 82; refine calls_same (C1.out _)) | (go_at_call 82; refine calls_same (C2.out _))))
  refine wpQuiet_nil ?_
  intro _ hw'
  obtain ⟨pq, rfl⟩ := hw'
  have HB1 := hidIt (HBz.out.trans (pq.h.mono HBz.out.size))
  generalize pq.world = w2 at HB1 ⊢
  clear g1 g2
  go_wp2_with (fail)
  go_ret
  exact ⟨rfl, HB1.out⟩
theorem bExtra : Builder.Extra Tryd.prog Tryd.lays156_ren where
  sizeBuilder := by kernel_rfl
  liesBuilder := by kernel_rfl
  t5 := Tryd.underlying5
  a5 := Tryd.isAgg5
  z5 := Tryd.sizeOf5
  v5 := Tryd.zeroValue5
  infoByte := by kernel_rfl
  cellsByte := by kernel_rfl
  sizeByte := by kernel_rfl
  neB5 := by decide
set_option maxRecDepth 100000 in
theorem lib_Join (a : Option Addr) (cap : Nat) (L : List ByteArray) (t : ByteArray) (w : World) (h : Nm.Rd w a L) (hc : L.length ≤ cap) (hl : L.length ≤ 1000) (ht : t.size ≤ 1000) (hj : Go.Lib.join (L.map bs) [32] = bs t) :
    Calls Tryd.prog 69 #[.slice a L.length cap, .string ⟨#[32]⟩] w fun e w' => e = .returned (.string t) ∧ Below w.heap.size w w' := by
  cases L with
  | nil =>
    have e : t = ⟨#[]⟩ := bs_inj (by rw [← hj]; rfl)
    subst e
    refine (Any.strings_Join_none Tryd.lays156 bExtra a cap _ w).mono ?_
    rintro e w' ⟨rfl, rfl⟩
    exact ⟨rfl, Below.refl _ _⟩
  | cons s r =>
    obtain ⟨b, off, rfl, c0⟩ := h.cell 0 (by simp)
    have e32 : (⟨#[32]⟩ : ByteArray).data.toList = [32] := rfl
    have hb : Go.Lib.join ((s :: r).map (·.data.toList)) (⟨#[32]⟩ : ByteArray).data.toList = bs t := by rw [e32]; exact hj
    refine (Any.strings_Join Tryd.lays156 bExtra b off cap (s :: r) ⟨#[32]⟩ w (fun j x hx => ?_) (cell_block c0) (by omega) hc (by rw [hb, bs_length]; omega)).mono ?_
    · obtain ⟨hj', e⟩ := List.getElem?_eq_some_iff.1 hx
      obtain ⟨b', off', e', c'⟩ := h.cell j hj'
      cases e'
      rw [c', sat_at hj', e]
    · rintro e w' ⟨rfl, hB⟩
      rw [hb]
      exact ⟨by rw [show (⟨(bs t).toArray⟩ : ByteArray) = t from B_bs t], hB⟩
theorem two_fresh {w : World} {k : Nat} (h : w.heap.size = k) (s t : ByteArray) (T : TypeId) : ∀ j u, (scells [s, t])[j]? = some u → (w.alloc (.cells #[.string s, .string t] T)).cell? ((⟨k, 0, none⟩ : Addr).add j) = some u := by
  subst h
  intro j u hj
  match j, hj with
  | 0, hj => simp at hj; subst hj; simp [Addr.add]
  | 1, hj => simp at hj; subst hj; simp [Addr.add]
  | j + 2, hj => simp at hj
set_option maxRecDepth 100000 in
set_option maxHeartbeats 8000000 in
theorem impl_ShowRules (a : Option Addr) (cap : Nat) (L : List Rw) (w : World) (h : Rd w a L) (hl : L.length ≤ 9223372036854775807) (hs : ∀ i, i < L.length → (rat L i).1.size ≤ 9223372036854775807) :
    Calls Tryd.prog 57 #[.slice a L.length cap] w fun e w' => e = .returned (.string (showR L)) ∧ Below w.heap.size w w' := by
  have C := hidIt (impl_RulesOk a cap L w h hl hs)
  unfold showR
  have HR := hidIt h
  cases ho : okR L with
  | false =>
    rw [ho] at C
    generalize L.length = m at *
    clear h hs ho
    go_enter Tryd.func57, Tryd.ntmps57
    go_wp2_with (fail)
    refine C.out.mono ?_
    rintro e w1 ⟨rfl, kk⟩
    have HB := hidIt kk
    clear kk
    go_wp2_with (fail)
    go_ret
    exact ⟨rfl, HB.out⟩
  | true =>
    rw [ho] at C
    have h12 := okR_len ho
    have hsz := shw_size L (fun i hi => okP_len (okR_at ho hi)) L.length (Nat.le_refl _)
    have HJ : Hid (Go.Lib.join ((wdS L L.length).map bs) [32] = bs (shw L L.length)) := hidIt (by
      rcases Nat.eq_zero_or_pos L.length with h0 | h0
      · rw [h0]; rfl
      · obtain ⟨n, e⟩ : ∃ n, L.length = n + 1 := ⟨L.length - 1, by omega⟩
        rw [e]
        exact join_shown L n)
    have HW0 : Hid (wdS L 0 = []) := hidIt rfl
    have HW1 : Hid (∀ n, wdS L (n + 1) = wdS L n ++ [flS (rat L n), (rat L n).1]) := hidIt (fun n => rfl)
    have HWL := hidIt (wdS_length L)
    have hts : (shw L L.length).size ≤ 1000 := by omega
    rw [if_pos rfl]
    generalize shw L L.length = t at HJ hts ⊢
    clear h hs ho hsz
    generalize wdS L = W at HJ HW0 HW1 HWL
    generalize hn : L.length = m at *
    have HN := hidIt hn
    clear hn
    go_enter Tryd.func57, Tryd.ntmps57
    go_wp2_with (fail)
    refine C.out.mono ?_
    rintro e w1 ⟨rfl, kk⟩
    have HB1 := hidIt (kk.alloc kk.size (.cells #[] 9))
    have HO1 := hidIt ((Nm.Own.new w1).mono kk.size)
    clear kk C
    go_wp2_with (fail)
    go_loopw [3, 12] (fun z y wx => ∃ i : Nat, y = .int .i64 i ∧ i ≤ m ∧ Hid (Nm.Own wx w.heap.size z (W i)) ∧ Hid (Below w.heap.size w wx)) (fun _ y _ => (m - intOf y).toNat)
    case atStart => exact ⟨0, rfl, by omega, hidIt (by rw [HW0.out]; exact HO1.out), HB1⟩
    case round =>
      obtain ⟨i, rfl, hi, HO, HB⟩ := hrel
      clear HO1 HB1
      have hwl := HWL.out i
      by_cases hin : i < m
      · have hin' : (i : Int) < (m : Int) := by omega
        obtain ⟨b, off, ea, c0, c1, c2⟩ := (HR.out.kept HB.out).all (i := i) (by rw [HN.out]; exact hin)
        subst ea
        have HWi := hidIt (HW1.out i)
        generalize rat L i = x at c0 c1 c2 HWi
        have CT := hidIt (fun Wd => impl_letsText x Wd)
        have hfl := flS_size x
        generalize flS x = lt at CT HWi hfl
        obtain ⟨xk, xr, xw⟩ := x
        simp only [rv] at c0 c1 c2 HWi CT
        generalize W i = V at *
        obtain ⟨ao, co, ev, ho1, ho2, _⟩ := HO.out.form
        subst ev
        have HWl := hidIt hwl
        have HAb : Hid (some wr.heap.size ≠ (Value.slice ao V.length co).ownBlock) := hidIt (fun e => by have := (World.ownsRow.lt HO.out _ e.symm).2; omega)
        clear hwl
        have HBz := hidIt (HB.out.alloc HB.out.size (.cells #[.string xk, .bool xr, .bool xw] 46))
        have HOz := hidIt (HO.out.alloc (.cells #[.string xk, .bool xr, .bool xw] 46))
        have BX := hidIt (Bo.Box.new wr #[.string xk, .bool xr, .bool xw] 46)
        go_wp2_with (fail)
        generalize wr.alloc (.cells #[.string xk, .bool xr, .bool xw] 46) = wz at HBz HOz BX ⊢
        have hS : wz.cell? ⟨wr.heap.size, 0, none⟩ = some (.string xk) ∧ wz.cell? ⟨wr.heap.size, 1, none⟩ = some (.bool xr) ∧ wz.cell? ⟨wr.heap.size, 2, none⟩ = some (.bool xw) := ⟨BX.out.c 0 rfl, BX.out.c 1 rfl, BX.out.c 2 rfl⟩
        go_region_held3 (fun w' => w'.cell? ⟨wr.heap.size, 0, none⟩ = some (.string xk) ∧ w'.cell? ⟨wr.heap.size, 1, none⟩ = some (.bool xr) ∧ w'.cell? ⟨wr.heap.size, 2, none⟩ = some (.bool xw))
          (first | assumption | exact hS | exact hS2 | exact hS3 | go_keep)
          (first
            | (go_at_call 68; refine (CT.out _).mono ?_; rintro e w2 ⟨rfl, kk⟩; have BX2 := hidIt (BX.out.drew.kept kk); have HO2 := hidIt (Nm.Own.kept (HOz.out.kept ((Below.refl wz.heap.size wz).drew)) kk); have HB2 := hidIt (HBz.out.drew.trans (kk.mono HBz.out.size)); have hS2 : w2.cell? ⟨wr.heap.size, 0, none⟩ = some (.string xk) ∧ w2.cell? ⟨wr.heap.size, 1, none⟩ = some (.bool xr) ∧ w2.cell? ⟨wr.heap.size, 2, none⟩ = some (.bool xw) := ⟨BX2.out.c 0 rfl, BX2.out.c 1 rfl, BX2.out.c 2 rfl⟩; clear kk)
            | (refine step_append_texts (by rfl) (.tmp 16) (.tmp 21) (by rfl) w.heap.size (.slice ao V.length co) V [lt, xk] (by simp [Act.eval]) (HO2.out.alloc _) ⟨w2.heap.size, 0, none⟩ 2 2 rfl (by simp [Act.eval]) (two_fresh rfl lt xk _) (by have := HWl.out; omega) (by have := HB2.out.size; simp; omega) ?_; intro v' w' hown hgrow; have BXA := BX2.out.alloc (.cells #[.string lt, .string xk] 9); have hS3 : w'.cell? ⟨wr.heap.size, 0, none⟩ = some (.string xk) ∧ w'.cell? ⟨wr.heap.size, 1, none⟩ = some (.bool xr) ∧ w'.cell? ⟨wr.heap.size, 2, none⟩ = some (.bool xw) := ⟨grown_cell1 hgrow (BXA.c 0 rfl) HAb.out, grown_cell1 hgrow (BXA.c 1 rfl) HAb.out, grown_cell1 hgrow (BXA.c 2 rfl) HAb.out⟩; clear BXA)
            | fail)
        all_goals
          have HO3 := hidIt hown
          have HB3 := hidIt ((HB2.out.alloc HB2.out.size _).trans (Nm.grown_below (HO2.out.alloc _) hgrow (Nat.le_refl _) (by have := HB2.out.size; simp; omega)))
          clear hown hgrow hS hS2 hS3
          go_wp2_with (fail)
          exact ⟨⟨i + 1, by simp, by omega, hidIt (by rw [HWi.out]; exact HO3.out), HB3⟩, by simp [intOf]; omega⟩
      · have hin' : ¬ (i : Int) < (m : Int) := by omega
        have HI : Hid (i = m) := hidIt (by omega)
        have HE : Hid (Nm.Own wr w.heap.size u3 (W m)) := hidIt (by have := HO.out; rw [HI.out] at this; exact this)
        have hwm := HWL.out m
        obtain ⟨z1, z2, ez, hz1, hz2, hRd, _⟩ := HE.out.form
        rw [hwm] at ez hz1
        have CJ := hidIt (fun Wd (r : Nm.Rd Wd z1 (W m)) => lib_Join z1 z2 (W m) t Wd r (by omega) (by omega) hts HJ.out)
        simp only [hwm] at CJ
        subst ez
        have HRd := hidIt hRd
        clear hRd
        go_wp2_with (fail)
        refine (CJ.out _ HRd.out).mono ?_
        rintro e w2 ⟨rfl, kk⟩
        have HB2 := hidIt (HB.out.trans (kk.mono HB.out.size))
        clear kk
        go_wp2_with (fail)
        go_ret
        exact ⟨rfl, HB2.out⟩
end Go.Proofs.YtnmmmhkafdhfcaaDoor.Ru
