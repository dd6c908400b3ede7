/-
  The program's newest: what the rests come to, one of each Key.
-/
import Derived.Test.YtkkbccppfppalaaHepN
import Derived.Deep.LoopGhost
namespace Go.Proofs.Ytkkbccppfppalaa.En
open Go.ChangeShapes Go.WideShapes Go.ChangeAt Go.RowKit
open Go.Proofs.Ytkkbccppfppalaa.Rc (BelowBy BelowBy.one wp_region_below calls_below calls_same)
open Go.Proofs.Ytkkbccppfppalaa.Bk (Bytes okE newB okBk Ris IsJoin joinB lessE Mg putE)
set_option linter.unusedVariables false
theorem put_at {J : List Rw} {j : Nat} (h : J.length = j + 1) : (toB J).getLast? = some (toE (rat J j)) := by
  rw [List.getLast?_eq_getElem?, List.length_map, h, List.getElem?_map]
  simp only [Nat.add_sub_cancel]
  rw [rat_getElem? (by omega)]
  rfl
theorem put_same {J : List Rw} {j : Nat} {x : Rw} (h : J.length = j + 1) (e : bs (rat J j).1 = bs x.1) : putE (toB J) (toE x) = toB J := by
  unfold putE
  rw [put_at h, if_pos (by simp [toE, e])]
theorem put_more {J : List Rw} {j : Nat} {x : Rw} (h : J.length = j + 1) (e : bs (rat J j).1 ≠ bs x.1) : putE (toB J) (toE x) = toB (J ++ [x]) := by
  unfold putE
  rw [put_at h, if_neg (by simp [toE, e])]
  simp [toB]
theorem put_first {x : Rw} : putE (toB []) (toE x) = toB ([] ++ [x]) := by
  unfold putE
  rw [if_neg (by simp)]
  rfl
/-- Behind one step: what is left, and what has gone. -/
def After (w : World) (base b g k : Nat) (A B J : List Bk.En) : Prop := ∃ X Y, Sta w base b g X Y ∧ Mg A B J (toB X) (toB Y) ∧ X.length + Y.length + 1 ≤ k
theorem After.kept {w w' : World} {base b g k : Nat} {A B J : List Bk.En} (h : After w base b g k A B J) (h' : Below w.heap.size w w') : After w' base b g k A B J := by
  obtain ⟨X, Y, h1, h2, h3⟩ := h
  exact ⟨X, Y, h1.kept h', h2, h3⟩
theorem after_of {w w' : World} {base b g k : Nat} {A B J : List Bk.En} {x : Rw} {X Y : List Rw} (s : Sta w base b g (x :: X) Y) (m : Mg A B J (toB (x :: X)) (toB Y)) (rA : Ris A) (rB : Ris B) (hk : (x :: X).length + Y.length ≤ k) (s1 : Sta w' base b g X Y ∨ Sta w' base b g Y X) : After w' base b g k A B (putE J (toE x)) := by
  have m1 := Mg.step (X := toB X) (Y := toB Y) (x := toE x) m rA rB s.top
  simp at hk
  rcases s1 with s1 | s1
  · exact ⟨X, Y, s1, m1, by omega⟩
  · exact ⟨Y, X, s1, m1.swap, by omega⟩
theorem Hp.low {w w' : World} {b g cap n B : Nat} {v0 v1 : Value} (h : Hp w b g cap n v0 v1) (k : Below B w w') (hb : b < B) (hg : g < B) : Hp w' b g cap n v0 v1 :=
  ⟨h.ne, Nat.lt_of_lt_of_le h.bl k.size, Nat.lt_of_lt_of_le h.gl k.size, h.le, by rw [k.cell (by simpa using hb)]; exact h.me, by rw [k.frozen (by simpa using hb)]; exact h.mf,
    fun i hi => by rw [k.cell (by simpa using hg)]; exact h.row i hi, fun i => by rw [k.frozen (by simpa using hg)]; exact h.rf i⟩
theorem Sta.low {w w' : World} {base b g B : Nat} {X Y : List Rw} (h : Sta w base b g X Y) (k : Below B w w') (hb : b < B) (hg : g < B) (hs : base ≤ B) : Sta w' base b g X Y := by
  have low : ∀ {p o c : Nat} {Z : List Rw}, El w base p o c Z → El w' base p o c Z := fun e => e.low (k.mono hs)
  cases h using Sta.elim with
  | zero a cap h => exact .zero a cap (by rw [k.cell (by simpa using hb)]; exact h)
  | one cap p o c X u h hc hx => exact .one cap p o c X u (h.low k hb hg) hc (low hx)
  | two cap p0 o0 k0 p1 o1 k1 X Y h hc hx hy ht => exact .two cap p0 o0 k0 p1 o1 k1 X Y (h.low k hb hg) hc (low hx) (low hy) ht
theorem After.low {w w' : World} {base b g k B : Nat} {A B' J : List Bk.En} (h : After w base b g k A B' J) (h' : Below B w w') (hb : b < B) (hg : g < B) (hs : base ≤ B) : After w' base b g k A B' J := by
  obtain ⟨X, Y, h1, h2, h3⟩ := h
  exact ⟨X, Y, h1.low h' hb hg hs, h2, h3⟩
/-- Where newest stands. -/
def Now (w0 w : World) (base b g k : Nat) (A B : List Rw) (v : Value) : Prop := ∃ J X Y, Own w w0.heap.size v J ∧ Sta w base b g X Y ∧ Mg (toB A) (toB B) (toB J) (toB X) (toB Y) ∧ X.length + Y.length ≤ k ∧ Below base w0 w
theorem now_of {w0 w : World} {base b g k : Nat} {A B : List Rw} {J : List Rw} {PJ : List Bk.En} {v : Value} (o : Own w w0.heap.size v J) (a : After w base b g k (toB A) (toB B) PJ) (e : PJ = toB J) (hb : Below base w0 w) : Now w0 w base b g (k - 1) A B v := by
  obtain ⟨X, Y, s, m, hk⟩ := a
  subst e
  exact ⟨J, X, Y, o, s, m, by omega, hb⟩
set_option maxRecDepth 100000 in
set_option maxHeartbeats 4000000 in
theorem impl_newest {w : World} {base b : Nat} {A B : List Rw} (h : Made w base b A B) (hb : base ≤ b) (hbl : b < w.heap.size) (hs : base ≤ w.heap.size) (rA : Ris (toB A)) (rB : Ris (toB B)) (lA : A.length ≤ 80) (lB : B.length ≤ 80) :
    Calls Try.prog 50 #[.pointer (some ⟨b, 0, none⟩)] w fun e w' => ∃ v J, e = .returned v ∧ Own w' w.heap.size v J ∧ IsJoin (toB A) (toB B) (toB J) ∧ J.length ≤ 160 ∧ Below base w w' := by
  obtain ⟨i0, hi0, hz0, hz1, hz2⟩ := info_parts infoRw
  obtain ⟨g, X, Y, hg, st, hgl, hxy⟩ := h
  have CL := hidIt (fun a n c W => rests_Len a n c W)
  have HN0 : Hid (Now w (w.alloc (.cells #[] 59)) base b g (A.length + B.length) A B (.slice (some ⟨w.heap.size, 0, none⟩) 0 0)) := hidIt (by
    have ka := (Below.refl w.heap.size w).alloc (Nat.le_refl _) (.cells #[] 59)
    refine ⟨[], X, Y, Own.new w, st.kept ka, ?_, ?_, ka.mono hs⟩
    · rcases hxy with ⟨rfl, rfl⟩ | ⟨rfl, rfl⟩
      · exact Mg.start _ _
      · exact (Mg.start _ _).swap
    · rcases hxy with ⟨rfl, rfl⟩ | ⟨rfl, rfl⟩ <;> omega)
  have HRA := hidIt rA
  have HRB := hidIt rB
  clear st hxy rA rB
  go_enter Try.func50, Try.ntmps50
  go_wp2_with (fail)
  generalize w.alloc (.cells #[] 59) = w1 at HN0 ⊢
  go_loopg [3] (A.length + B.length) (fun kx s3 wx => Hid (Now w wx base b g kx A B s3))
  case atStart => exact HN0
  case round =>
    obtain ⟨J, X, Y, o1, s1, m1, hk, b1⟩ := hrel.out
    have HO := hidIt o1
    have HS := hidIt s1
    have HM := hidIt m1
    have HB := hidIt b1
    clear o1 s1 m1 b1 hrel HN0
    cases X with
    | nil =>
      obtain ⟨eY, a, cap, hc⟩ := HS.out.nil_right
      subst eY
      have HJ := hidIt HM.out.join
      have HJL : Hid (J.length ≤ 160) := hidIt (by have := HM.out.len; simp at this; omega)
      clear HM HS
      go_wp2_with (fail)
      refine (CL.out _ _ _ _).mono ?_
      rintro e w2 ⟨rfl, rfl⟩
      go_wp2_with (fail)
      go_ret
      exact ⟨_, J, rfl, HO.out, HJ.out, HJL.out, HB.out⟩
    | cons x X =>
      obtain ⟨a, n, cap, hc, hn, hn2⟩ := HS.out.len
      have CN := hidIt (next_any HS.out hb hg)
      have hn' : (0 : Int) < (n : Int) := by omega
      have HA := hidIt (fun W s1 => after_of (w' := W) HS.out HM.out HRA.out HRB.out hk s1)
      have HJL : Hid (J.length ≤ 159) := hidIt (by have := HM.out.len; simp at this; omega)
      have HJK : Hid (gk ≠ 0) := hidIt (by simp at hk; omega)
      clear HS HM hk
      go_wp2_with (fail)
      refine (CL.out _ _ _ _).mono ?_
      rintro e w2 ⟨rfl, rfl⟩
      go_wp2_with (fail)
      refine CN.out.mono ?_
      rintro e w3 ⟨rfl, s3, f3⟩
      have HF3 := hidIt (HA.out _ s3)
      have HO3 := hidIt (HO.out.fr f3 hbl hgl)
      have HB3 := hidIt (HB.out.trans (f3.below hb hg (Nat.le_trans hs HB.out.size)))
      have HZ3 := hidIt (Nat.le_trans HB.out.size f3.size)
      clear s3 f3 HO HB HA CN hc
      have HPS := hidIt (fun j h e => put_same (J := J) (j := j) (x := x) h e)
      have HPM := hidIt (fun j h e => put_more (J := J) (j := j) (x := x) h e)
      have HPF := hidIt (fun (e : J = []) => show putE (toB J) (toE x) = toB (J ++ [x]) by rw [e]; exact put_first)
      generalize putE (toB J) (toE x) = PJ at HF3 HPS HPM HPF
      obtain ⟨xk, xv, xt, xn, xg⟩ := x
      simp only at HPS HPM
      obtain ⟨za, zc, ez, hle, hcm, hrd, _, hsome⟩ := HO3.out.form
      have HFM := hidIt hrd
      clear hrd hsome
      subst ez
      generalize hjl : J.length = jl at *
      have HJLn := hidIt hjl
      clear hjl
      go_wp2_with (fail)
      have BX := hidIt (Bo.Box.new w3 #[.string xk, .string xv, .int .i64 xt, .int .i64 xn, .bool xg] 59)
      have HAl := hidIt ((Below.refl w3.heap.size w3).alloc (Nat.le_refl _) (.cells #[.string xk, .string xv, .int .i64 xt, .int .i64 xn, .bool xg] 59))
      generalize hz : w3.alloc (.cells #[.string xk, .string xv, .int .i64 xt, .int .i64 xn, .bool xg] 59) = wz at BX HAl ⊢
      clear hz
      have HFz := hidIt (HF3.out.kept HAl.out)
      have HOz := hidIt (HO3.out.kept HAl.out)
      have HBz := hidIt (HB3.out.trans (HAl.out.mono (Nat.le_trans hs HZ3.out)))
      have HZz := hidIt (Nat.le_trans HZ3.out HAl.out.size)
      have HRz := hidIt (HFM.out.kept HAl.out)
      clear HF3 HO3 HB3 HZ3 HAl HFM
      haveI := BelowBy.one wz
      have g0 := fun p : BelowBy wz => p.cell (BX.out.c 0 rfl)
      generalize hbk : w3.heap.size = bk at BX g0 ⊢
      clear hbk
      rcases Nat.eq_zero_or_pos jl with hj | hj
      · subst hj
        refine wp_region_below (by kernel_rfl) (by kernel_rfl) ?_
        repeat (go_big_quiet_step (fail))
        refine wpQuiet_nil ?_
        intro _ hw'
        obtain ⟨pq, rfl⟩ := hw'
        have kq := pq.h
        generalize pq.world = w4 at kq ⊢
        have HF4 := hidIt (HFz.out.kept kq)
        have HO4 := hidIt (HOz.out.kept kq)
        have HB4 := hidIt (HBz.out.trans (kq.mono (Nat.le_trans hs HZz.out)))
        have HZ4 := hidIt (Nat.le_trans HZz.out kq.size)
        have BX4 := hidIt (BX.out.kept kq)
        clear kq HFz HOz HBz HZz BX g0
        have t0 := BX4.out.c 0 rfl
        have t1 := BX4.out.c 1 rfl
        have t2 := BX4.out.c 2 rfl
        have t3 := BX4.out.c 3 rfl
        have t4 := BX4.out.c 4 rfl
        have HOw : Hid (w4.ownsRow w.heap.size 59 5 (.slice za 0 zc) 0 (rcells J)) := hidIt (by have := HO4.out; unfold Own at this; rw [HJLn.out] at this; exact this)
        go_wp2_with (first | (at_builtin; refine wpList_append_own _ rfl _ _ 40 rfl w.heap.size 59 i0 (.agg #[.string ByteArray.empty, .string ByteArray.empty, .int .i64 0, .int .i64 0, .bool false]) 5 56 Try.underlying40 hi0 hz0 hz1 hz2 rfl (by decide) _ _ _ rfl (World.ownsRow.alloc HOw.out (.cells #[.string xk, .string xv, .int .i64 xt, .int .i64 xn, .bool xg] 59)) ⟨w4.heap.size, 0, none⟩ 1 1 [.string xk, .string xv, .int .i64 xt, .int .i64 xn, .bool xg] rfl rfl (fresh w4 (xk, xv, xt, xn, xg) 59) (rcells_one [(xk, xv, xt, xn, xg)]) ?ca1 ?ca2 ?ca3 ?_))
        case ca1 => unfold maxLen; have := HJL.out; omega
        case ca2 => have := HJL.out; omega
        case ca3 => have := HZ4.out; simp; omega
        intro v' w9 hown hgrow _
        have ka := (Below.refl w4.heap.size w4).alloc (Nat.le_refl _) (.cells #[.string xk, .string xv, .int .i64 xt, .int .i64 xn, .bool xg] 59)
        have kk := grown_below (HO4.out.kept ka) (by exact hgrow) (Nat.le_refl _) (Nat.le_trans HZ4.out ka.size)
        have k9 := (ka.mono HZ4.out).trans kk
        have HO9 : Hid (Own w9 w.heap.size v' (J ++ [(xk, xv, xt, xn, xg)])) := hidIt (Own.more (L := J) (M := [(xk, xv, xt, xn, xg)]) (by rw [HJLn.out]; exact hown))
        have HF9 := hidIt (HF4.out.low k9 hbl hgl hs)
        have HB9 := hidIt (HB4.out.trans (k9.mono hs))
        have HE9 := hidIt (HPF.out (List.length_eq_zero_iff.1 HJLn.out))
        clear hown hgrow ka kk k9
        go_wp2_with (fail)
        go_roundg (gk - 1)
        case measure => have := HJK.out; omega
        case rel => exact hidIt (now_of HO9.out HF9.out HE9.out HB9.out)
      · obtain ⟨j, rfl⟩ : ∃ j, jl = j + 1 := ⟨jl - 1, by omega⟩
        obtain ⟨zb, zo, eza, l0, _⟩ := HRz.out.all (i := j) (by rw [HJLn.out]; omega)
        subst eza
        obtain ⟨lk, elk⟩ : ∃ s, (rat J j).1 = s := ⟨_, rfl⟩
        have HPS1 := hidIt (fun e => HPS.out j rfl e)
        have HPM1 := hidIt (fun e => HPM.out j rfl e)
        rw [elk] at l0 HPS1 HPM1
        clear elk HPS HPM HPF HRz
        have k0 := fun p : BelowBy wz => p.cell l0
        clear l0
        have heq := eq_of lk xk
        have hjz : ((j : Int) + 1 == 0) = false := by simp; omega
        have hj1 : (j : Int) < (j : Int) + 1 := by omega
        have hj2 : (j : Int) ≤ 200 := by have := HJL.out; omega
        have hj3 : (0 : Int) ≤ (j : Int) := by omega
        by_cases hk : bs lk = bs xk
        · have HE0 := hidIt (HPS1.out hk)
          rw [decide_eq_true hk] at heq
          clear hk HPS1 HPM1
          refine wp_region_below (by kernel_rfl) (by kernel_rfl) ?_
          repeat (go_big_quiet_step (fail))
          refine wpQuiet_nil ?_
          intro _ hw'
          obtain ⟨pq, rfl⟩ := hw'
          have kq := pq.h
          generalize pq.world = w4 at kq ⊢
          have HF4 := hidIt (HFz.out.kept kq)
          have HO4 := hidIt (HOz.out.kept kq)
          have HB4 := hidIt (HBz.out.trans (kq.mono (Nat.le_trans hs HZz.out)))
          have HZ4 := hidIt (Nat.le_trans HZz.out kq.size)
          have BX4 := hidIt (BX.out.kept kq)
          clear kq HFz HOz HBz HZz BX g0 k0
          have t0 := BX4.out.c 0 rfl
          have t1 := BX4.out.c 1 rfl
          have t2 := BX4.out.c 2 rfl
          have t3 := BX4.out.c 3 rfl
          have t4 := BX4.out.c 4 rfl
          have HE9 := hidIt (HE0.out)
          go_wp2_with (fail)
          go_roundg (gk - 1)
          case measure => have := HJK.out; omega
          case rel => exact hidIt (now_of HO4.out HF4.out HE9.out HB4.out)
        · have HE0 := hidIt (HPM1.out hk)
          rw [decide_eq_false hk] at heq
          clear hk HPS1 HPM1
          refine wp_region_below (by kernel_rfl) (by kernel_rfl) ?_
          repeat (go_big_quiet_step (fail))
          refine wpQuiet_nil ?_
          intro _ hw'
          obtain ⟨pq, rfl⟩ := hw'
          have kq := pq.h
          generalize pq.world = w4 at kq ⊢
          have HF4 := hidIt (HFz.out.kept kq)
          have HO4 := hidIt (HOz.out.kept kq)
          have HB4 := hidIt (HBz.out.trans (kq.mono (Nat.le_trans hs HZz.out)))
          have HZ4 := hidIt (Nat.le_trans HZz.out kq.size)
          have BX4 := hidIt (BX.out.kept kq)
          clear kq HFz HOz HBz HZz BX g0 k0
          have t0 := BX4.out.c 0 rfl
          have t1 := BX4.out.c 1 rfl
          have t2 := BX4.out.c 2 rfl
          have t3 := BX4.out.c 3 rfl
          have t4 := BX4.out.c 4 rfl
          have HOw : Hid (w4.ownsRow w.heap.size 59 5 (.slice (some ⟨zb, zo, none⟩) (j + 1) zc) (j + 1) (rcells J)) := hidIt (by have := HO4.out; unfold Own at this; rw [HJLn.out] at this; exact this)
          go_wp2_with (first | (at_builtin; refine wpList_append_own _ rfl _ _ 40 rfl w.heap.size 59 i0 (.agg #[.string ByteArray.empty, .string ByteArray.empty, .int .i64 0, .int .i64 0, .bool false]) 5 56 Try.underlying40 hi0 hz0 hz1 hz2 rfl (by decide) _ _ _ rfl (World.ownsRow.alloc HOw.out (.cells #[.string xk, .string xv, .int .i64 xt, .int .i64 xn, .bool xg] 59)) ⟨w4.heap.size, 0, none⟩ 1 1 [.string xk, .string xv, .int .i64 xt, .int .i64 xn, .bool xg] rfl rfl (fresh w4 (xk, xv, xt, xn, xg) 59) (rcells_one [(xk, xv, xt, xn, xg)]) ?cb1 ?cb2 ?cb3 ?_))
          case cb1 => unfold maxLen; have := HJL.out; omega
          case cb2 => have := HJL.out; omega
          case cb3 => have := HZ4.out; simp; omega
          intro v' w9 hown hgrow _
          have ka := (Below.refl w4.heap.size w4).alloc (Nat.le_refl _) (.cells #[.string xk, .string xv, .int .i64 xt, .int .i64 xn, .bool xg] 59)
          have kk := grown_below (HO4.out.kept ka) (by exact hgrow) (Nat.le_refl _) (Nat.le_trans HZ4.out ka.size)
          have k9 := (ka.mono HZ4.out).trans kk
          have HO9 : Hid (Own w9 w.heap.size v' (J ++ [(xk, xv, xt, xn, xg)])) := hidIt (Own.more (L := J) (M := [(xk, xv, xt, xn, xg)]) (by rw [HJLn.out]; exact hown))
          have HF9 := hidIt (HF4.out.low k9 hbl hgl hs)
          have HB9 := hidIt (HB4.out.trans (k9.mono hs))
          have HE9 := hidIt (HE0.out)
          clear hown hgrow ka kk k9
          go_wp2_with (fail)
          go_roundg (gk - 1)
          case measure => have := HJK.out; omega
          case rel => exact hidIt (now_of HO9.out HF9.out HE9.out HB9.out)
end Go.Proofs.Ytkkbccppfppalaa.En
