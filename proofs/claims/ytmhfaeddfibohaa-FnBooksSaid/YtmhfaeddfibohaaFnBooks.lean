/-
  FnBooks answers true at every slice of bytes and leaves it as it was: Written, ValueOf and Alive of the program answer as the specification's at what is drawn; what is written is there if nothing newer was, what is gone is not, and all other Keys are as they were. No condition.
-/
import Derived.Test.YtmhfaeddfibohaaRows
import Derived.WalkKit
import Derived.ProofKit
import Derived.OpenShut
import Derived.ShutString
import Derived.ChangeOld
import Derived.Below
import Derived.Lib.SmallJoins
import Derived.Test.YtmhfaeddfibohaaHepP
import Derived.Test.YtmhfaeddfibohaaBokN
import Derived.Test.YtmhfaeddfibohaaBokY
import Derived.Deep.Cut
import Derived.Deep.CutRange
import Derived.Deep.LoopGhost
import Derived.Laws.StructEq
namespace Go.Proofs.Ytmhfaeddfibohaa.fnBooks
open Go.ChangeShapes Go.WideShapes Go.ChangeAt Go.RowKit Go.Joins
set_option linter.unusedVariables false

theorem own : ownKnob Try.prog.godebug = none := by kernel_rfl
theorem laidOut : laidOutB Try.prog = true := by kernel_rfl
/-- A row of integers that came in: nil, or cells at an address. -/
def IsRow (k : IntKind) (w : World) (a : Option Addr) (len cap : Nat) (zs : List Int) : Prop :=
  (a = none ∧ len = 0 ∧ cap = 0 ∧ zs = []) ∨
  ∃ x, a = some x ∧ len ≤ cap ∧ cap ≤ maxLen ∧ zs.length = cap ∧ (∀ i, i < zs.length → w.cell? (x.add i) = some (.int k (zs.getD i 0))) ∧ ∀ n ∈ zs, (Lit.int k n).wf = true
open En
open Go.Proofs.Ytmhfaeddfibohaa.Bk (joinB valB okBk okE newB aliveB Wrote)
open Go.Proofs.Ytmhfaeddfibohaa.Rc (BelowBy BelowBy.one wp_region_below calls_below calls_same)
theorem code_of {w : World} {a : Option Addr} {len cap : Nat} {zs : List Int} (h : IsRow .u8 w a len cap zs) : Dr.Code w.heap.size w a len := by
  refine ⟨fun i hi => ?_⟩
  rcases h with ⟨rfl, rfl, rfl, rfl⟩ | ⟨x, rfl, hl, hm, hz, hcell, hwz⟩
  · omega
  · have hc := hcell i (by omega)
    obtain ⟨b, off, spot⟩ := x
    have h00 := hcell 0 (by omega)
    have hspot : spot = none := by simpa [Addr.add] using World.cell?_spot h00
    subst hspot
    have hc0 : w.cell? ⟨b, off + i, none⟩ = some (.int .u8 (zs.getD i 0)) := by
      by_cases e : i = 0
      · subst e; simpa [Addr.add] using hc
      · simpa [Addr.add, e] using hc
    have hw := hwz (zs.getD i 0) (by rw [List.getD_eq_getElem?_getD, List.getElem?_eq_getElem (by omega)]; simp)
    have hb : b < w.heap.size := by
      refine Decidable.byContradiction fun hn => ?_
      have hx : w.heap[b]? = none := by simp; omega
      simp [World.cell?, hx] at hc0
    have hbd := bounds_u8 hw
    exact ⟨b, off, _, rfl, hb, hc0, hbd.1, hbd.2⟩
theorem code_at {w wi : World} {a : Option Addr} {len : Nat} (h : Dr.Code w.heap.size w a len) (k : Below w.heap.size w wi) : Dr.Code wi.heap.size wi a len :=
  ⟨fun i hi => by
    obtain ⟨b, off, x, ea, hb, hc, r⟩ := h.cell i hi
    exact ⟨b, off, x, ea, Nat.lt_of_lt_of_le hb k.size, by rw [k.cell (by simpa using hb)]; exact hc, r⟩⟩
theorem on {W a b : World} (h : Below W.heap.size W a) (k : Below a.heap.size a b) : Below W.heap.size W b := h.trans (k.mono h.size)
set_option maxHeartbeats 2000000 in
theorem big_any (a : Option Addr) (len cap : Nat) (w : World) : Calls Try.prog 9 #[.slice a len cap] w fun e w' => e = .returned (.bool (decide (4096 < (len : Int)))) ∧ w' = w := by
  go_enter Try.func9, Try.ntmps9
  go_wp2
  go_ret
  exact ⟨rfl, rfl⟩
theorem joined_tame {A B J : List Rw} (hJ : toB J = (joinB (toB A) (toB B)).1) (hA : ∀ x ∈ A, x.1.size ≤ 41 ∧ x.2.1.size ≤ 41) (hB : ∀ x ∈ B, x.1.size ≤ 41 ∧ x.2.1.size ≤ 41) : Tame J :=
  ⟨by have : J.length ≤ 80 := by rw [← toB_length, hJ]; exact Bk.joinB_len _ _
      omega, fun x hx => by rcases joined_mem hJ hx with h | h; exact hA x h; exact hB x h⟩
theorem strs_form {w : World} {base n : Nat} {v : Value} {L : List ByteArray} (h : Nm.Own w base v L) (hn : L.length = n) : ∃ a cap, v = .slice a n cap ∧ Nm.Rd w a L := by
  subst hn
  obtain ⟨a, cap, e, _, _, r, _⟩ := h.form
  exact ⟨a, cap, e, r⟩
theorem tame_short {L : List Rw} (h : Tame L) : shortR L := fun i hi => h.at hi
set_option maxRecDepth 100000 in
set_option maxHeartbeats 2000000 in

theorem walk (a0 : Option Addr) (len0 cap0 : Nat) (z0 : List Int) (w : World) (w0 : IsRow .u8 w a0 len0 cap0 z0) :
    Calls Try.prog 4 #[.slice a0 len0 cap0] w fun e w' => e = .returned (.bool true) ∧ Below w.heap.size w w' := by
  have HC := hidIt (code_of w0)
  clear w0
  have cbig := big_any a0 len0 cap0
  by_cases hbig : 4096 < len0
  · rw [decide_eq_true (show (4096 : Int) < (len0 : Int) by omega)] at cbig
    have CBig := hidIt cbig
    clear cbig
    go_enter Try.func4, Try.ntmps4
    go_wp2_with (fail)
    refine (CBig.out _).mono ?_
    rintro e w1 ⟨rfl, hz⟩
    rw [hz]
    clear hz
    go_wp2_with (fail)
    go_ret
    exact ⟨rfl, Below.refl _ _⟩
  have hl : len0 ≤ 4096 := by omega
  rw [decide_eq_false (show ¬ (4096 : Int) < (len0 : Int) by omega)] at cbig
  have CBig := hidIt cbig
  clear cbig hbig
  have HB := hidIt (Below.refl w.heap.size w)
  go_enter Try.func4, Try.ntmps4
  go_wp2_with (fail)
  refine (CBig.out _).mono ?_
  rintro e w1 ⟨rfl, hz⟩
  rw [hz]
  clear hz CBig
  go_wp2_with (fail)
  refine (DrawWritten_any a0 len0 cap0 _ HC.out hl).mono ?_
  rintro e w2 ⟨vb, x, Lb, rfl, tb, sx, ob, kk⟩
  replace HB := hidIt (on HB.out kk)
  clear kk
  obtain ⟨xk, xv, xt, xn, xg⟩ := x
  simp only at sx
  have hx1 : xk.size ≤ 9223372036854775807 := by omega
  have hx2 : xv.size ≤ 9223372036854775807 := by omega
  have ka := (Below.refl w2.heap.size w2).alloc (Nat.le_refl _) (.cells #[.string xk, .string xv, .int .i64 xt, .int .i64 xn, .bool xg] 30)
  obtain ⟨a_b, c_b, ev, le_b, cm_b, rr, na_b, _⟩ := ob.form
  subst ev
  have R_b := hidIt rr
  clear rr
  have sb := tame_short tb
  have lb := tb.1
  have BE := hidIt (Bo.Box.new w2 #[.string xk, .string xv, .int .i64 xt, .int .i64 xn, .bool xg] 30)
  replace HB := hidIt (on HB.out ka)
  replace R_b := hidIt (R_b.out.kept ka)
  clear ka
  go_upto_region 4 with fail
  generalize hwz : w2.alloc (.cells #[.string xk, .string xv, .int .i64 xt, .int .i64 xn, .bool xg] 30) = wz at HB R_b BE ⊢
  clear hwz
  generalize w2.heap.size = g4 at *
  obtain ⟨J, hJ⟩ := joined_rows Lb [(xk, xv, xt, xn, xg)]
  have hJl : J.length ≤ 80 := by rw [← toB_length, hJ]; exact Bk.joinB_len _ _
  have CW : Hid (∀ W, Rd W a_b Lb → Calls Try.prog 23 #[.slice a_b Lb.length c_b, rv (xk, xv, xt, xn, xg)] W fun e w' => ∃ v, e = .returned (.tuple #[v, .bool (joinB (toB Lb) [toE (xk, xv, xt, xn, xg)]).2]) ∧ Own w' W.heap.size v J ∧ Below W.heap.size W w') := hidIt (fun W r => (impl_Written a_b c_b Lb (xk, xv, xt, xn, xg) W r le_b (by omega) sb hx1 hx2).mono (fun e w' ⟨v, K, he, hK, o, k⟩ => ⟨v, he, (toB_inj (hK.trans hJ.symm)) ▸ o, k⟩))
  have CS : Hid (∀ W, Rd W a_b Lb → Calls Try.prog 26 #[.slice a_b Lb.length c_b, rv (xk, xv, xt, xn, xg)] W fun e w' => ∃ v, e = .returned (.tuple #[v, .bool (joinB (toB Lb) [toE (xk, xv, xt, xn, xg)]).2]) ∧ Own w' W.heap.size v J ∧ Below W.heap.size W w') := hidIt (fun W r => (spec_Written a_b c_b Lb (xk, xv, xt, xn, xg) W r na_b (by omega) sb hx1 hx2).mono (fun e w' ⟨v, K, he, hK, o, k⟩ => ⟨v, he, (toB_inj (hK.trans hJ.symm)) ▸ o, k⟩))
  have HWR : Hid ((joinB (toB Lb) [toE (xk, xv, xt, xn, xg)]).2 = true → Wrote (toB Lb) (toE (xk, xv, xt, xn, xg)) (toB J)) := hidIt (fun h => by rw [show toB J = (joinB (toB Lb) [toE (xk, xv, xt, xn, xg)]).1 from hJ]; exact Bk.wrote h)
  have HNO : Hid ((joinB (toB Lb) [toE (xk, xv, xt, xn, xg)]).2 = false → J.length = 0) := hidIt (fun h => by rw [← toB_length, show toB J = (joinB (toB Lb) [toE (xk, xv, xt, xn, xg)]).1 from hJ, Bk.join_no h]; rfl)
  have hy1 : ∀ y ∈ [((xk, xv, xt, xn, xg) : Rw)], y.1.size ≤ 41 ∧ y.2.1.size ≤ 41 := fun y hy => by
    have e1 : y = (xk, xv, xt, xn, xg) := by simpa using hy
    rw [e1]
    exact sx
  have tJ := joined_tame hJ tb.2 hy1
  have sJ := tame_short tJ
  clear hJ hy1
  simp only [rv] at CW CS
  generalize (joinB (toB Lb) [toE (xk, xv, xt, xn, xg)]).2 = is at CW CS HWR HNO
  generalize hll_b : Lb.length = mb at *
  have HLb := hidIt hll_b
  clear hll_b
  generalize hll_w : J.length = mw at *
  have HLw := hidIt hll_w
  clear hll_w
  have f0 := BE.out.c 0 rfl
  have f1 := BE.out.c 1 rfl
  have f2 := BE.out.c 2 rfl
  have f3 := BE.out.c 3 rfl
  have f4 := BE.out.c 4 rfl
  go_wp2_with (fail)
  refine (CW.out _ R_b.out).mono ?_
  rintro e w3 ⟨vw, rfl, ow, kk⟩
  clear f0 f1 f2 f3 f4
  replace HB := hidIt (on HB.out kk)
  replace R_b := hidIt (R_b.out.kept kk)
  replace BE := hidIt (BE.out.kept kk)
  clear kk
  obtain ⟨a_w, c_w, ev, le_w, cm_w, rr⟩ := ow.formN HLw.out
  subst ev
  have R_w := hidIt rr
  clear rr
  clear ow CW
  go_wp2_with (fail)
  refine (DrawValueOf_any a0 len0 cap0 _ (code_at HC.out HB.out) hl).mono ?_
  rintro e w4 ⟨va, key, La, rfl, ta, sk, oa, kk⟩
  replace HB := hidIt (on HB.out kk)
  replace R_b := hidIt (R_b.out.kept kk)
  replace BE := hidIt (BE.out.kept kk)
  replace R_w := hidIt (R_w.out.kept kk)
  clear kk
  obtain ⟨a_a, c_a, ev, le_a, cm_a, rr, na_a, _⟩ := oa.form
  subst ev
  have R_a := hidIt rr
  clear rr
  clear oa
  have sa := tame_short ta
  have la := ta.1
  obtain ⟨u, hu⟩ : ∃ u : ByteArray, bs u = (valB (toB La) (bs key)).1 := ⟨⟨⟨(valB (toB La) (bs key)).1⟩⟩, rfl⟩
  have CV : Hid (∀ W, Rd W a_a La → Calls Try.prog 24 #[.slice a_a La.length c_a, .string key] W fun e w' => e = .returned (.tuple #[.string u, .bool (valB (toB La) (bs key)).2]) ∧ Below W.heap.size W w') := hidIt (fun W r => (impl_ValueOf a_a c_a La key W r (by omega) sa).mono (fun e w' ⟨z, he, hz, k⟩ => ⟨by rw [he, bs_inj (hz.trans hu.symm)], k⟩))
  have CVs : Hid (∀ W, Rd W a_a La → Calls Try.prog 30 #[.slice a_a La.length c_a, .string key] W fun e w' => e = .returned (.tuple #[.string u, .bool (valB (toB La) (bs key)).2]) ∧ Below W.heap.size W w') := hidIt (fun W r => (spec_ValueOf a_a c_a La key W r (by omega) sa).mono (fun e w' ⟨z, he, hz, k⟩ => ⟨by rw [he, bs_inj (hz.trans hu.symm)], k⟩))
  have CAa := hidIt (fun W (r : Rd W a_a La) => impl_Alive a_a c_a La W r (by omega) sa)
  have CHa := hidIt (fun W a c (r : Nm.Rd W a (aliveR La)) => hasText_any a c (aliveR La) key W r (by have := alive_len La; omega))
  rw [alive_bs, ← Bk.val_alive] at CHa
  generalize (valB (toB La) (bs key)).2 = th at CV CVs CHa
  have hth : (th != th) = false := by cases th <;> rfl
  have hus := eq_of u u
  rw [decide_eq_true rfl] at hus
  generalize hal_a : (aliveR La).length = qa at *
  have HQa := hidIt hal_a
  clear hal_a hu ta
  generalize hll_a : La.length = ma at *
  clear hll_a
  go_wp2_with (fail)
  refine (CV.out _ R_a.out).mono ?_
  rintro e w5 ⟨rfl, kk⟩
  replace HB := hidIt (on HB.out kk)
  replace R_b := hidIt (R_b.out.kept kk)
  replace BE := hidIt (BE.out.kept kk)
  replace R_w := hidIt (R_w.out.kept kk)
  replace R_a := hidIt (R_a.out.kept kk)
  clear kk
  go_wp2_with (fail)
  refine (DrawAlive_any a0 len0 cap0 _ (code_at HC.out HB.out) hl).mono ?_
  rintro e w6 ⟨vl, Ll, rfl, tl, ol, kk⟩
  replace HB := hidIt (on HB.out kk)
  replace R_b := hidIt (R_b.out.kept kk)
  replace BE := hidIt (BE.out.kept kk)
  replace R_w := hidIt (R_w.out.kept kk)
  replace R_a := hidIt (R_a.out.kept kk)
  clear kk
  obtain ⟨a_l, c_l, ev, le_l, cm_l, rr, na_l, _⟩ := ol.form
  subst ev
  have R_l := hidIt rr
  clear rr
  clear ol HC
  have sl := tame_short tl
  have ll := tl.1
  have CAl := hidIt (fun W (r : Rd W a_l Ll) => impl_Alive a_l c_l Ll W r (by omega) sl)
  have CAs := hidIt (fun W (r : Rd W a_l Ll) => spec_Alive a_l c_l Ll W r (by omega) sl)
  have CTl := hidIt (fun W a a' c c' (r : Nm.Rd W a (aliveR Ll)) (r' : Nm.Rd W a' (aliveR Ll)) => likeTexts_same a a' c c' (aliveR Ll) W r r' (by have := alive_len Ll; omega))
  generalize aliveR Ll = Al at CAl CAs CTl
  generalize hal_l : Al.length = ql at *
  have HQl := hidIt hal_l
  clear hal_l tl
  generalize hll_l : Ll.length = ml at *
  clear hll_l
  have hii : (is != is) = false := by cases is <;> rfl
  have f0 := BE.out.c 0 rfl
  have f1 := BE.out.c 1 rfl
  have f2 := BE.out.c 2 rfl
  have f3 := BE.out.c 3 rfl
  have f4 := BE.out.c 4 rfl
  go_wp2_with (fail)
  refine (CS.out _ R_b.out).mono ?_
  rintro e w7 ⟨vx, rfl, ox, kk⟩
  clear f0 f1 f2 f3 f4
  replace HB := hidIt (on HB.out kk)
  replace R_b := hidIt (R_b.out.kept kk)
  replace BE := hidIt (BE.out.kept kk)
  replace R_w := hidIt (R_w.out.kept kk)
  replace R_a := hidIt (R_a.out.kept kk)
  replace R_l := hidIt (R_l.out.kept kk)
  clear kk
  obtain ⟨a_x, c_x, ev, le_x, cm_x, rr⟩ := ox.formN HLw.out
  subst ev
  have R_x := hidIt rr
  clear rr
  clear ox CS
  have CLk := hidIt (fun W a a' c c' (r : Rd W a J) (r' : Rd W a' J) => likeBook_same a a' c c' J W r r' (by rw [HLw.out]; omega))
  rw [HLw.out] at CLk
  go_wp2_with (fail)
  refine (CLk.out _ a_w a_x c_w c_x R_w.out R_x.out).mono ?_
  rintro e w8 ⟨rfl, kk⟩
  replace HB := hidIt (on HB.out kk)
  replace R_b := hidIt (R_b.out.kept kk)
  replace BE := hidIt (BE.out.kept kk)
  replace R_w := hidIt (R_w.out.kept kk)
  replace R_a := hidIt (R_a.out.kept kk)
  replace R_l := hidIt (R_l.out.kept kk)
  replace R_x := hidIt (R_x.out.kept kk)
  clear kk
  clear R_x
  go_wp2_with (fail)
  refine (CAl.out _ R_l.out).mono ?_
  rintro e w9 ⟨vi, rfl, oi, kk⟩
  replace HB := hidIt (on HB.out kk)
  replace R_b := hidIt (R_b.out.kept kk)
  replace BE := hidIt (BE.out.kept kk)
  replace R_w := hidIt (R_w.out.kept kk)
  replace R_a := hidIt (R_a.out.kept kk)
  replace R_l := hidIt (R_l.out.kept kk)
  clear kk
  obtain ⟨a_i, c_i, ev, rr⟩ := strs_form oi HQl.out
  subst ev
  have R_i := hidIt rr
  clear rr
  clear oi
  go_wp2_with (fail)
  refine (CAs.out _ R_l.out).mono ?_
  rintro e w10 ⟨vj, rfl, oj, kk⟩
  replace HB := hidIt (on HB.out kk)
  replace R_b := hidIt (R_b.out.kept kk)
  replace BE := hidIt (BE.out.kept kk)
  replace R_w := hidIt (R_w.out.kept kk)
  replace R_a := hidIt (R_a.out.kept kk)
  replace R_l := hidIt (R_l.out.kept kk)
  replace R_i := hidIt (R_i.out.kept kk)
  clear kk
  obtain ⟨a_j, c_j, ev, rr⟩ := strs_form oj HQl.out
  subst ev
  have R_j := hidIt rr
  clear rr
  clear oj
  go_wp2_with (fail)
  refine (CTl.out _ a_i a_j c_i c_j R_i.out R_j.out).mono ?_
  rintro e w11 ⟨rfl, kk⟩
  replace HB := hidIt (on HB.out kk)
  replace R_b := hidIt (R_b.out.kept kk)
  replace BE := hidIt (BE.out.kept kk)
  replace R_w := hidIt (R_w.out.kept kk)
  replace R_a := hidIt (R_a.out.kept kk)
  replace R_l := hidIt (R_l.out.kept kk)
  replace R_i := hidIt (R_i.out.kept kk)
  replace R_j := hidIt (R_j.out.kept kk)
  clear kk
  clear R_i R_j R_l CAl CAs CTl HQl
  go_wp2_with (fail)
  refine (CVs.out _ R_a.out).mono ?_
  rintro e w12 ⟨rfl, kk⟩
  replace HB := hidIt (on HB.out kk)
  replace R_b := hidIt (R_b.out.kept kk)
  replace BE := hidIt (BE.out.kept kk)
  replace R_w := hidIt (R_w.out.kept kk)
  replace R_a := hidIt (R_a.out.kept kk)
  clear kk
  go_wp2_with (fail)
  refine (CAa.out _ R_a.out).mono ?_
  rintro e w13 ⟨vk, rfl, ok, kk⟩
  replace HB := hidIt (on HB.out kk)
  replace R_b := hidIt (R_b.out.kept kk)
  replace BE := hidIt (BE.out.kept kk)
  replace R_w := hidIt (R_w.out.kept kk)
  replace R_a := hidIt (R_a.out.kept kk)
  clear kk
  obtain ⟨a_k, c_k, ev, rr⟩ := strs_form ok HQa.out
  subst ev
  have R_k := hidIt rr
  clear rr
  clear ok
  go_wp2_with (fail)
  refine (CHa.out _ a_k c_k R_k.out).mono ?_
  rintro e w14 ⟨rfl, kk⟩
  replace HB := hidIt (on HB.out kk)
  replace R_b := hidIt (R_b.out.kept kk)
  replace BE := hidIt (BE.out.kept kk)
  replace R_w := hidIt (R_w.out.kept kk)
  replace R_a := hidIt (R_a.out.kept kk)
  replace R_k := hidIt (R_k.out.kept kk)
  clear kk
  clear R_k R_a CV CVs CAa CHa HQa
  cases is with
  | false =>
    have hj0 := HNO.out rfl
    subst hj0
    go_wp2_with (fail)
    go_ret
    exact ⟨rfl, HB.out⟩
  | true =>
    have HW := hidIt (HWR.out rfl)
    clear HWR HNO
    have CVw := hidIt (fun W s (r : Rd W a_w J) => impl_ValueOf a_w c_w J s W r (by rw [HLw.out]; omega) sJ)
    rw [HLw.out] at CVw
    have HWa : Hid (Wa w (w14.alloc (.cells ze 30)) a_b a_w Lb J g4 w14.heap.size (xk, xv, xt, xn, xg) 0) := hidIt (Wa.start HB.out R_b.out R_w.out BE.out)
    clear HB R_b R_w BE
    go_wp2_with (fail)
    generalize w14.alloc (.cells #[.string ⟨#[]⟩, .string ⟨#[]⟩, .int .i64 0, .int .i64 0, .bool false] 30) = wv at HWa ⊢
    generalize w14.heap.size = g16 at *
    go_loopw [17] (fun y wx => ∃ i : Nat, y = .int .i64 i ∧ i ≤ mb ∧ Hid (Wa w wx a_b a_w Lb J g4 g16 (xk, xv, xt, xn, xg) i)) (fun y _ => (mb - intOf y).toNat)
    case atStart => exact ⟨0, rfl, by omega, HWa⟩
    case round =>
      obtain ⟨i, rfl, hi, HA⟩ := hrel
      clear HWa
      by_cases hin : i < mb
      · have hin' : (i : Int) < (mb : Int) := by omega
        obtain ⟨bb, off, eab, c0, c1, c2, c3, c4⟩ := HA.out.rb.all (i := i) (by rw [HLb.out]; exact hin)
        subst eab
        have HM : Hid (toE (rat Lb i) ∈ toB Lb) := hidIt (List.mem_map.2 ⟨_, rat_mem (by rw [HLb.out]; exact hin), rfl⟩)
        have HP : Hid (bs (rat Lb i).1 = bs xk → ∀ w', Below wr.heap.size wr w' → Wa w (pu5 w' g16 (rat Lb i)) (some ⟨bb, off, none⟩) a_w Lb J g4 g16 (xk, xv, xt, xn, xg) (i + 1)) := hidIt (fun hk w' k => HA.out.put (by rw [HLb.out]; exact hin) hk k)
        have HN : Hid (bs (rat Lb i).1 ≠ bs xk → Wa w wr (some ⟨bb, off, none⟩) a_w Lb J g4 g16 (xk, xv, xt, xn, xg) (i + 1)) := hidIt (fun hk => HA.out.pass hk)
        obtain ⟨y, ey⟩ : ∃ y, rat Lb i = y := ⟨_, rfl⟩
        rw [ey] at c0 c1 c2 c3 c4 HM HP HN
        have HEY := hidIt ey
        clear ey
        obtain ⟨yk, yv, yt, yn, yg⟩ := y
        simp only at c0 c1 c2 c3 c4 HP HN
        have e0 := HA.out.be.c 0 rfl
        obtain ⟨z, bz, _⟩ := HA.out.bw
        have BZ := hidIt bz
        clear bz
        haveI := BelowBy.one wr
        have d0 := fun p : BelowBy wr => p.cell c0
        have d1 := fun p : BelowBy wr => p.cell c1
        have d2 := fun p : BelowBy wr => p.cell c2
        have d3 := fun p : BelowBy wr => p.cell c3
        have d4 := fun p : BelowBy wr => p.cell c4
        have q0 := fun p : BelowBy wr => p.cell e0
        have heq := eq_of yk xk
        clear c0 c1 c2 c3 c4 e0
        by_cases hk : bs yk = bs xk
        · rw [decide_eq_true hk] at heq
          have HP1 := hidIt (HP.out hk)
          clear HP HN hk HM
          go_wp2_with (fail)
          refine wp_region_below (by kernel_rfl) (by kernel_rfl) ?_
          repeat (go_big_quiet_step (fail))
          refine wpQuiet_nil ?_
          intro _ hw'
          obtain ⟨pq, rfl⟩ := hw'
          have BZ1 := BZ.out.kept pq.h
          have z0 := BZ1.c 0 rfl
          have z1 := BZ1.c 1 rfl
          have z2 := BZ1.c 2 rfl
          have z3 := BZ1.c 3 rfl
          have z4 := BZ1.c 4 rfl
          have fz := BZ1.fr
          have c0 := d0 pq
          have c1 := d1 pq
          have c2 := d2 pq
          have c3 := d3 pq
          have c4 := d4 pq
          have HP2 := hidIt (HP1.out _ pq.h)
          clear d0 d1 d2 d3 d4 q0 BZ1 BZ HA HP1
          generalize pq.world = wq at *
          simp only [pu5] at HP2
          go_wp2_with (fail)
          exact ⟨⟨i + 1, by simp, by omega, HP2⟩, by simp [intOf]; omega⟩
        · rw [decide_eq_false hk] at heq
          have HN1 := hidIt (HN.out hk)
          have HV : Hid (valB (toB J) (bs yk) = (bs yv, !yg)) := hidIt (HW.out.others _ HM.out hk)
          clear HP HN hk HA BZ HM
          go_wp2_with (fail)
          refine wp_region_below (by kernel_rfl) (by kernel_rfl) ?_
          repeat (go_big_quiet_step (fail))
          refine wpQuiet_nil ?_
          intro _ hw'
          obtain ⟨pq, rfl⟩ := hw'
          have c0 := d0 pq
          have HN2 := hidIt (HN1.out.low pq.h)
          clear d0 d1 d2 d3 d4 q0 HN1
          generalize pq.world = wq at *
          have CV1 := hidIt (CVw.out wq yk HN2.out.rj)
          rw [HV.out] at CV1
          simp only at CV1
          go_wp2_with (fail)
          refine CV1.out.mono ?_
          rintro e wu ⟨uu, rfl, huu, ku⟩
          have HN3 := hidIt (HN2.out.low ku)
          clear ku HN2 c0 CV1
          obtain ⟨bb', off', eab, c0, c1, c2, c3, c4⟩ := HN3.out.rb.all (i := i) (by rw [HLb.out]; exact hin)
          cases eab
          rw [HEY.out] at c0 c1 c2 c3 c4
          simp only at c0 c1 c2 c3 c4
          have e4 := eq_of uu yv
          rw [decide_eq_true huu] at e4
          clear huu
          cases yg with
          | true =>
            go_wp2_with (fail)
            exact ⟨⟨i + 1, by simp, by omega, HN3⟩, by simp [intOf]; omega⟩
          | false =>
            go_wp2_with (fail)
            exact ⟨⟨i + 1, by simp, by omega, HN3⟩, by simp [intOf]; omega⟩
      · have hin' : ¬ (i : Int) < (mb : Int) := by omega
        have him : i = mb := by omega
        subst him
        have e0 := HA.out.be.c 0 rfl
        go_wp2_with (fail)
        refine (CVw.out _ _ HA.out.rj).mono ?_
        rintro e wu ⟨uu, rfl, huu, ku⟩
        have HA1 := hidIt (HA.out.low ku)
        clear ku HA e0
        obtain ⟨z, bz, hz⟩ := HA1.out.bw
        have HF := hidIt (fin_of HW.out (by rw [HLb.out]; exact hz))
        clear hz
        obtain ⟨zk, zv, zt, zn, zg⟩ := z
        have z0 := bz.c 0 rfl
        have z1 := bz.c 1 rfl
        have z2 := bz.c 2 rfl
        have z3 := bz.c 3 rfl
        have z4 := bz.c 4 rfl
        have BZ := hidIt bz
        have t0 := HA1.out.be.c 0 rfl
        have t1 := HA1.out.be.c 1 rfl
        have t2 := HA1.out.be.c 2 rfl
        have t3 := HA1.out.be.c 3 rfl
        have t4 := HA1.out.be.c 4 rfl
        have HBx := hidIt HA1.out.hb
        have HBE := hidIt HA1.out.be
        clear bz
        have hxg : ((!xg) != xg) = true := by cases xg <;> rfl
        rcases HF.out with ⟨ez, hv⟩ | ⟨hz, ⟨hn, hJ⟩ | ⟨hn, hv⟩⟩
        · cases ez
          rw [hv] at huu ⊢
          simp only at huu
          have e4 := eq_of uu xv
          rw [decide_eq_true huu] at e4
          clear huu hv HF
          go_wp2_with (fail)
          go_ret
          exact ⟨rfl, HBx.out⟩
        · have CNw := hidIt (fun W => impl_Newer (xk, xv, xt, xn, xg) (zk, zv, zt, zn, zg) W)
          rw [hn] at CNw
          simp only [rv] at CNw
          have hzk : (zk.toList == []) = false := by rw [Go.Lib.toList_data]; cases hq : zk.data.toList with | nil => exact absurd hq hz | cons q r => rfl
          subst hJ
          have hm : mw = i := HLw.out.symm.trans HLb.out
          subst hm
          have HR1 := hidIt (And.intro HA1.out.rj HA1.out.rb)
          clear huu HF hz hn
          generalize (valB (toB J) (bs xk)).2 = tt
          go_wp2_with (fail)
          refine (CNw.out _).mono ?_
          rintro e wy ⟨rfl, ky⟩
          have HBy := hidIt (on HBx.out ky)
          have HR2 := hidIt (And.intro (HR1.out.1.kept ky) (HR1.out.2.kept ky))
          clear ky
          have CL2 := hidIt (CLk.out wy _ _ c_w c_b HR2.out.1 HR2.out.2)
          go_wp2_with (fail)
          refine CL2.out.mono ?_
          rintro e wt ⟨rfl, kt⟩
          have HBt := hidIt (on HBy.out kt)
          clear kt
          go_wp2_with (fail)
          go_ret
          exact ⟨rfl, HBt.out⟩
        · have CNw := hidIt (fun W => impl_Newer (xk, xv, xt, xn, xg) (zk, zv, zt, zn, zg) W)
          rw [hn] at CNw
          simp only [rv] at CNw
          have hzk : (zk.toList == []) = false := by rw [Go.Lib.toList_data]; cases hq : zk.data.toList with | nil => exact absurd hq hz | cons q r => rfl
          rw [hv] at huu ⊢
          simp only at huu
          have e4 := eq_of uu xv
          rw [decide_eq_true huu] at e4
          clear huu hv HF hz hn
          go_wp2_with (fail)
          refine (CNw.out _).mono ?_
          rintro e wy ⟨rfl, ky⟩
          have HBy := hidIt (on HBx.out ky)
          have BE2 := hidIt (HBE.out.kept ky)
          clear ky t0 t1 t2 t3 t4 z0 z1 z2 z3 z4
          have t1 := BE2.out.c 1 rfl
          have t4 := BE2.out.c 4 rfl
          go_wp2_with (fail)
          go_ret
          exact ⟨rfl, HBy.out⟩

set_option maxRecDepth 100000 in
theorem lifted (os : Os) (started : os.Started) (H : Type) (enc : TypeId × Value → H) :
    ReturnsInHanded {} Try.checked os 4 .any (Rows.fnBooksSpec.pre6 enc Try.prog Try.f4 Rows.fnBooksRow.domain false) (Rows.fnBooksSpec.post enc Try.prog Try.f4 false true false false) := by
  refine returnsInHanded_of_change (C := Try.checked) own started (by kernel_rfl) Try.func4
    (ChangeSpec.witness6 (enc := enc) (C := Try.checked) false ⟨#[], #[.slice none 0 0], []⟩ 8 (by kernel_rfl) (by kernel_rfl) (by kernel_rfl) (by kernel_rfl)) ?_
  intro W base args ds gs before hval0 hW hcnd _
  have hval : ∀ (j : Nat) t v, Try.f4.params[j]? = some t → args[j]? = some v → Value.okWide Try.prog W .any base t v := hval0
  have hW' := hW
  obtain ⟨p, q, hA0, hV, rfl, hfz, hnd⟩ := hW
  have hA : DataW.TrodAll enc Try.prog W 0 (fun _ => true) true Try.f4.params.toList args.toList ds p := hA0
  rw [Try.params4] at hA hval
  obtain ⟨v0, vs0, d0, ds0, p0, q0, hargs, rfl, rfl, h0, r0⟩ := trodAll_cons hA
  obtain ⟨rfl, rfl, rfl⟩ := trodAll_nil r0
  obtain rfl : args = #[v0] := by cases args; simp_all
  obtain ⟨rfl, rfl⟩ := trodVars_none hV
  have k0 := h0
  have lt0 : ∀ x ∈ p0, x.block < W.heap.size := by obtain ⟨m, hm⟩ := k0; exact DataW.trod_lt m _ _ _ hm
  obtain ⟨a0, len0, cap0, rfl⟩ := okWide_slice Try.underlying22 (hval 0 22 v0 rfl rfl)
  obtain ⟨z0, w0⟩ : ∃ zs, IsRow .u8 W a0 len0 cap0 zs := by
    obtain ⟨fuel, hf⟩ := h0
    rcases open_ints Try.underlying22 Try.underlying5 (by kernel_rfl) hf with ⟨hcs, _⟩ | ⟨x, l, c, zs, hcs, _, hl, hm, hz, _, hcell, hwz⟩
    · simp [Value.cells] at hcs
      obtain ⟨rfl, rfl, rfl⟩ := hcs
      exact ⟨[], .inl ⟨rfl, rfl, rfl, rfl⟩⟩
    · simp [Value.cells] at hcs
      obtain ⟨rfl, rfl, rfl⟩ := hcs
      exact ⟨zs, .inr ⟨_, rfl, hl, hm, by simpa using hz, hcell, hwz⟩⟩
  clear hA0 hval0
  refine (walk a0 len0 cap0 z0 W w0).mono fun e W' ⟨he, bel⟩ => ?_
  subst he
  exact ⟨_, rfl, _, _, _, [], _, [], hW', trodAll_mk1 (shut_bool Try.underlying4 _), (trodAll_cons_mk (Below.trod laidOut (by kernel_rfl) (of_decide_eq_true (by kernel_rfl)) k0 bel lt0) trodAll_mk0), rfl, bel.frame _, fun h => by cases h⟩

theorem over : Rows.fnBooksRow.holds Try.pinned (OpenSpec.ofChange Rows.fnBooksSpec) :=
  OpenClaim.holds_of_wide 4 Try.f4 rfl rfl rfl rfl rfl rfl rfl ⟨rfl, rfl, rfl, rfl, rfl⟩ rfl rfl rfl rfl rfl (by kernel_rfl) Try.func4 (by kernel_rfl)
    (of_decide_eq_true (by kernel_rfl)) (by unfold Func.isWrapper; first | (rw [if_pos (by decide +kernel)]; kernel_rfl) | (rw [if_neg (by decide +kernel)]; exact ⟨rfl, rfl⟩))
    (fun os started H enc _ => lifted os started H enc)
end Go.Proofs.Ytmhfaeddfibohaa.fnBooks
namespace Go.Proofs.Ytmhfaeddfibohaa
theorem fnBooks_holds : Rows.FnBooksSaid := fnBooks.over
#print axioms fnBooks_holds
end Go.Proofs.Ytmhfaeddfibohaa
