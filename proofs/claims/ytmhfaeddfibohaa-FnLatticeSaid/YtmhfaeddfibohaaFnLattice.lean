/-
  FnLattice answers true at every slice of bytes and leaves it as it was: Joined, Newer, BookOk and EntryOk of the program answer as the specification's at what is drawn; what is joined goes in any order, any number of times, and each of it was in one of both. No condition.
-/
import Derived.Test.YtmhfaeddfibohaaRows
import Derived.WalkKit
import Derived.ProofKit
import Derived.OpenShut
import Derived.ShutString
import Derived.ChangeOld
import Derived.Below
import Derived.Lib.SmallJoins
import Derived.Test.YtmhfaeddfibohaaHepP
import Derived.Test.YtmhfaeddfibohaaBokN
import Derived.Test.YtmhfaeddfibohaaBokY
import Derived.Deep.Cut
import Derived.Deep.CutRange
import Derived.Deep.LoopGhost
import Derived.Laws.StructEq
namespace Go.Proofs.Ytmhfaeddfibohaa.fnLattice
open Go.ChangeShapes Go.WideShapes Go.ChangeAt Go.RowKit Go.Joins
set_option linter.unusedVariables false

theorem own : ownKnob Try.prog.godebug = none := by kernel_rfl
theorem laidOut : laidOutB Try.prog = true := by kernel_rfl
/-- A row of integers that came in: nil, or cells at an address. -/
def IsRow (k : IntKind) (w : World) (a : Option Addr) (len cap : Nat) (zs : List Int) : Prop :=
  (a = none ∧ len = 0 ∧ cap = 0 ∧ zs = []) ∨
  ∃ x, a = some x ∧ len ≤ cap ∧ cap ≤ maxLen ∧ zs.length = cap ∧ (∀ i, i < zs.length → w.cell? (x.add i) = some (.int k (zs.getD i 0))) ∧ ∀ n ∈ zs, (Lit.int k n).wf = true
open En
open Go.Proofs.Ytmhfaeddfibohaa.Bk (joinB valB okBk okE newB aliveB Wrote)
open Go.Proofs.Ytmhfaeddfibohaa.Rc (BelowBy BelowBy.one wp_region_below calls_below calls_same)
theorem code_of {w : World} {a : Option Addr} {len cap : Nat} {zs : List Int} (h : IsRow .u8 w a len cap zs) : Dr.Code w.heap.size w a len := by
  refine ⟨fun i hi => ?_⟩
  rcases h with ⟨rfl, rfl, rfl, rfl⟩ | ⟨x, rfl, hl, hm, hz, hcell, hwz⟩
  · omega
  · have hc := hcell i (by omega)
    obtain ⟨b, off, spot⟩ := x
    have h00 := hcell 0 (by omega)
    have hspot : spot = none := by simpa [Addr.add] using World.cell?_spot h00
    subst hspot
    have hc0 : w.cell? ⟨b, off + i, none⟩ = some (.int .u8 (zs.getD i 0)) := by
      by_cases e : i = 0
      · subst e; simpa [Addr.add] using hc
      · simpa [Addr.add, e] using hc
    have hw := hwz (zs.getD i 0) (by rw [List.getD_eq_getElem?_getD, List.getElem?_eq_getElem (by omega)]; simp)
    have hb : b < w.heap.size := by
      refine Decidable.byContradiction fun hn => ?_
      have hx : w.heap[b]? = none := by simp; omega
      simp [World.cell?, hx] at hc0
    have hbd := bounds_u8 hw
    exact ⟨b, off, _, rfl, hb, hc0, hbd.1, hbd.2⟩
theorem code_at {w wi : World} {a : Option Addr} {len : Nat} (h : Dr.Code w.heap.size w a len) (k : Below w.heap.size w wi) : Dr.Code wi.heap.size wi a len :=
  ⟨fun i hi => by
    obtain ⟨b, off, x, ea, hb, hc, r⟩ := h.cell i hi
    exact ⟨b, off, x, ea, Nat.lt_of_lt_of_le hb k.size, by rw [k.cell (by simpa using hb)]; exact hc, r⟩⟩
theorem on {W a b : World} (h : Below W.heap.size W a) (k : Below a.heap.size a b) : Below W.heap.size W b := h.trans (k.mono h.size)
set_option maxHeartbeats 2000000 in
theorem big_any (a : Option Addr) (len cap : Nat) (w : World) : Calls Try.prog 9 #[.slice a len cap] w fun e w' => e = .returned (.bool (decide (4096 < (len : Int)))) ∧ w' = w := by
  go_enter Try.func9, Try.ntmps9
  go_wp2
  go_ret
  exact ⟨rfl, rfl⟩
theorem joined_tame {A B J : List Rw} (hJ : toB J = (joinB (toB A) (toB B)).1) (hA : ∀ x ∈ A, x.1.size ≤ 41 ∧ x.2.1.size ≤ 41) (hB : ∀ x ∈ B, x.1.size ≤ 41 ∧ x.2.1.size ≤ 41) : Tame J :=
  ⟨by have : J.length ≤ 80 := by rw [← toB_length, hJ]; exact Bk.joinB_len _ _
      omega, fun x hx => by rcases joined_mem hJ hx with h | h; exact hA x h; exact hB x h⟩
theorem strs_form {w : World} {base n : Nat} {v : Value} {L : List ByteArray} (h : Nm.Own w base v L) (hn : L.length = n) : ∃ a cap, v = .slice a n cap ∧ Nm.Rd w a L := by
  subst hn
  obtain ⟨a, cap, e, _, _, r, _⟩ := h.form
  exact ⟨a, cap, e, r⟩
theorem tame_short {L : List Rw} (h : Tame L) : shortR L := fun i hi => h.at hi
/-- What is kept while FnLattice's own loops go on. -/
structure Wl (w0 wx : World) (aj aa ab a1 a2 a3 : Option Addr) (J La Lb : List Rw) : Prop where
  hb : Below w0.heap.size w0 wx
  rj : Rd wx aj J
  ra : Rd wx aa La
  rb : Rd wx ab Lb
  r1 : Rd wx a1 J
  r2 : Rd wx a2 J
  r3 : Rd wx a3 La
theorem Wl.low {w0 wx w' : World} {aj aa ab a1 a2 a3 : Option Addr} {J La Lb : List Rw} (h : Wl w0 wx aj aa ab a1 a2 a3 J La Lb) (k : Below wx.heap.size wx w') : Wl w0 w' aj aa ab a1 a2 a3 J La Lb :=
  ⟨h.hb.trans (k.mono h.hb.size), h.rj.kept k, h.ra.kept k, h.rb.kept k, h.r1.kept k, h.r2.kept k, h.r3.kept k⟩
/-- What the law asks of two books that were joined. -/
structure Lat (A B C J K1 K2 K3 K4 K5 K6 : List Rw) (one two three : Bool) : Prop where
  ok : okBk (toB J) = true
  back : K1 = J
  once : K2 = J
  own : K3 = A
  assoc : one = true → two = true → three = true → K5 = K6
  mem : ∀ x ∈ J, x ∈ A ∨ x ∈ B
theorem lat_of {A B C J K1 K2 K3 K4 K5 K6 : List Rw} (h : (joinB (toB A) (toB B)).2 = true) (hJ : toB J = (joinB (toB A) (toB B)).1) (h1 : toB K1 = (joinB (toB B) (toB A)).1) (h2 : toB K2 = (joinB (toB J) (toB A)).1) (h3 : toB K3 = (joinB (toB A) (toB A)).1)
    (h4 : toB K4 = (joinB (toB B) (toB C)).1) (h5 : toB K5 = (joinB (toB J) (toB C)).1) (h6 : toB K6 = (joinB (toB A) (toB K4)).1) : Lat A B C J K1 K2 K3 K4 K5 K6 (joinB (toB B) (toB C)).2 (joinB (toB J) (toB C)).2 (joinB (toB A) (toB K4)).2 := by
  obtain ⟨oA, oB, oJ, j⟩ := Bk.join_ok h
  rw [← hJ] at oJ j
  have lJ := Bk.ok_len oJ
  have lA := Bk.ok_len oA
  have e1 := Bk.join_of oB oA j.comm
  rw [if_pos lJ] at e1
  have e2 := Bk.join_of oJ oA j.again
  rw [if_pos lJ] at e2
  have e3 := Bk.join_of oA oA (Bk.IsJoin.own (Bk.ok_ris oA))
  rw [if_pos lA] at e3
  refine ⟨oJ, toB_inj (by rw [h1, e1]), toB_inj (by rw [h2, e2]), toB_inj (by rw [h3, e3]), fun o1 o2 o3 => ?_, fun x hx => joined_mem hJ hx⟩
  obtain ⟨_, _, _, j4⟩ := Bk.join_ok o1
  obtain ⟨_, _, _, j5⟩ := Bk.join_ok o2
  obtain ⟨_, _, _, j6⟩ := Bk.join_ok o3
  rw [← h4] at j4
  rw [← h5] at j5
  rw [← h6] at j6
  exact toB_inj (Bk.IsJoin.assoc j j4 j5 j6)
theorem new_two (x y : Rw) : (newB (toE x) (toE y) = true ∧ newB (toE y) (toE x) = false) ∨ (newB (toE x) (toE y) = false ∧ newB (toE y) (toE x) = true) ∨ (newB (toE x) (toE y) = false ∧ newB (toE y) (toE x) = false ∧ x.2.2.1 = y.2.2.1 ∧ x.2.2.2.1 = y.2.2.2.1 ∧ x.2.2.2.2 = y.2.2.2.2 ∧ bs x.2.1 = bs y.2.1) := by
  cases h : newB (toE x) (toE y) with
  | true => exact .inl ⟨rfl, Bk.new_asymm h⟩
  | false =>
    cases k : newB (toE y) (toE x) with
    | true => exact .inr (.inl ⟨rfl, rfl⟩)
    | false =>
      obtain ⟨h1, h2, h3, h4⟩ := Bk.new_total h k
      exact .inr (.inr ⟨rfl, rfl, h1, h2, h3, h4⟩)
/-- Two Entries are one, or this is the first that differs. -/
theorem en_cases (y x : Rw) : (y = x) ∨ (y ≠ x ∧ ((bs y.1 ≠ bs x.1) ∨ (bs y.1 = bs x.1 ∧ bs y.2.1 ≠ bs x.2.1) ∨ (bs y.1 = bs x.1 ∧ bs y.2.1 = bs x.2.1 ∧ y.2.2.1 ≠ x.2.2.1) ∨ (bs y.1 = bs x.1 ∧ bs y.2.1 = bs x.2.1 ∧ y.2.2.1 = x.2.2.1 ∧ y.2.2.2.1 ≠ x.2.2.2.1) ∨ (bs y.1 = bs x.1 ∧ bs y.2.1 = bs x.2.1 ∧ y.2.2.1 = x.2.2.1 ∧ y.2.2.2.1 = x.2.2.2.1 ∧ y.2.2.2.2 ≠ x.2.2.2.2))) := by
  obtain ⟨y0, y1, y2, y3, y4⟩ := y
  obtain ⟨x0, x1, x2, x3, x4⟩ := x
  by_cases h0 : bs y0 = bs x0
  · by_cases h1 : bs y1 = bs x1
    · by_cases h2 : y2 = x2
      · by_cases h3 : y3 = x3
        · by_cases h4 : y4 = x4
          · exact .inl (by rw [bs_inj h0, bs_inj h1, h2, h3, h4])
          · exact .inr ⟨fun q => h4 (by simp only [Prod.mk.injEq] at q; exact q.2.2.2.2), .inr (.inr (.inr (.inr ⟨h0, h1, h2, h3, h4⟩)))⟩
        · exact .inr ⟨fun q => h3 (by simp only [Prod.mk.injEq] at q; exact q.2.2.2.1), .inr (.inr (.inr (.inl ⟨h0, h1, h2, h3⟩)))⟩
      · exact .inr ⟨fun q => h2 (by simp only [Prod.mk.injEq] at q; exact q.2.2.1), .inr (.inr (.inl ⟨h0, h1, h2⟩))⟩
    · exact .inr ⟨fun q => h1 (by simp only [Prod.mk.injEq] at q; rw [q.2.1]), .inr (.inl ⟨h0, h1⟩)⟩
  · exact .inr ⟨fun q => h0 (by simp only [Prod.mk.injEq] at q; rw [q.1]), .inl h0⟩
/-- One list among the first k of which x is not. -/
def Not1 (L : List Rw) (k : Nat) (x : Rw) : Prop := ∀ q, q < k → rat L q ≠ x
theorem Not1.more {L : List Rw} {k : Nat} {x : Rw} (h : Not1 L k x) (hk : rat L k ≠ x) : Not1 L (k + 1) x := fun q hq => by
  rcases Nat.lt_succ_iff_lt_or_eq.1 hq with r | r
  · exact h q r
  · rw [r]; exact hk
theorem Not1.all {L : List Rw} {x : Rw} (h : Not1 L L.length x) : x ∉ L := fun hm => by
  obtain ⟨i, hi, e⟩ := List.mem_iff_getElem.1 hm
  exact h i hi (by rw [rat_at hi]; exact e)
set_option maxRecDepth 100000 in
set_option maxHeartbeats 16000000 in

theorem walk (a0 : Option Addr) (len0 cap0 : Nat) (z0 : List Int) (w : World) (w0 : IsRow .u8 w a0 len0 cap0 z0) :
    Calls Try.prog 3 #[.slice a0 len0 cap0] w fun e w' => e = .returned (.bool true) ∧ Below w.heap.size w w' := by
  have HC := hidIt (code_of w0)
  clear w0
  have cbig := big_any a0 len0 cap0
  by_cases hbig : 4096 < len0
  · rw [decide_eq_true (show (4096 : Int) < (len0 : Int) by omega)] at cbig
    have CBig := hidIt cbig
    clear cbig
    go_enter Try.func3, Try.ntmps3
    go_wp2_with (fail)
    refine (CBig.out _).mono ?_
    rintro e w1 ⟨rfl, hz⟩
    rw [hz]
    clear hz
    go_wp2_with (fail)
    go_ret
    exact ⟨rfl, Below.refl _ _⟩
  have hl : len0 ≤ 4096 := by omega
  rw [decide_eq_false (show ¬ (4096 : Int) < (len0 : Int) by omega)] at cbig
  have CBig := hidIt cbig
  clear cbig hbig
  have HB := hidIt (Below.refl w.heap.size w)
  go_enter Try.func3, Try.ntmps3
  go_wp2_with (fail)
  refine (CBig.out _).mono ?_
  rintro e w1 ⟨rfl, hz⟩
  rw [hz]
  clear hz CBig
  go_wp2_with (fail)
  refine (DrawJoined_any a0 len0 cap0 _ HC.out hl).mono ?_
  rintro e w2 ⟨va, vb, La, Lb, rfl, ta, tb, oa, ob, kk⟩
  replace HB := hidIt (on HB.out kk)
  clear kk
  obtain ⟨a_a, c_a, ev, le_a, cm_a, rr, na_a, _⟩ := oa.form
  subst ev
  have R_a := hidIt rr
  clear rr
  obtain ⟨a_b, c_b, ev, le_b, cm_b, rr, na_b, _⟩ := ob.form
  subst ev
  have R_b := hidIt rr
  clear rr
  clear oa ob
  have sa := tame_short ta
  have la := ta.1
  have sb := tame_short tb
  have lb := tb.1
  obtain ⟨J, hJ⟩ := joined_rows La Lb
  have hJl : J.length ≤ 80 := by rw [← toB_length, hJ]; exact Bk.joinB_len _ _
  have tJ := joined_tame hJ ta.2 tb.2
  have sJ := tame_short tJ
  have CJ : Hid (∀ W, Rd W a_a La → Rd W a_b Lb → Calls Try.prog 11 #[.slice a_a La.length c_a, .slice a_b Lb.length c_b] W fun e w' => ∃ v, e = .returned (.tuple #[v, .bool (joinB (toB La) (toB Lb)).2]) ∧ Own w' W.heap.size v J ∧ Below W.heap.size W w') := hidIt (fun W r r' => (impl_Joined a_a a_b c_a c_b La Lb W r r' (le_a) (le_b) (by omega) (by omega) (by assumption) (by assumption)).mono (fun e w' ⟨v, K', he, hK, o, k⟩ => ⟨v, he, (toB_inj (hK.trans hJ.symm)) ▸ o, k⟩))
  have CS : Hid (∀ W, Rd W a_a La → Rd W a_b Lb → Calls Try.prog 13 #[.slice a_a La.length c_a, .slice a_b Lb.length c_b] W fun e w' => ∃ v, e = .returned (.tuple #[v, .bool (joinB (toB La) (toB Lb)).2]) ∧ Own w' W.heap.size v J ∧ Below W.heap.size W w') := hidIt (fun W r r' => (spec_Joined a_a a_b c_a c_b La Lb W r r' na_a (by omega) (by omega) (by assumption) (by assumption)).mono (fun e w' ⟨v, K', he, hK, o, k⟩ => ⟨v, he, (toB_inj (hK.trans hJ.symm)) ▸ o, k⟩))
  have HNO : Hid ((joinB (toB La) (toB Lb)).2 = false → J.length = 0) := hidIt (fun h => by rw [← toB_length, hJ, Bk.join_no h]; rfl)
  obtain ⟨is, his⟩ : ∃ is, (joinB (toB La) (toB Lb)).2 = is := ⟨_, rfl⟩
  rw [his] at CJ CS HNO
  have HIS := hidIt his
  have HJ := hidIt hJ
  clear his hJ
  have hii : (is != is) = false := by cases is <;> rfl
  go_wp2_with (fail)
  refine (CJ.out _ R_a.out R_b.out).mono ?_
  rintro e w3 ⟨vj, rfl, oj, kk⟩
  replace HB := hidIt (on HB.out kk)
  replace R_a := hidIt (R_a.out.kept kk)
  replace R_b := hidIt (R_b.out.kept kk)
  clear kk
  obtain ⟨a_j, c_j, ev, le_j, cm_j, rr, na_j, _⟩ := oj.form
  subst ev
  have R_j := hidIt rr
  clear rr
  clear oj CJ
  go_wp2_with (fail)
  refine (DrawNewer_any a0 len0 cap0 _ (code_at HC.out HB.out) hl).mono ?_
  rintro e w4 ⟨x, y, rfl, sx, sy, kk⟩
  replace HB := hidIt (on HB.out kk)
  replace R_a := hidIt (R_a.out.kept kk)
  replace R_b := hidIt (R_b.out.kept kk)
  replace R_j := hidIt (R_j.out.kept kk)
  clear kk
  obtain ⟨xk, xv, xt, xn, xg⟩ := x
  obtain ⟨yk, yv, yt, yn, yg⟩ := y
  simp only at sx sy
  have NT := hidIt (new_two (xk, xv, xt, xn, xg) (yk, yv, yt, yn, yg))
  have CNx := hidIt (fun W => impl_Newer (xk, xv, xt, xn, xg) (yk, yv, yt, yn, yg) W)
  have CNy := hidIt (fun W => impl_Newer (yk, yv, yt, yn, yg) (xk, xv, xt, xn, xg) W)
  have CNs := hidIt (fun W => spec_Newer (xk, xv, xt, xn, xg) (yk, yv, yt, yn, yg) W)
  have CEi := hidIt (fun W => impl_EntryOk (xk, xv, xt, xn, xg) W (by simp only; omega) (by simp only; omega))
  have CEs := hidIt (fun W => spec_EntryOk (xk, xv, xt, xn, xg) W (by simp only; omega) (by simp only; omega))
  generalize newB (toE (xk, xv, xt, xn, xg)) (toE (yk, yv, yt, yn, yg)) = n1 at NT CNx CNs
  generalize newB (toE (yk, yv, yt, yn, yg)) (toE (xk, xv, xt, xn, xg)) = n2 at NT CNy
  generalize okE (toE (xk, xv, xt, xn, xg)) = ke at CEi CEs
  simp only [rv] at CNx CNy CNs CEi CEs
  have hn1 : (n1 != n1) = false := by cases n1 <;> rfl
  have hke : (ke != ke) = false := by cases ke <;> rfl
  clear sx sy
  have ka := (Below.refl w4.heap.size w4).alloc (Nat.le_refl _) (.cells #[.string xk, .string xv, .int .i64 xt, .int .i64 xn, .bool xg] 30)
  have kb := ka.alloc (by simp) (.cells #[.string yk, .string yv, .int .i64 yt, .int .i64 yn, .bool yg] 30)
  have BX := hidIt ((Bo.Box.new w4 #[.string xk, .string xv, .int .i64 xt, .int .i64 xn, .bool xg] 30).alloc (.cells #[.string yk, .string yv, .int .i64 yt, .int .i64 yn, .bool yg] 30))
  have BY : Hid (Bo.Box ((w4.alloc (.cells #[.string xk, .string xv, .int .i64 xt, .int .i64 xn, .bool xg] 30)).alloc (.cells #[.string yk, .string yv, .int .i64 yt, .int .i64 yn, .bool yg] 30)) (w4.heap.size + 1) #[.string yk, .string yv, .int .i64 yt, .int .i64 yn, .bool yg]) := hidIt (Bo.Box.newAt (by simp))
  clear ka
  replace HB := hidIt (on HB.out kb)
  replace R_a := hidIt (R_a.out.kept kb)
  replace R_b := hidIt (R_b.out.kept kb)
  replace R_j := hidIt (R_j.out.kept kb)
  clear kb
  go_upto_region 6 with fail
  generalize (w4.alloc (.cells #[.string xk, .string xv, .int .i64 xt, .int .i64 xn, .bool xg] 30)).alloc (.cells #[.string yk, .string yv, .int .i64 yt, .int .i64 yn, .bool yg] 30) = wz at *
  generalize w4.heap.size + 1 = g8 at *
  generalize w4.heap.size = g7 at *
  go_wp2_with (fail)
  refine (CS.out _ R_a.out R_b.out).mono ?_
  rintro e w5 ⟨vz, rfl, oz, kk⟩
  replace HB := hidIt (on HB.out kk)
  replace R_a := hidIt (R_a.out.kept kk)
  replace R_b := hidIt (R_b.out.kept kk)
  replace R_j := hidIt (R_j.out.kept kk)
  replace BX := hidIt (BX.out.kept kk)
  replace BY := hidIt (BY.out.kept kk)
  clear kk
  obtain ⟨a_z, c_z, ev, le_z, cm_z, rr, na_z, _⟩ := oz.form
  subst ev
  have R_z := hidIt rr
  clear rr
  clear oz CS
  have CLk := hidIt (fun W a a' c c' (r : Rd W a J) (r' : Rd W a' J) => likeBook_same a a' c c' J W r r' (by omega))
  have CBi := hidIt (fun W (r : Rd W a_a La) => impl_BookOk a_a c_a La W r (by omega) sa)
  have CBs := hidIt (fun W (r : Rd W a_a La) => spec_BookOk a_a c_a La W r (by omega) sa)
  generalize okBk (toB La) = ka at CBi CBs
  have hka : (ka != ka) = false := by cases ka <;> rfl
  haveI := BelowBy.one w5
  have P1 := hidIt (fun p : BelowBy w5 => CLk.out p.world a_j a_z c_j c_z (R_j.out.kept p.h) (R_z.out.kept p.h))
  have P2 := hidIt (fun p : BelowBy w5 => CBi.out p.world (R_a.out.kept p.h))
  have P3 := hidIt (fun p : BelowBy w5 => CBs.out p.world (R_a.out.kept p.h))
  have x0 := fun p : BelowBy w5 => p.cell (BX.out.c 0 rfl)
  have x1 := fun p : BelowBy w5 => p.cell (BX.out.c 1 rfl)
  have x2 := fun p : BelowBy w5 => p.cell (BX.out.c 2 rfl)
  have x3 := fun p : BelowBy w5 => p.cell (BX.out.c 3 rfl)
  have x4 := fun p : BelowBy w5 => p.cell (BX.out.c 4 rfl)
  have y0 := fun p : BelowBy w5 => p.cell (BY.out.c 0 rfl)
  have y1 := fun p : BelowBy w5 => p.cell (BY.out.c 1 rfl)
  have y2 := fun p : BelowBy w5 => p.cell (BY.out.c 2 rfl)
  have y3 := fun p : BelowBy w5 => p.cell (BY.out.c 3 rfl)
  have y4 := fun p : BelowBy w5 => p.cell (BY.out.c 4 rfl)
  go_wp2_with (fail)
  refine wp_region_below (by kernel_rfl) (by kernel_rfl) ?_
  repeat (go_big_quiet_step (first | (go_at_call 14; refine calls_below (P1.out _)) | (go_at_call 15; refine calls_below (CNx.out _)) | (go_at_call 16; refine calls_below (CNs.out _)) | (go_at_call 17; refine calls_below (P2.out _)) | (go_at_call 18; refine calls_below (P3.out _)) | (go_at_call 19; refine calls_below (CEi.out _)) | (go_at_call 20; refine calls_below (CEs.out _))))
  refine wpQuiet_nil ?_
  intro _ hw'
  obtain ⟨pq, rfl⟩ := hw'
  have kk := pq.h
  generalize pq.world = wp at kk ⊢
  clear x0 x1 x2 x3 x4 y0 y1 y2 y3 y4 P1 P2 P3 CBi CBs CNs CEi CEs
  clear R_z
  replace HB := hidIt (on HB.out kk)
  replace R_a := hidIt (R_a.out.kept kk)
  replace R_b := hidIt (R_b.out.kept kk)
  replace R_j := hidIt (R_j.out.kept kk)
  replace BX := hidIt (BX.out.kept kk)
  replace BY := hidIt (BY.out.kept kk)
  clear kk
  go_upto_region 9 with fail
  go_cut [132] from 85 to 131 (fun s132 wq => s132 = .bool false ∧ Hid (Below w.heap.size w wq ∧ Rd wq a_a La ∧ Rd wq a_b Lb ∧ Rd wq a_j J))
  case first =>
    rcases NT.out with ⟨e1, e2⟩ | ⟨e1, e2⟩ | ⟨e1, e2, e3, e4, e5, e6⟩
    · subst e1 e2
      clear NT
      have x0 := BX.out.c 0 rfl
      have x1 := BX.out.c 1 rfl
      have x2 := BX.out.c 2 rfl
      have x3 := BX.out.c 3 rfl
      have x4 := BX.out.c 4 rfl
      have y0 := BY.out.c 0 rfl
      have y1 := BY.out.c 1 rfl
      have y2 := BY.out.c 2 rfl
      have y3 := BY.out.c 3 rfl
      have y4 := BY.out.c 4 rfl
      go_wp2_with (fail)
      refine (CNx.out _).mono ?_
      rintro e w6 ⟨rfl, kk⟩
      clear x0 x1 x2 x3 x4 y0 y1 y2 y3 y4
      replace HB := hidIt (on HB.out kk)
      replace R_a := hidIt (R_a.out.kept kk)
      replace R_b := hidIt (R_b.out.kept kk)
      replace R_j := hidIt (R_j.out.kept kk)
      replace BX := hidIt (BX.out.kept kk)
      replace BY := hidIt (BY.out.kept kk)
      clear kk
      have x0 := BX.out.c 0 rfl
      have x1 := BX.out.c 1 rfl
      have x2 := BX.out.c 2 rfl
      have x3 := BX.out.c 3 rfl
      have x4 := BX.out.c 4 rfl
      have y0 := BY.out.c 0 rfl
      have y1 := BY.out.c 1 rfl
      have y2 := BY.out.c 2 rfl
      have y3 := BY.out.c 3 rfl
      have y4 := BY.out.c 4 rfl
      go_wp2_with (fail)
      refine (CNy.out _).mono ?_
      rintro e w7 ⟨rfl, kk⟩
      clear x0 x1 x2 x3 x4 y0 y1 y2 y3 y4
      replace HB := hidIt (on HB.out kk)
      replace R_a := hidIt (R_a.out.kept kk)
      replace R_b := hidIt (R_b.out.kept kk)
      replace R_j := hidIt (R_j.out.kept kk)
      replace BX := hidIt (BX.out.kept kk)
      replace BY := hidIt (BY.out.kept kk)
      clear kk
      have x0 := BX.out.c 0 rfl
      have x1 := BX.out.c 1 rfl
      have x2 := BX.out.c 2 rfl
      have x3 := BX.out.c 3 rfl
      have x4 := BX.out.c 4 rfl
      have y0 := BY.out.c 0 rfl
      have y1 := BY.out.c 1 rfl
      have y2 := BY.out.c 2 rfl
      have y3 := BY.out.c 3 rfl
      have y4 := BY.out.c 4 rfl
      go_wp2_with (fail)
      refine (CNx.out _).mono ?_
      rintro e w8 ⟨rfl, kk⟩
      clear x0 x1 x2 x3 x4 y0 y1 y2 y3 y4
      replace HB := hidIt (on HB.out kk)
      replace R_a := hidIt (R_a.out.kept kk)
      replace R_b := hidIt (R_b.out.kept kk)
      replace R_j := hidIt (R_j.out.kept kk)
      replace BX := hidIt (BX.out.kept kk)
      replace BY := hidIt (BY.out.kept kk)
      clear kk
      have x0 := BX.out.c 0 rfl
      have x1 := BX.out.c 1 rfl
      have x2 := BX.out.c 2 rfl
      have x3 := BX.out.c 3 rfl
      have x4 := BX.out.c 4 rfl
      have y0 := BY.out.c 0 rfl
      have y1 := BY.out.c 1 rfl
      have y2 := BY.out.c 2 rfl
      have y3 := BY.out.c 3 rfl
      have y4 := BY.out.c 4 rfl
      go_wp2_with (fail)
      go_meet
      case rel => exact ⟨rfl, hidIt ⟨HB.out, R_a.out, R_b.out, R_j.out⟩⟩
    · subst e1 e2
      clear NT
      have x0 := BX.out.c 0 rfl
      have x1 := BX.out.c 1 rfl
      have x2 := BX.out.c 2 rfl
      have x3 := BX.out.c 3 rfl
      have x4 := BX.out.c 4 rfl
      have y0 := BY.out.c 0 rfl
      have y1 := BY.out.c 1 rfl
      have y2 := BY.out.c 2 rfl
      have y3 := BY.out.c 3 rfl
      have y4 := BY.out.c 4 rfl
      go_wp2_with (fail)
      refine (CNx.out _).mono ?_
      rintro e w9 ⟨rfl, kk⟩
      clear x0 x1 x2 x3 x4 y0 y1 y2 y3 y4
      replace HB := hidIt (on HB.out kk)
      replace R_a := hidIt (R_a.out.kept kk)
      replace R_b := hidIt (R_b.out.kept kk)
      replace R_j := hidIt (R_j.out.kept kk)
      replace BX := hidIt (BX.out.kept kk)
      replace BY := hidIt (BY.out.kept kk)
      clear kk
      have x0 := BX.out.c 0 rfl
      have x1 := BX.out.c 1 rfl
      have x2 := BX.out.c 2 rfl
      have x3 := BX.out.c 3 rfl
      have x4 := BX.out.c 4 rfl
      have y0 := BY.out.c 0 rfl
      have y1 := BY.out.c 1 rfl
      have y2 := BY.out.c 2 rfl
      have y3 := BY.out.c 3 rfl
      have y4 := BY.out.c 4 rfl
      go_wp2_with (fail)
      refine (CNx.out _).mono ?_
      rintro e w10 ⟨rfl, kk⟩
      clear x0 x1 x2 x3 x4 y0 y1 y2 y3 y4
      replace HB := hidIt (on HB.out kk)
      replace R_a := hidIt (R_a.out.kept kk)
      replace R_b := hidIt (R_b.out.kept kk)
      replace R_j := hidIt (R_j.out.kept kk)
      replace BX := hidIt (BX.out.kept kk)
      replace BY := hidIt (BY.out.kept kk)
      clear kk
      have x0 := BX.out.c 0 rfl
      have x1 := BX.out.c 1 rfl
      have x2 := BX.out.c 2 rfl
      have x3 := BX.out.c 3 rfl
      have x4 := BX.out.c 4 rfl
      have y0 := BY.out.c 0 rfl
      have y1 := BY.out.c 1 rfl
      have y2 := BY.out.c 2 rfl
      have y3 := BY.out.c 3 rfl
      have y4 := BY.out.c 4 rfl
      go_wp2_with (fail)
      refine (CNy.out _).mono ?_
      rintro e w11 ⟨rfl, kk⟩
      clear x0 x1 x2 x3 x4 y0 y1 y2 y3 y4
      replace HB := hidIt (on HB.out kk)
      replace R_a := hidIt (R_a.out.kept kk)
      replace R_b := hidIt (R_b.out.kept kk)
      replace R_j := hidIt (R_j.out.kept kk)
      replace BX := hidIt (BX.out.kept kk)
      replace BY := hidIt (BY.out.kept kk)
      clear kk
      have x0 := BX.out.c 0 rfl
      have x1 := BX.out.c 1 rfl
      have x2 := BX.out.c 2 rfl
      have x3 := BX.out.c 3 rfl
      have x4 := BX.out.c 4 rfl
      have y0 := BY.out.c 0 rfl
      have y1 := BY.out.c 1 rfl
      have y2 := BY.out.c 2 rfl
      have y3 := BY.out.c 3 rfl
      have y4 := BY.out.c 4 rfl
      go_wp2_with (fail)
      go_meet
      case rel => exact ⟨rfl, hidIt ⟨HB.out, R_a.out, R_b.out, R_j.out⟩⟩
    · subst e1 e2 e3 e4 e5
      clear NT
      have x0 := BX.out.c 0 rfl
      have x1 := BX.out.c 1 rfl
      have x2 := BX.out.c 2 rfl
      have x3 := BX.out.c 3 rfl
      have x4 := BX.out.c 4 rfl
      have y0 := BY.out.c 0 rfl
      have y1 := BY.out.c 1 rfl
      have y2 := BY.out.c 2 rfl
      have y3 := BY.out.c 3 rfl
      have y4 := BY.out.c 4 rfl
      have hv := eq_of xv yv
      rw [decide_eq_true e6] at hv
      have h1 : (xt != xt) = false := by simp
      have h2 : (xn != xn) = false := by simp
      have h3 : (xg != xg) = false := by cases xg <;> rfl
      have h4 : (xg == xg) = true := by cases xg <;> rfl
      clear e6
      go_wp2_with (fail)
      refine (CNx.out _).mono ?_
      rintro e w12 ⟨rfl, kk⟩
      clear x0 x1 x2 x3 x4 y0 y1 y2 y3 y4
      replace HB := hidIt (on HB.out kk)
      replace R_a := hidIt (R_a.out.kept kk)
      replace R_b := hidIt (R_b.out.kept kk)
      replace R_j := hidIt (R_j.out.kept kk)
      replace BX := hidIt (BX.out.kept kk)
      replace BY := hidIt (BY.out.kept kk)
      clear kk
      have x0 := BX.out.c 0 rfl
      have x1 := BX.out.c 1 rfl
      have x2 := BX.out.c 2 rfl
      have x3 := BX.out.c 3 rfl
      have x4 := BX.out.c 4 rfl
      have y0 := BY.out.c 0 rfl
      have y1 := BY.out.c 1 rfl
      have y2 := BY.out.c 2 rfl
      have y3 := BY.out.c 3 rfl
      have y4 := BY.out.c 4 rfl
      go_wp2_with (fail)
      refine (CNx.out _).mono ?_
      rintro e w13 ⟨rfl, kk⟩
      clear x0 x1 x2 x3 x4 y0 y1 y2 y3 y4
      replace HB := hidIt (on HB.out kk)
      replace R_a := hidIt (R_a.out.kept kk)
      replace R_b := hidIt (R_b.out.kept kk)
      replace R_j := hidIt (R_j.out.kept kk)
      replace BX := hidIt (BX.out.kept kk)
      replace BY := hidIt (BY.out.kept kk)
      clear kk
      have x0 := BX.out.c 0 rfl
      have x1 := BX.out.c 1 rfl
      have x2 := BX.out.c 2 rfl
      have x3 := BX.out.c 3 rfl
      have x4 := BX.out.c 4 rfl
      have y0 := BY.out.c 0 rfl
      have y1 := BY.out.c 1 rfl
      have y2 := BY.out.c 2 rfl
      have y3 := BY.out.c 3 rfl
      have y4 := BY.out.c 4 rfl
      go_wp2_with (fail)
      refine (CNy.out _).mono ?_
      rintro e w14 ⟨rfl, kk⟩
      clear x0 x1 x2 x3 x4 y0 y1 y2 y3 y4
      replace HB := hidIt (on HB.out kk)
      replace R_a := hidIt (R_a.out.kept kk)
      replace R_b := hidIt (R_b.out.kept kk)
      replace R_j := hidIt (R_j.out.kept kk)
      replace BX := hidIt (BX.out.kept kk)
      replace BY := hidIt (BY.out.kept kk)
      clear kk
      have x0 := BX.out.c 0 rfl
      have x1 := BX.out.c 1 rfl
      have x2 := BX.out.c 2 rfl
      have x3 := BX.out.c 3 rfl
      have x4 := BX.out.c 4 rfl
      have y0 := BY.out.c 0 rfl
      have y1 := BY.out.c 1 rfl
      have y2 := BY.out.c 2 rfl
      have y3 := BY.out.c 3 rfl
      have y4 := BY.out.c 4 rfl
      go_wp2_with (fail)
      go_meet
      case rel => exact ⟨rfl, hidIt ⟨HB.out, R_a.out, R_b.out, R_j.out⟩⟩
  case rest =>
    obtain ⟨rfl, hh⟩ := hcut
    have HB := hidIt hh.out.1
    have R_a := hidIt hh.out.2.1
    have R_b := hidIt hh.out.2.2.1
    have R_j := hidIt hh.out.2.2.2
    clear hh BX BY NT CNx CNy
    cases is with
    | false =>
      have hj0 := HNO.out rfl
      go_wp2_with (fail)
      go_ret
      exact ⟨by simp, HB.out⟩
    | true =>
      clear HNO
      obtain ⟨K1, hK1⟩ := joined_rows Lb La
      have lK1 : K1.length ≤ 80 := by rw [← toB_length, hK1]; exact Bk.joinB_len _ _
      have tK1 := joined_tame hK1 tb.2 ta.2
      have sK1 := tame_short tK1
      obtain ⟨K2, hK2⟩ := joined_rows J La
      have lK2 : K2.length ≤ 80 := by rw [← toB_length, hK2]; exact Bk.joinB_len _ _
      have tK2 := joined_tame hK2 tJ.2 ta.2
      have sK2 := tame_short tK2
      obtain ⟨K3, hK3⟩ := joined_rows La La
      have lK3 : K3.length ≤ 80 := by rw [← toB_length, hK3]; exact Bk.joinB_len _ _
      have tK3 := joined_tame hK3 ta.2 ta.2
      have sK3 := tame_short tK3
      have C1 : Hid (∀ W, Rd W a_b Lb → Rd W a_a La → Calls Try.prog 11 #[.slice a_b Lb.length c_b, .slice a_a La.length c_a] W fun e w' => ∃ v, e = .returned (.tuple #[v, .bool (joinB (toB Lb) (toB La)).2]) ∧ Own w' W.heap.size v K1 ∧ Below W.heap.size W w') := hidIt (fun W r r' => (impl_Joined a_b a_a c_b c_a Lb La W r r' (le_b) (le_a) (by omega) (by omega) (by assumption) (by assumption)).mono (fun e w' ⟨v, K', he, hK, o, k⟩ => ⟨v, he, (toB_inj (hK.trans hK1.symm)) ▸ o, k⟩))
      have C2 : Hid (∀ W, Rd W a_j J → Rd W a_a La → Calls Try.prog 11 #[.slice a_j J.length c_j, .slice a_a La.length c_a] W fun e w' => ∃ v, e = .returned (.tuple #[v, .bool (joinB (toB J) (toB La)).2]) ∧ Own w' W.heap.size v K2 ∧ Below W.heap.size W w') := hidIt (fun W r r' => (impl_Joined a_j a_a c_j c_a J La W r r' (le_j) (le_a) (by omega) (by omega) (by assumption) (by assumption)).mono (fun e w' ⟨v, K', he, hK, o, k⟩ => ⟨v, he, (toB_inj (hK.trans hK2.symm)) ▸ o, k⟩))
      have C3 : Hid (∀ W, Rd W a_a La → Rd W a_a La → Calls Try.prog 11 #[.slice a_a La.length c_a, .slice a_a La.length c_a] W fun e w' => ∃ v, e = .returned (.tuple #[v, .bool (joinB (toB La) (toB La)).2]) ∧ Own w' W.heap.size v K3 ∧ Below W.heap.size W w') := hidIt (fun W r r' => (impl_Joined a_a a_a c_a c_a La La W r r' (le_a) (le_a) (by omega) (by omega) (by assumption) (by assumption)).mono (fun e w' ⟨v, K', he, hK, o, k⟩ => ⟨v, he, (toB_inj (hK.trans hK3.symm)) ▸ o, k⟩))
      go_wp2_with (fail)
      refine (C1.out _ R_b.out R_a.out).mono ?_
      rintro e w15 ⟨v1, rfl, o1, kk⟩
      replace HB := hidIt (on HB.out kk)
      replace R_a := hidIt (R_a.out.kept kk)
      replace R_b := hidIt (R_b.out.kept kk)
      replace R_j := hidIt (R_j.out.kept kk)
      clear kk
      obtain ⟨a_1, c_1, ev, le_1, cm_1, rr, na_1, _⟩ := o1.form
      subst ev
      have R_1 := hidIt rr
      clear rr
      clear o1 C1
      go_wp2_with (fail)
      refine (C2.out _ R_j.out R_a.out).mono ?_
      rintro e w16 ⟨v2, rfl, o2, kk⟩
      replace HB := hidIt (on HB.out kk)
      replace R_a := hidIt (R_a.out.kept kk)
      replace R_b := hidIt (R_b.out.kept kk)
      replace R_j := hidIt (R_j.out.kept kk)
      replace R_1 := hidIt (R_1.out.kept kk)
      clear kk
      obtain ⟨a_2, c_2, ev, le_2, cm_2, rr, na_2, _⟩ := o2.form
      subst ev
      have R_2 := hidIt rr
      clear rr
      clear o2 C2
      go_wp2_with (fail)
      refine (C3.out _ R_a.out R_a.out).mono ?_
      rintro e w17 ⟨v3, rfl, o3, kk⟩
      replace HB := hidIt (on HB.out kk)
      replace R_a := hidIt (R_a.out.kept kk)
      replace R_b := hidIt (R_b.out.kept kk)
      replace R_j := hidIt (R_j.out.kept kk)
      replace R_1 := hidIt (R_1.out.kept kk)
      replace R_2 := hidIt (R_2.out.kept kk)
      clear kk
      obtain ⟨a_3, c_3, ev, le_3, cm_3, rr, na_3, _⟩ := o3.form
      subst ev
      have R_3 := hidIt rr
      clear rr
      clear o3 C3
      go_wp2_with (fail)
      refine (DrawValueOf_any a0 len0 cap0 _ (code_at HC.out HB.out) hl).mono ?_
      rintro e w18 ⟨vc, key, Lc, rfl, tc, sk, oc, kk⟩
      replace HB := hidIt (on HB.out kk)
      replace R_a := hidIt (R_a.out.kept kk)
      replace R_b := hidIt (R_b.out.kept kk)
      replace R_j := hidIt (R_j.out.kept kk)
      replace R_1 := hidIt (R_1.out.kept kk)
      replace R_2 := hidIt (R_2.out.kept kk)
      replace R_3 := hidIt (R_3.out.kept kk)
      clear kk
      obtain ⟨a_c, c_c, ev, le_c, cm_c, rr, na_c, _⟩ := oc.form
      subst ev
      have R_c := hidIt rr
      clear rr
      clear oc HC sk
      have sc := tame_short tc
      have lc := tc.1
      obtain ⟨K4, hK4⟩ := joined_rows Lb Lc
      have lK4 : K4.length ≤ 80 := by rw [← toB_length, hK4]; exact Bk.joinB_len _ _
      have tK4 := joined_tame hK4 tb.2 tc.2
      have sK4 := tame_short tK4
      obtain ⟨K5, hK5⟩ := joined_rows J Lc
      have lK5 : K5.length ≤ 80 := by rw [← toB_length, hK5]; exact Bk.joinB_len _ _
      have tK5 := joined_tame hK5 tJ.2 tc.2
      have sK5 := tame_short tK5
      obtain ⟨K6, hK6⟩ := joined_rows La K4
      have lK6 : K6.length ≤ 80 := by rw [← toB_length, hK6]; exact Bk.joinB_len _ _
      have tK6 := joined_tame hK6 ta.2 tK4.2
      have sK6 := tame_short tK6
      have C4 : Hid (∀ W, Rd W a_b Lb → Rd W a_c Lc → Calls Try.prog 11 #[.slice a_b Lb.length c_b, .slice a_c Lc.length c_c] W fun e w' => ∃ v, e = .returned (.tuple #[v, .bool (joinB (toB Lb) (toB Lc)).2]) ∧ Own w' W.heap.size v K4 ∧ Below W.heap.size W w') := hidIt (fun W r r' => (impl_Joined a_b a_c c_b c_c Lb Lc W r r' (le_b) (le_c) (by omega) (by omega) (by assumption) (by assumption)).mono (fun e w' ⟨v, K', he, hK, o, k⟩ => ⟨v, he, (toB_inj (hK.trans hK4.symm)) ▸ o, k⟩))
      have C5 : Hid (∀ W, Rd W a_j J → Rd W a_c Lc → Calls Try.prog 11 #[.slice a_j J.length c_j, .slice a_c Lc.length c_c] W fun e w' => ∃ v, e = .returned (.tuple #[v, .bool (joinB (toB J) (toB Lc)).2]) ∧ Own w' W.heap.size v K5 ∧ Below W.heap.size W w') := hidIt (fun W r r' => (impl_Joined a_j a_c c_j c_c J Lc W r r' (le_j) (le_c) (by omega) (by omega) (by assumption) (by assumption)).mono (fun e w' ⟨v, K', he, hK, o, k⟩ => ⟨v, he, (toB_inj (hK.trans hK5.symm)) ▸ o, k⟩))
      go_wp2_with (fail)
      refine (C4.out _ R_b.out R_c.out).mono ?_
      rintro e w19 ⟨v4, rfl, o4, kk⟩
      replace HB := hidIt (on HB.out kk)
      replace R_a := hidIt (R_a.out.kept kk)
      replace R_b := hidIt (R_b.out.kept kk)
      replace R_j := hidIt (R_j.out.kept kk)
      replace R_1 := hidIt (R_1.out.kept kk)
      replace R_2 := hidIt (R_2.out.kept kk)
      replace R_3 := hidIt (R_3.out.kept kk)
      replace R_c := hidIt (R_c.out.kept kk)
      clear kk
      obtain ⟨a_4, c_4, ev, le_4, cm_4, rr, na_4, _⟩ := o4.form
      subst ev
      have R_4 := hidIt rr
      clear rr
      clear o4 C4
      have C6 : Hid (∀ W, Rd W a_a La → Rd W a_4 K4 → Calls Try.prog 11 #[.slice a_a La.length c_a, .slice a_4 K4.length c_4] W fun e w' => ∃ v, e = .returned (.tuple #[v, .bool (joinB (toB La) (toB K4)).2]) ∧ Own w' W.heap.size v K6 ∧ Below W.heap.size W w') := hidIt (fun W r r' => (impl_Joined a_a a_4 c_a c_4 La K4 W r r' (le_a) (le_4) (by omega) (by omega) (by assumption) (by assumption)).mono (fun e w' ⟨v, K', he, hK, o, k⟩ => ⟨v, he, (toB_inj (hK.trans hK6.symm)) ▸ o, k⟩))
      go_wp2_with (fail)
      refine (C5.out _ R_j.out R_c.out).mono ?_
      rintro e w20 ⟨v5, rfl, o5, kk⟩
      replace HB := hidIt (on HB.out kk)
      replace R_a := hidIt (R_a.out.kept kk)
      replace R_b := hidIt (R_b.out.kept kk)
      replace R_j := hidIt (R_j.out.kept kk)
      replace R_1 := hidIt (R_1.out.kept kk)
      replace R_2 := hidIt (R_2.out.kept kk)
      replace R_3 := hidIt (R_3.out.kept kk)
      replace R_c := hidIt (R_c.out.kept kk)
      replace R_4 := hidIt (R_4.out.kept kk)
      clear kk
      obtain ⟨a_5, c_5, ev, le_5, cm_5, rr, na_5, _⟩ := o5.form
      subst ev
      have R_5 := hidIt rr
      clear rr
      clear o5 C5
      go_wp2_with (fail)
      refine (C6.out _ R_a.out R_4.out).mono ?_
      rintro e w21 ⟨v6, rfl, o6, kk⟩
      replace HB := hidIt (on HB.out kk)
      replace R_a := hidIt (R_a.out.kept kk)
      replace R_b := hidIt (R_b.out.kept kk)
      replace R_j := hidIt (R_j.out.kept kk)
      replace R_1 := hidIt (R_1.out.kept kk)
      replace R_2 := hidIt (R_2.out.kept kk)
      replace R_3 := hidIt (R_3.out.kept kk)
      replace R_c := hidIt (R_c.out.kept kk)
      replace R_4 := hidIt (R_4.out.kept kk)
      replace R_5 := hidIt (R_5.out.kept kk)
      clear kk
      obtain ⟨a_6, c_6, ev, le_6, cm_6, rr, na_6, _⟩ := o6.form
      subst ev
      have R_6 := hidIt rr
      clear rr
      clear o6 C6
      have HLT := hidIt (lat_of (C := Lc) HIS.out HJ.out hK1 hK2 hK3 hK4 hK5 hK6)
      clear hK1 hK2 hK3 hK4 hK5 hK6 HIS HJ
      generalize (joinB (toB Lb) (toB Lc)).2 = one at *
      generalize (joinB (toB J) (toB Lc)).2 = two at *
      generalize (joinB (toB La) (toB K4)).2 = three at *
      have EK : Hid (K1 = J ∧ K2 = J ∧ K3 = La) := hidIt ⟨HLT.out.back, HLT.out.once, HLT.out.own⟩
      obtain ⟨ek1, ek2, ek3⟩ := EK.out
      replace ek1 := ek1.symm
      replace ek2 := ek2.symm
      replace ek3 := ek3.symm
      subst ek1 ek2 ek3
      clear EK
      clear R_4 R_c
      generalize hmj : J.length = mj at *
      have HMJ := hidIt hmj
      clear hmj
      generalize hma : La.length = ma at *
      have HMA := hidIt hma
      clear hma
      generalize hmb : Lb.length = mb at *
      have HMB := hidIt hmb
      clear hmb
      have HWl : Hid (Wl w w21 a_j a_a a_b a_1 a_2 a_3 J La Lb) := hidIt ⟨HB.out, R_j.out, R_a.out, R_b.out, R_1.out, R_2.out, R_3.out⟩
      have HR5 := R_5
      have HR6 := R_6
      have CL5 := hidIt (fun W a a' c c' (r : Rd W a K5) (r' : Rd W a' K5) => likeBook_same a a' c c' K5 W r r' (by omega))
      clear R_j R_a R_b R_1 R_2 R_3 R_5 R_6
      go_upto_region 20 with fail
      go_cut [191] from 179 to 190 (fun s191 wq => s191 = .bool false ∧ Hid (Wl w wq a_j a_a a_b a_1 a_2 a_3 J La Lb))
      case first =>
        cases one with
        | false =>
          go_wp2_with (fail)
          go_meet
          case rel => exact ⟨rfl, HWl⟩
        | true =>
          cases two with
          | false =>
            go_wp2_with (fail)
            go_meet
            case rel => exact ⟨rfl, HWl⟩
          | true =>
            cases three with
            | false =>
              go_wp2_with (fail)
              go_meet
              case rel => exact ⟨rfl, HWl⟩
            | true =>
              have e56 := HLT.out.assoc rfl rfl rfl
              subst e56
              go_wp2_with (fail)
              refine (CL5.out _ a_5 a_6 c_5 c_6 HR5.out HR6.out).mono ?_
              rintro e wl ⟨rfl, kk⟩
              have HWm := hidIt (HWl.out.low kk)
              clear kk
              go_wp2_with (fail)
              go_meet
              case rel => exact ⟨rfl, HWm⟩
      case rest =>
        obtain ⟨rfl, hw1⟩ := hcut
        clear HWl HR5 HR6 CL5
        go_wp2_with (fail)
        go_loopw [25] (fun y wx => ∃ i : Nat, y = .int .i64 i ∧ i ≤ mj ∧ Hid (Wl w wx a_j a_a a_b a_1 a_2 a_3 J La Lb)) (fun y _ => (mj - intOf y).toNat)
        case atStart => exact ⟨0, rfl, by omega, hw1⟩
        case round =>
          obtain ⟨i, rfl, hi, HWi⟩ := hrel
          clear hw1
          by_cases hin : i < mj
          · have hin' : (i : Int) < (mj : Int) := by omega
            have HMem := hidIt (HLT.out.mem (rat J i) (rat_mem (by rw [HMJ.out]; exact hin)))
            obtain ⟨x, ex⟩ : ∃ x, rat J i = x := ⟨_, rfl⟩
            have HEX := hidIt ex
            rw [ex] at HMem
            clear ex
            obtain ⟨xk, xv, xt, xn, xg⟩ := x
            generalize wr = W0 at *
            go_wp2_with (fail)
            go_hide hQ1
            go_loopw [26, 27] (fun f y wx => ∃ (k : Nat) (b : Bool), f = .bool b ∧ y = .int .i64 k ∧ k ≤ ma ∧ Hid (Wl w wx a_j a_a a_b a_1 a_2 a_3 J La Lb) ∧ Hid (b = true ∨ Not1 La k (xk, xv, xt, xn, xg))) (fun _ y _ => (ma - intOf y).toNat)
            case atStart => exact ⟨0, false, rfl, rfl, by omega, HWi, hidIt (.inr (fun q hq => by omega))⟩
            case round =>
              obtain ⟨k, b, rfl, rfl, hk, HWk, HN⟩ := hrel
              clear HWi
              generalize wr = W1 at *
              by_cases hkn : k < ma
              · have hk1 : (k : Int) < (ma : Int) := by omega
                obtain ⟨bj, oj, eaj, p0, p1, p2, p3, p4⟩ := HWk.out.rj.all (i := i) (by rw [HMJ.out]; exact hin)
                subst eaj
                rw [HEX.out] at p0 p1 p2 p3 p4
                simp only at p0 p1 p2 p3 p4
                obtain ⟨bl, ol, eal, q0, q1, q2, q3, q4⟩ := HWk.out.ra.all (i := k) (by rw [HMA.out]; exact hkn)
                subst eal
                have HD := hidIt (fun n => HWk.out.low (Go.Proofs.Ytmhfaeddfibohaa.Below.drewN (Below.refl _ _) n))
                cases b with
                | true =>
                  generalize rat La k = y at q0 q1 q2 q3 q4
                  obtain ⟨yk, yv, yt, yn, yg⟩ := y
                  go_wp2_with (fail)
                  go_quiet (fail)
                  go_wp2_with (fail)
                  exact ⟨⟨k + 1, true, rfl, by simp, by omega, hidIt (HD.out _), hidIt (.inl rfl)⟩, by simp [intOf]; omega⟩
                | false =>
                  have EC := hidIt (en_cases (rat La k) (xk, xv, xt, xn, xg))
                  have HNn : Hid (rat La k ≠ (xk, xv, xt, xn, xg) → false = true ∨ Not1 La (k + 1) (xk, xv, xt, xn, xg)) := hidIt (fun e => (by rcases HN.out with h | h; exact absurd h (by decide); exact .inr (h.more e)))
                  generalize rat La k = y at q0 q1 q2 q3 q4 EC HNn
                  obtain ⟨yk, yv, yt, yn, yg⟩ := y
                  simp only at q0 q1 q2 q3 q4
                  rcases EC.out with e | ⟨hne, h0 | ⟨h0, h1⟩ | ⟨h0, h1, h2⟩ | ⟨h0, h1, h2, h3⟩ | ⟨h0, h1, h2, h3, h4⟩⟩
                  · cases e
                    have e0 := eq_of xk xk
                    rw [decide_eq_true rfl] at e0
                    have e1 := eq_of xv xv
                    rw [decide_eq_true rfl] at e1
                    have e2 : (xt == xt) = true := by simp
                    have e3 : (xn == xn) = true := by simp
                    have e4 : (xg == xg) = true := by cases xg <;> rfl
                    clear EC HNn
                    go_wp2_with (fail)
                    go_quiet (fail)
                    go_wp2_with (fail)
                    exact ⟨⟨k + 1, true, rfl, by simp, by omega, hidIt (HD.out _), hidIt (.inl rfl)⟩, by simp [intOf]; omega⟩
                  · have HNe := hidIt (HNn.out hne)
                    have e0 := eq_of yk xk
                    rw [decide_eq_false h0] at e0
                    clear EC HNn hne h0
                    go_wp2_with (fail)
                    go_quiet (fail)
                    go_wp2_with (fail)
                    exact ⟨⟨k + 1, false, rfl, by simp, by omega, hidIt (HD.out _), HNe⟩, by simp [intOf]; omega⟩
                  · have HNe := hidIt (HNn.out hne)
                    have e0 := eq_of yk xk
                    rw [decide_eq_true h0] at e0
                    have e1 := eq_of yv xv
                    rw [decide_eq_false h1] at e1
                    clear EC HNn hne h0 h1
                    go_wp2_with (fail)
                    go_quiet (fail)
                    go_wp2_with (fail)
                    exact ⟨⟨k + 1, false, rfl, by simp, by omega, hidIt (HD.out _), HNe⟩, by simp [intOf]; omega⟩
                  · have HNe := hidIt (HNn.out hne)
                    have e0 := eq_of yk xk
                    rw [decide_eq_true h0] at e0
                    have e1 := eq_of yv xv
                    rw [decide_eq_true h1] at e1
                    have e2 : (yt == xt) = false := by simpa using h2
                    clear EC HNn hne h0 h1 h2
                    go_wp2_with (fail)
                    go_quiet (fail)
                    go_wp2_with (fail)
                    exact ⟨⟨k + 1, false, rfl, by simp, by omega, hidIt (HD.out _), HNe⟩, by simp [intOf]; omega⟩
                  · have HNe := hidIt (HNn.out hne)
                    have e0 := eq_of yk xk
                    rw [decide_eq_true h0] at e0
                    have e1 := eq_of yv xv
                    rw [decide_eq_true h1] at e1
                    have e2 : (yt == xt) = true := by simpa using h2
                    have e3 : (yn == xn) = false := by simpa using h3
                    clear EC HNn hne h0 h1 h2 h3
                    go_wp2_with (fail)
                    go_quiet (fail)
                    go_wp2_with (fail)
                    exact ⟨⟨k + 1, false, rfl, by simp, by omega, hidIt (HD.out _), HNe⟩, by simp [intOf]; omega⟩
                  · have HNe := hidIt (HNn.out hne)
                    have e0 := eq_of yk xk
                    rw [decide_eq_true h0] at e0
                    have e1 := eq_of yv xv
                    rw [decide_eq_true h1] at e1
                    have e2 : (yt == xt) = true := by simpa using h2
                    have e3 : (yn == xn) = true := by simpa using h3
                    have e4 : (yg == xg) = false := by simpa using h4
                    clear EC HNn hne h0 h1 h2 h3 h4
                    go_wp2_with (fail)
                    go_quiet (fail)
                    go_wp2_with (fail)
                    exact ⟨⟨k + 1, false, rfl, by simp, by omega, hidIt (HD.out _), HNe⟩, by simp [intOf]; omega⟩
              · have hk' : ¬ (k : Int) < (ma : Int) := by omega
                have hkm : k = ma := by omega
                subst hkm
                subst hQ1
                have HN1 : Hid (b = true ∨ (((xk, xv, xt, xn, xg) : Rw) ∉ La ∧ Not1 Lb 0 (xk, xv, xt, xn, xg))) := hidIt (by
                  rcases HN.out with h | h
                  · exact .inl h
                  · exact .inr ⟨Not1.all (by rw [HMA.out]; exact h), fun q hq => by omega⟩)
                clear HN
                go_wp2_with (fail)
                go_hide hQ2
                go_loopw [26, 28] (fun f y wx => ∃ (k : Nat) (b : Bool), f = .bool b ∧ y = .int .i64 k ∧ k ≤ mb ∧ Hid (Wl w wx a_j a_a a_b a_1 a_2 a_3 J La Lb) ∧ Hid (b = true ∨ (((xk, xv, xt, xn, xg) : Rw) ∉ La ∧ Not1 Lb k (xk, xv, xt, xn, xg)))) (fun _ y _ => (mb - intOf y).toNat)
                case atStart => exact ⟨0, b, rfl, rfl, by omega, HWk, HN1⟩
                case round =>
                  obtain ⟨k2, b2, rfl, rfl, hk2, HWk2, HN2⟩ := hrel
                  clear HWk HN1
                  generalize wr = W2 at *
                  by_cases hkn2 : k2 < mb
                  · have hk1 : (k2 : Int) < (mb : Int) := by omega
                    obtain ⟨bj, oj, eaj, p0, p1, p2, p3, p4⟩ := HWk2.out.rj.all (i := i) (by rw [HMJ.out]; exact hin)
                    subst eaj
                    rw [HEX.out] at p0 p1 p2 p3 p4
                    simp only at p0 p1 p2 p3 p4
                    obtain ⟨bl, ol, eal, q0, q1, q2, q3, q4⟩ := HWk2.out.rb.all (i := k2) (by rw [HMB.out]; exact hkn2)
                    subst eal
                    have HD := hidIt (fun n => HWk2.out.low (Go.Proofs.Ytmhfaeddfibohaa.Below.drewN (Below.refl _ _) n))
                    cases b2 with
                    | true =>
                      generalize rat Lb k2 = y at q0 q1 q2 q3 q4
                      obtain ⟨yk, yv, yt, yn, yg⟩ := y
                      go_wp2_with (fail)
                      go_quiet (fail)
                      go_wp2_with (fail)
                      exact ⟨⟨k2 + 1, true, rfl, by simp, by omega, hidIt (HD.out _), hidIt (.inl rfl)⟩, by simp [intOf]; omega⟩
                    | false =>
                      have EC := hidIt (en_cases (rat Lb k2) (xk, xv, xt, xn, xg))
                      have HNn : Hid (rat Lb k2 ≠ (xk, xv, xt, xn, xg) → false = true ∨ (((xk, xv, xt, xn, xg) : Rw) ∉ La ∧ Not1 Lb (k2 + 1) (xk, xv, xt, xn, xg))) := hidIt (fun e => (by rcases HN2.out with h | h; exact absurd h (by decide); exact .inr ⟨h.1, h.2.more e⟩))
                      generalize rat Lb k2 = y at q0 q1 q2 q3 q4 EC HNn
                      obtain ⟨yk, yv, yt, yn, yg⟩ := y
                      simp only at q0 q1 q2 q3 q4
                      rcases EC.out with e | ⟨hne, h0 | ⟨h0, h1⟩ | ⟨h0, h1, h2⟩ | ⟨h0, h1, h2, h3⟩ | ⟨h0, h1, h2, h3, h4⟩⟩
                      · cases e
                        have e0 := eq_of xk xk
                        rw [decide_eq_true rfl] at e0
                        have e1 := eq_of xv xv
                        rw [decide_eq_true rfl] at e1
                        have e2 : (xt == xt) = true := by simp
                        have e3 : (xn == xn) = true := by simp
                        have e4 : (xg == xg) = true := by cases xg <;> rfl
                        clear EC HNn
                        go_wp2_with (fail)
                        go_quiet (fail)
                        go_wp2_with (fail)
                        exact ⟨⟨k2 + 1, true, rfl, by simp, by omega, hidIt (HD.out _), hidIt (.inl rfl)⟩, by simp [intOf]; omega⟩
                      · have HNe := hidIt (HNn.out hne)
                        have e0 := eq_of yk xk
                        rw [decide_eq_false h0] at e0
                        clear EC HNn hne h0
                        go_wp2_with (fail)
                        go_quiet (fail)
                        go_wp2_with (fail)
                        exact ⟨⟨k2 + 1, false, rfl, by simp, by omega, hidIt (HD.out _), HNe⟩, by simp [intOf]; omega⟩
                      · have HNe := hidIt (HNn.out hne)
                        have e0 := eq_of yk xk
                        rw [decide_eq_true h0] at e0
                        have e1 := eq_of yv xv
                        rw [decide_eq_false h1] at e1
                        clear EC HNn hne h0 h1
                        go_wp2_with (fail)
                        go_quiet (fail)
                        go_wp2_with (fail)
                        exact ⟨⟨k2 + 1, false, rfl, by simp, by omega, hidIt (HD.out _), HNe⟩, by simp [intOf]; omega⟩
                      · have HNe := hidIt (HNn.out hne)
                        have e0 := eq_of yk xk
                        rw [decide_eq_true h0] at e0
                        have e1 := eq_of yv xv
                        rw [decide_eq_true h1] at e1
                        have e2 : (yt == xt) = false := by simpa using h2
                        clear EC HNn hne h0 h1 h2
                        go_wp2_with (fail)
                        go_quiet (fail)
                        go_wp2_with (fail)
                        exact ⟨⟨k2 + 1, false, rfl, by simp, by omega, hidIt (HD.out _), HNe⟩, by simp [intOf]; omega⟩
                      · have HNe := hidIt (HNn.out hne)
                        have e0 := eq_of yk xk
                        rw [decide_eq_true h0] at e0
                        have e1 := eq_of yv xv
                        rw [decide_eq_true h1] at e1
                        have e2 : (yt == xt) = true := by simpa using h2
                        have e3 : (yn == xn) = false := by simpa using h3
                        clear EC HNn hne h0 h1 h2 h3
                        go_wp2_with (fail)
                        go_quiet (fail)
                        go_wp2_with (fail)
                        exact ⟨⟨k2 + 1, false, rfl, by simp, by omega, hidIt (HD.out _), HNe⟩, by simp [intOf]; omega⟩
                      · have HNe := hidIt (HNn.out hne)
                        have e0 := eq_of yk xk
                        rw [decide_eq_true h0] at e0
                        have e1 := eq_of yv xv
                        rw [decide_eq_true h1] at e1
                        have e2 : (yt == xt) = true := by simpa using h2
                        have e3 : (yn == xn) = true := by simpa using h3
                        have e4 : (yg == xg) = false := by simpa using h4
                        clear EC HNn hne h0 h1 h2 h3 h4
                        go_wp2_with (fail)
                        go_quiet (fail)
                        go_wp2_with (fail)
                        exact ⟨⟨k2 + 1, false, rfl, by simp, by omega, hidIt (HD.out _), HNe⟩, by simp [intOf]; omega⟩
                  · have hk' : ¬ (k2 : Int) < (mb : Int) := by omega
                    have hkm : k2 = mb := by omega
                    subst hkm
                    subst hQ2
                    have hb2 : b2 = true := by
                      rcases HN2.out with h | ⟨h1, h2⟩
                      · exact h
                      · rcases HMem.out with q | q
                        · exact absurd q h1
                        · exact absurd q (Not1.all (by rw [HMB.out]; exact h2))
                    subst hb2
                    go_wp2_with (fail)
                    exact ⟨⟨i + 1, by simp, by omega, HWk2⟩, by simp [intOf]; omega⟩
          · have hin' : ¬ (i : Int) < (mj : Int) := by omega
            have CBj := hidIt (fun W (r : Rd W a_j J) => impl_BookOk a_j c_j J W r (by rw [HMJ.out]; omega) sJ)
            rw [HLT.out.ok, HMJ.out] at CBj
            have CLj := hidIt (fun W a a' c c' (r : Rd W a J) (r' : Rd W a' J) => likeBook_same a a' c c' J W r r' (by rw [HMJ.out]; omega))
            rw [HMJ.out] at CLj
            have CLa := hidIt (fun W a a' c c' (r : Rd W a La) (r' : Rd W a' La) => likeBook_same a a' c c' La W r r' (by rw [HMA.out]; omega))
            rw [HMA.out] at CLa
            go_wp2_with (fail)
            refine (CBj.out _ HWi.out.rj).mono ?_
            rintro e we ⟨rfl, kk⟩
            replace HWi := hidIt (HWi.out.low kk)
            clear kk
            go_wp2_with (fail)
            refine (CLj.out _ a_1 a_j c_1 c_j HWi.out.r1 HWi.out.rj).mono ?_
            rintro e wf ⟨rfl, kk⟩
            replace HWi := hidIt (HWi.out.low kk)
            clear kk
            go_wp2_with (fail)
            refine (CLj.out _ a_2 a_j c_2 c_j HWi.out.r2 HWi.out.rj).mono ?_
            rintro e wg ⟨rfl, kk⟩
            replace HWi := hidIt (HWi.out.low kk)
            clear kk
            go_wp2_with (fail)
            refine (CLa.out _ a_3 a_a c_3 c_a HWi.out.r3 HWi.out.ra).mono ?_
            rintro e wh ⟨rfl, kk⟩
            replace HWi := hidIt (HWi.out.low kk)
            clear kk
            go_wp2_with (fail)
            go_ret
            exact ⟨rfl, HWi.out.hb⟩

set_option maxRecDepth 100000 in
theorem lifted (os : Os) (started : os.Started) (H : Type) (enc : TypeId × Value → H) :
    ReturnsInHanded {} Try.checked os 3 .any (Rows.fnLatticeSpec.pre6 enc Try.prog Try.f3 Rows.fnLatticeRow.domain false) (Rows.fnLatticeSpec.post enc Try.prog Try.f3 false true false false) := by
  refine returnsInHanded_of_change (C := Try.checked) own started (by kernel_rfl) Try.func3
    (ChangeSpec.witness6 (enc := enc) (C := Try.checked) false ⟨#[], #[.slice none 0 0], []⟩ 8 (by kernel_rfl) (by kernel_rfl) (by kernel_rfl) (by kernel_rfl)) ?_
  intro W base args ds gs before hval0 hW hcnd _
  have hval : ∀ (j : Nat) t v, Try.f3.params[j]? = some t → args[j]? = some v → Value.okWide Try.prog W .any base t v := hval0
  have hW' := hW
  obtain ⟨p, q, hA0, hV, rfl, hfz, hnd⟩ := hW
  have hA : DataW.TrodAll enc Try.prog W 0 (fun _ => true) true Try.f3.params.toList args.toList ds p := hA0
  rw [Try.params3] at hA hval
  obtain ⟨v0, vs0, d0, ds0, p0, q0, hargs, rfl, rfl, h0, r0⟩ := trodAll_cons hA
  obtain ⟨rfl, rfl, rfl⟩ := trodAll_nil r0
  obtain rfl : args = #[v0] := by cases args; simp_all
  obtain ⟨rfl, rfl⟩ := trodVars_none hV
  have k0 := h0
  have lt0 : ∀ x ∈ p0, x.block < W.heap.size := by obtain ⟨m, hm⟩ := k0; exact DataW.trod_lt m _ _ _ hm
  obtain ⟨a0, len0, cap0, rfl⟩ := okWide_slice Try.underlying22 (hval 0 22 v0 rfl rfl)
  obtain ⟨z0, w0⟩ : ∃ zs, IsRow .u8 W a0 len0 cap0 zs := by
    obtain ⟨fuel, hf⟩ := h0
    rcases open_ints Try.underlying22 Try.underlying5 (by kernel_rfl) hf with ⟨hcs, _⟩ | ⟨x, l, c, zs, hcs, _, hl, hm, hz, _, hcell, hwz⟩
    · simp [Value.cells] at hcs
      obtain ⟨rfl, rfl, rfl⟩ := hcs
      exact ⟨[], .inl ⟨rfl, rfl, rfl, rfl⟩⟩
    · simp [Value.cells] at hcs
      obtain ⟨rfl, rfl, rfl⟩ := hcs
      exact ⟨zs, .inr ⟨_, rfl, hl, hm, by simpa using hz, hcell, hwz⟩⟩
  clear hA0 hval0
  refine (walk a0 len0 cap0 z0 W w0).mono fun e W' ⟨he, bel⟩ => ?_
  subst he
  exact ⟨_, rfl, _, _, _, [], _, [], hW', trodAll_mk1 (shut_bool Try.underlying4 _), (trodAll_cons_mk (Below.trod laidOut (by kernel_rfl) (of_decide_eq_true (by kernel_rfl)) k0 bel lt0) trodAll_mk0), rfl, bel.frame _, fun h => by cases h⟩

theorem over : Rows.fnLatticeRow.holds Try.pinned (OpenSpec.ofChange Rows.fnLatticeSpec) :=
  OpenClaim.holds_of_wide 3 Try.f3 rfl rfl rfl rfl rfl rfl rfl ⟨rfl, rfl, rfl, rfl, rfl⟩ rfl rfl rfl rfl rfl (by kernel_rfl) Try.func3 (by kernel_rfl)
    (of_decide_eq_true (by kernel_rfl)) (by unfold Func.isWrapper; first | (rw [if_pos (by decide +kernel)]; kernel_rfl) | (rw [if_neg (by decide +kernel)]; exact ⟨rfl, rfl⟩))
    (fun os started H enc _ => lifted os started H enc)
end Go.Proofs.Ytmhfaeddfibohaa.fnLattice
namespace Go.Proofs.Ytmhfaeddfibohaa
theorem fnLattice_holds : Rows.FnLatticeSaid := fnLattice.over
#print axioms fnLattice_holds
end Go.Proofs.Ytmhfaeddfibohaa
