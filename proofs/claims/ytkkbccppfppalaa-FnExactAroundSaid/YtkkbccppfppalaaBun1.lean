/-
  Merged of the program.
  A region that draws its order, by an invariant: what holds of the slots that have come up, whichever they are, is handed on by each operation; so each operation is looked at once, in however many orders they may come.
  A list of Replicas as it lies in memory: 2 cells each; a row of the call's own; one that came in. (Written by wip/mkrow.py.)
  A list of Replicas as it lies in memory: two slices each, a book and Members; a list of the call's own, no two of whose slices share memory.
  What the laws do with one Replica and with a list of them: the measure, the copy, whether two are alike.
-/
import Derived.Test.YtkkbccppfppalaaMbU
import Derived.RegionTactic
import Derived.WalkKit
import Derived.Below
import Derived.Test.YtkkbccppfppalaaMem
import Derived.Test.YtkkbccppfppalaaProg
import Derived.Laws.OwnMore
import Derived.Deep.OwnRows
import Derived.Deep.Strs
import Derived.OwnWalk
import Derived.OpenShut
import Derived.Laws.AppendOwn
import Derived.Lib.SmallJoins
import Derived.Test.YtkkbccppfppalaaEntM
import Derived.Test.YtkkbccppfppalaaMem2M
import Derived.Test.YtkkbccppfppalaaEntL
import Derived.Test.YtkkbccppfppalaaMem2L
import Derived.Test.YtkkbccppfppalaaBoxM
namespace Go.Proofs.Ytkkbccppfppalaa.Mm
open Go.ChangeShapes Go.WideShapes Go.ChangeAt Go.RowKit
open Go.Proofs.Ytkkbccppfppalaa.Rc (BelowBy BelowBy.one wp_region_below calls_below calls_same)
open Go.Proofs.Ytkkbccppfppalaa.Mk (okE newB okBk look Ris IsJoin mergeB backB upE)
set_option linter.unusedVariables false
theorem own_rd {w : World} {base g m cap : Nat} {L : List Rw} (h : Own w base (.slice (some ⟨g, 0, none⟩) m cap) L) : Rd w (some ⟨g, 0, none⟩) L := by
  obtain ⟨a', _, e1, _, _, r, _⟩ := h.form
  rw [(Value.slice.inj e1).1]
  exact r
theorem own_slice {w : World} {base : Nat} {v : Value} {L : List Rw} (h : Own w base v L) (hl : 0 < L.length) : ∃ g cp, v = .slice (some ⟨g, 0, none⟩) L.length cp ∧ L.length ≤ cp ∧ cp ≤ 9223372036854775807 := by
  obtain ⟨a, c, e, h1, h2, _, h4, h5⟩ := h.form
  cases a with
  | none => have := h4 rfl; omega
  | some x =>
    obtain ⟨g, rfl, _⟩ := h5 x rfl
    exact ⟨g, c, e, h1, h2⟩
def MgP (A B : List Rw) (w : World) (e : Ending) (w' : World) : Prop := ∃ v J, e = .returned v ∧ toB J = mergeB (toB A) (toB B) ∧ Own w' w.heap.size v J ∧ Below w.heap.size w w'
theorem MgP.of {A B J : List Rw} {w w' : World} {e : Ending} {v : Value} (h : e = .returned v) (h1 : toB J = mergeB (toB A) (toB B)) (h2 : Own w' w.heap.size v J) (h3 : Below w.heap.size w w') : MgP A B w e w' := ⟨v, J, h, h1, h2, h3⟩
set_option maxRecDepth 100000 in
set_option maxHeartbeats 8000000 in
theorem impl_Merged_any (aA aB : Option Addr) (cA cB : Nat) (A B : List Rw) (w : World) (hA : Rd w aA A) (hB : Rd w aB B) (hnA : aA = none → cA = 0) (hlA : A.length ≤ 9223372036854775807) (hlB : B.length ≤ 9223372036854775807) :
    Calls Try.prog 56 #[.slice aA A.length cA, .slice aB B.length cB] w fun e w' => MgP A B w e w' := by
  have CA := hidIt (fun W (r : Rd W aA A) => impl_MembersOk aA cA A W r hlA)
  have CB := hidIt (fun W (r : Rd W aB B) => impl_MembersOk aB cB B W r hlB)
  have HRA := hidIt hA
  have HRB := hidIt hB
  clear hA hB
  cases okA : okBk (toB A) with
  | false =>
    have HE := hidIt (show toB [] = mergeB (toB A) (toB B) from (Mk.merge_no (fun h => by rw [okA] at h; exact absurd h.1 (by decide))).symm)
    rw [okA] at CA
    clear okA
    generalize A.length = la at *
    generalize B.length = lb at *
    go_enter Try.func56, Try.ntmps56
    go_wp2_with (fail)
    refine (CA.out _ HRA.out).mono ?_
    rintro e w1 ⟨rfl, k1⟩
    have HB1 := hidIt k1
    clear k1
    go_wp2_with (fail)
    go_ret
    exact MgP.of rfl HE.out ((Own.new w1).mono HB1.out.size) (HB1.out.alloc HB1.out.size _)
  | true =>
    rw [okA] at CA
    cases okB : okBk (toB B) with
    | false =>
      have HE := hidIt (show toB [] = mergeB (toB A) (toB B) from (Mk.merge_no (fun h => by rw [okB] at h; exact absurd h.2 (by decide))).symm)
      rw [okB] at CB
      clear okA okB
      generalize A.length = la at *
      generalize B.length = lb at *
      go_enter Try.func56, Try.ntmps56
      go_wp2_with (fail)
      refine (CA.out _ HRA.out).mono ?_
      rintro e w1 ⟨rfl, k1⟩
      have HB1 := hidIt k1
      clear k1
      go_wp2_with (fail)
      refine (CB.out _ (HRB.out.kept HB1.out)).mono ?_
      rintro e w2 ⟨rfl, k2⟩
      have HB2 := hidIt (HB1.out.trans (k2.mono HB1.out.size))
      clear k2
      go_wp2_with (fail)
      go_ret
      exact MgP.of rfl HE.out ((Own.new w2).mono HB2.out.size) (HB2.out.alloc HB2.out.size _)
    | true =>
      rw [okB] at CB
      have l1 := Mk.ok_len okA
      have l2 := Mk.ok_len okB
      rw [toB_length] at l1 l2
      have rA := Mk.ok_ris okA
      have rB := Mk.ok_ris okB
      have CC := hidIt (fun W (r : Rd W aA A) => impl_copied aA cA A W r hnA (by omega))
      have HST := hidIt (fun i M k hi h hk h1 h2 => join_step (A := A) (B := B) (M := M) (i := i) (k := k) rB hi h hk h1 h2)
      have HS0 := hidIt (show IsJoin (toB A) ((toB B).take 0) (toB A) from by rw [List.take_zero]; exact Mk.join_start rA)
      have HSE : Hid (∀ J, IsJoin (toB A) ((toB B).take B.length) (toB J) → toB J = mergeB (toB A) (toB B)) := hidIt (fun J h => by
        rw [← toB_length, List.take_length] at h
        exact (Mk.merge_of okA okB h).symm)
      clear okA okB rA rB
      generalize hla : A.length = la at *
      generalize hlb : B.length = lb at *
      have HLA := hidIt hla
      have HLB := hidIt hlb
      clear hla hlb
      go_enter Try.func56, Try.ntmps56
      go_wp2_with (fail)
      refine (CA.out _ HRA.out).mono ?_
      rintro e w1 ⟨rfl, k1⟩
      have HB1 := hidIt k1
      clear k1
      go_wp2_with (fail)
      refine (CB.out _ (HRB.out.kept HB1.out)).mono ?_
      rintro e w2 ⟨rfl, k2⟩
      have HB2 := hidIt (HB1.out.trans (k2.mono HB1.out.size))
      clear k2
      go_wp2_with (fail)
      refine (CC.out _ (HRA.out.kept HB2.out)).mono ?_
      intro e w3 hz
      obtain ⟨g0, cp0, rfl, hc0, hm0, o3, k3⟩ := hz.out
      have HB3 := hidIt (HB2.out.trans (k3.mono HB2.out.size))
      have HO3 := hidIt (o3.mono HB2.out.size)
      clear o3 k3 hz HB1 HB2 CC CA CB HRA hnA
      go_wp2_with (fail)
      go_loopw [5, 23] (fun z y wx => ∃ (i : Nat) (M : List Rw) (g cp : Nat), y = .int .i64 i ∧ z = .slice (some ⟨g, 0, none⟩) M.length cp ∧ i ≤ lb ∧ M.length ≤ cp ∧ cp ≤ 9223372036854775807 ∧ M.length ≤ la + i ∧ Hid (Own wx w.heap.size (.slice (some ⟨g, 0, none⟩) M.length cp) M) ∧ Hid (IsJoin (toB A) ((toB B).take i) (toB M)) ∧ Hid (Below w.heap.size w wx)) (fun _ y _ => (lb - intOf y).toNat)
      case atStart => exact ⟨0, A, g0, cp0, rfl, by rw [HLA.out], by omega, by rw [HLA.out]; exact hc0, hm0, by rw [HLA.out]; omega, hidIt (by rw [HLA.out]; exact HO3.out), HS0, HB3⟩
      case round =>
        obtain ⟨i, M, g, cp, rfl, rfl, hi, hmc, hcm, hml, HO, HM, HB⟩ := hrel
        clear HO3 HB3 hc0 hm0 HS0
        by_cases hin : i < lb
        · have hin' : (i : Int) < (lb : Int) := by omega
          obtain ⟨b, off, ea, x0, x1, x2⟩ := (HRB.out.kept HB.out).all (i := i) (by rw [HLB.out]; exact hin)
          subst ea
          have HJ := hidIt (fun k hk h1 h2 => HST.out i M k hin HM.out hk h1 h2)
          have hkb : kat B i = (rat B i).1 := rfl
          have CP := hidIt (fun W (r : Rd W (some ⟨g, 0, none⟩) M) => impl_placeOf (some ⟨g, 0, none⟩) cp M (rat B i).1 W r (by omega) HM.out.ris)
          rw [← hkb] at CP
          have HKB := hidIt hkb
          clear hkb
          generalize rat B i = x at x0 x1 x2 HJ HKB
          generalize kat B i = kb at HJ HKB CP
          obtain ⟨s, u, q⟩ := x
          simp only at x0 x1 x2 HKB
          have ekb := HKB.out
          subst ekb
          clear HM HKB
          generalize hmm : M.length = mm at *
          have HML := hidIt hmm
          clear hmm
          have BX := hidIt (Bo.Box.new wr #[.int .i64 kb, .int .i64 u, .int .i64 q] 61)
          have HBz := hidIt (HB.out.alloc HB.out.size (.cells #[.int .i64 kb, .int .i64 u, .int .i64 q] 61))
          have HOz := hidIt (HO.out.alloc (.cells #[.int .i64 kb, .int .i64 u, .int .i64 q] 61))
          go_wp2_with (fail)
          generalize hwz : wr.alloc (.cells #[.int .i64 kb, .int .i64 u, .int .i64 q] 61) = wz at BX HBz HOz ⊢
          have hbz : wr.heap.size < wz.heap.size := by rw [← hwz]; simp
          generalize wr.heap.size = bz at BX hbz ⊢
          clear hwz HO HB x0 x1 x2
          refine (CP.out _ (own_rd HOz.out)).mono ?_
          intro e w4 hz
          obtain ⟨k, is, rfl, hk, k4⟩ := hz.out
          have HK := hidIt hk
          have HB4 := hidIt (HBz.out.trans (k4.mono HBz.out.size))
          have HO4 := hidIt (HOz.out.kept k4)
          have BX4 := hidIt (BX.out.kept k4)
          have hbz4 : bz < w4.heap.size := Nat.lt_of_lt_of_le hbz k4.size
          clear hk k4 hz CP BX HBz HOz hbz
          have hkm : k ≤ mm := by rw [← HML.out]; exact HK.out.le
          have HI := hidIt (HJ.out k hkm HK.out.lo (fun h => (by have := HK.out.hi (by rw [HML.out]; exact h); omega)))
          have d0 := BX4.out.c 0 rfl
          have d1 := BX4.out.c 1 rfl
          have d2 := BX4.out.c 2 rfl
          cases is with
          | false =>
            have HN := hidIt (HI.out.2.2 (fun h => HK.out.no rfl (by rw [HML.out]; exact h)))
            have CN := hidIt (insert_any w.heap.size (.slice (some ⟨g, 0, none⟩) mm cp) M k (kb, u, q) w4 HO4.out (by rw [HML.out]; exact hkm) (by rw [HML.out]; omega) HB4.out.size)
            have hl5 : (M.take k ++ (kb, u, q) :: M.drop k).length = mm + 1 := by
              have := HML.out
              simp
              omega
            generalize M.take k ++ (kb, u, q) :: M.drop k = N at HN CN hl5
            clear HI HJ HK
            go_wp2_with (fail)
            refine CN.out.mono ?_
            rintro e w5 ⟨v, rfl, o5, k5⟩
            have HO5 := hidIt o5
            have HB5 := hidIt ((HB4.out.alloc HB4.out.size (.cells #[.int .i64 kb, .int .i64 u, .int .i64 q] 61)).trans (grown_below (HO4.out.alloc (.cells #[.int .i64 kb, .int .i64 u, .int .i64 q] 61)) k5 (Nat.le_refl _) (by have := HB4.out.size; simp; omega)))
            obtain ⟨g5, c5, ev, h5c, h5m⟩ := own_slice o5 (by omega)
            subst ev
            clear o5 k5 CN
            go_wp2_with (fail)
            exact ⟨⟨i + 1, N, g5, c5, by simp, by first | rfl | rw [hl5], by omega, h5c, h5m, by omega, HO5, HN, HB5⟩, by simp [intOf]; omega⟩
          | true =>
            have hkM : k < M.length := (HK.out.yes rfl).1
            have hkm' : k < mm := by rw [← HML.out]; exact hkM
            have hke := HK.out.yes rfl
            have hki : (k : Int) < (mm : Int) := by omega
            have y0 := HO4.out.at hkM (j := 0) (by omega)
            have y1 := HO4.out.at hkM (j := 1) (by omega)
            have y2 := HO4.out.at hkM (j := 2) (by omega)
            simp only [rcell, Nat.add_zero] at y0 y1 y2
            have CS := hidIt (fun W => impl_Stronger (kb, u, q) (rat M k) W)
            have HI1 := hidIt (fun h => HI.out.1 hkm' hke.2 h)
            have HI2 := hidIt (fun h => HI.out.2.1 hkm' hke.2 h)
            obtain ⟨nw, hnw⟩ : ∃ nw, newB (toE (kb, u, q)) (toE (rat M k)) = nw := ⟨_, rfl⟩
            rw [hnw] at CS HI1 HI2
            clear hnw HI HJ HK hke
            generalize rat M k = y at y0 y1 y2 CS
            obtain ⟨s', u', q'⟩ := y
            simp only [rv] at y0 y1 y2 CS
            haveI := BelowBy.one w4
            have f0 := fun p : BelowBy w4 => p.cell y0
            have f1 := fun p : BelowBy w4 => p.cell y1
            have f2 := fun p : BelowBy w4 => p.cell y2
            have e0 := fun p : BelowBy w4 => p.cell d0
            have e1 := fun p : BelowBy w4 => p.cell d1
            have e2 := fun p : BelowBy w4 => p.cell d2
            clear y0 y1 y2 d0 d1 d2
            go_wp2_with (fail)
            refine wp_region_below (by kernel_rfl) (by kernel_rfl) ?_
            repeat (go_big_quiet_step (first | (go_at_call 74; refine calls_below (CS.out _))))
            refine wpQuiet_nil ?_
            intro _ hw'
            obtain ⟨pq, rfl⟩ := hw'
            have k5 := pq.h
            generalize pq.world = w5 at k5 ⊢
            have HB5 := hidIt (HB4.out.trans (k5.mono HB4.out.size))
            have HO5 := hidIt (HO4.out.kept k5)
            have BX5 := hidIt (BX4.out.kept k5)
            clear f0 f1 f2 e0 e1 e2 k5 HB4 HO4 BX4
            cases nw with
            | false =>
              have HN := hidIt (HI2.out rfl)
              go_wp2_with (fail)
              exact ⟨⟨i + 1, M, g, cp, by simp, by rw [HML.out], by omega, by rw [HML.out]; exact hmc, hcm, by rw [HML.out]; omega, hidIt (by rw [HML.out]; exact HO5.out), HN, HB5⟩, by simp [intOf]; omega⟩
            | true =>
              have HN := hidIt (HI1.out rfl)
              have d0 := BX5.out.c 0 rfl
              have d1 := BX5.out.c 1 rfl
              have d2 := BX5.out.c 2 rfl
              have y0 := HO5.out.at hkM (j := 0) (by omega)
              have y1 := HO5.out.at hkM (j := 1) (by omega)
              have y2 := HO5.out.at hkM (j := 2) (by omega)
              simp only [rcell, Nat.add_zero] at y0 y1 y2
              have q0 := HO5.out.free (k * 3)
              have q1 := HO5.out.free (k * 3 + 1)
              have q2 := HO5.out.free (k * 3 + 2)
              have hgB : w.heap.size ≤ g := by obtain ⟨cur, h, _⟩ := own_row HO5.out; exact h
              have HO6 := hidIt (HO5.out.whole hkM (kb, u, q))
              have HB6 := hidIt (((HB5.out.setCell (p := ⟨g, k * 3, none⟩) hgB (.int .i64 kb)).setCell (p := ⟨g, k * 3 + 1, none⟩) hgB (.int .i64 u)).setCell (p := ⟨g, k * 3 + 2, none⟩) hgB (.int .i64 q))
              have hl6 : (M.set k (kb, u, q)).length = mm := by rw [List.length_set]; exact HML.out
              generalize M.set k (kb, u, q) = N at HN HO6 hl6
              go_wp2_with (fail)
              exact ⟨⟨i + 1, N, g, cp, by simp, by rw [hl6], by omega, by rw [hl6]; exact hmc, hcm, by omega, hidIt (by rw [hl6]; exact HO6.out), HN, HB6⟩, by simp [intOf]; omega⟩
        · have hin' : ¬ (i : Int) < (lb : Int) := by omega
          obtain rfl : i = lb := by omega
          have HE := hidIt (HSE.out M HM.out)
          generalize hmm : M.length = mm at *
          go_wp2_with (fail)
          go_ret
          exact MgP.of rfl HE.out HO.out HB.out
theorem impl_Merged (aA aB : Option Addr) (cA cB : Nat) (A B : List Rw) (w : World) (hA : Rd w aA A) (hB : Rd w aB B) (hnA : aA = none → cA = 0) (hlA : A.length ≤ 9223372036854775807) (hlB : B.length ≤ 9223372036854775807) :
    Calls Try.prog 56 #[.slice aA A.length cA, .slice aB B.length cB] w fun e w' => ∃ v J, e = .returned v ∧ toB J = mergeB (toB A) (toB B) ∧ Own w' w.heap.size v J ∧ Below w.heap.size w w' :=
  impl_Merged_any aA aB cA cB A B w hA hB hnA hlA hlB
end Go.Proofs.Ytkkbccppfppalaa.Mm
namespace Go.Proofs.Ytkkbccppfppalaa.Rg
open Go.RowKit
set_option linter.unusedVariables false
/-- Number i has come up. -/
def upd (L : Nat → Bool) (i : Nat) : Nat → Bool := fun j => if j = i then true else L j
/-- Where it binds in any order, each waits for elder ones alone. -/
def depB (ops : Array Oper) : Bool := (List.range ops.size).all fun i => ((ops[i]?).map fun o => o.after.all fun e => !Region.binds .any e || decide (e.on < i)).getD true
theorem dep_of {ops : Array Oper} (h : depB ops = true) {i : Nat} {o : Oper} (ho : ops[i]? = some o) {e : Edge} (he : e ∈ o.after) (hb : Region.binds .any e = true) : e.on < i := by
  unfold depB at h
  rw [List.all_eq_true] at h
  have h1 := h i (List.mem_range.2 (Array.getElem?_eq_some_iff.1 ho).1)
  rw [ho] at h1
  simp only [Option.map_some, Option.getD_some] at h1
  have h2 := Array.all_eq_true_iff_forall_mem.1 h1 e he
  rw [hb] at h2
  simpa using h2
variable {P : Program} {ops : Array Oper} {Q : Exit → Act → World → Prop}
theorem getD_in {l : Array Bool} {i : Nat} (h : i < l.size) (d d' : Bool) : l.getD i d = l.getD i d' := by simp [Array.getD, h]
theorem getD_out {l : Array Bool} {i : Nat} (h : ¬ i < l.size) (d : Bool) : l.getD i d = d := by simp [Array.getD, h]
theorem all_of_ready (hd : depB ops = true) {l : Array Bool} (hz : l.size = ops.size) (hr : Region.ready .any ops l = []) : ∀ i, l.getD i true = true := by
  intro i
  induction i using Nat.strongRecOn with
  | ind i ih =>
    by_cases hi : i < l.size
    · cases hc : l.getD i true with
      | true => rfl
      | false =>
        exfalso
        have ho : ops[i]? = some ops[i] := Array.getElem?_eq_getElem (by omega)
        have : i ∈ Region.ready .any ops l := mem_ready.2 ⟨hc, ops[i], ho, fun e he hb => by
          have := dep_of hd ho he hb
          rw [getD_in (by omega) false true]
          exact ih e.on this⟩
        rw [hr] at this
        cases this
    · exact getD_out hi true
theorem count_upd {l : Array Bool} {i n : Nat} (hi : i < l.size) (hf : l.getD i true = false) (hc : l.toList.count false ≤ n + 1) : (l.setIfInBounds i true).toList.count false ≤ n := by
  have e : l[i] = false := by simpa [Array.getD, hi] using hf
  have h1 : 0 < l.toList.count false := List.count_pos_iff.2 (by rw [← e]; simp)
  rw [Array.toList_setIfInBounds, List.count_set (by simpa using hi)]
  simp [e]
  simp at hc h1
  omega
theorem wpAny_inv (hd : depB ops = true) (I : (Nat → Bool) → Act → World → Prop)
    (hs : ∀ L a w i, i < ops.size → I L a w → L i = false → (∀ o, ops[i]? = some o → ∀ e ∈ o.after, Region.binds .any e = true → L e.on = true) → wpOp P ops Q i (fun a' w' => I (upd L i) a' w') a w)
    (hq : ∀ L a w, I L a w → (∀ i, L i = true) → Q .normal a w) :
    ∀ (fuel : Nat) (l : Array Bool) (a : Act) (w : World), l.size = ops.size → l.toList.count false ≤ fuel → I (fun i => l.getD i true) a w → wpAny P .any ops Q fuel l a w := by
  intro fuel
  induction fuel with
  | zero =>
    intro l a w hz hc hI
    have all : ∀ i, l.getD i true = true := by
      intro i
      by_cases hi : i < l.size
      · cases e : l.getD i true with
        | true => rfl
        | false =>
          exfalso
          have e' : l[i] = false := by simpa [Array.getD, hi] using e
          have : 0 < l.toList.count false := List.count_pos_iff.2 (by rw [← e']; simp)
          omega
      · exact getD_out hi true
    refine ⟨?_, hq _ _ _ hI all⟩
    rw [List.eq_nil_iff_forall_not_mem]
    intro i hi
    have := (mem_ready.1 hi).1
    rw [all i] at this
    cases this
  | succ fuel ih =>
    intro l a w hz hc hI
    refine ⟨fun hr => hq _ _ _ hI (all_of_ready hd hz hr), fun i hi => ?_⟩
    obtain ⟨h1, o, ho, h2⟩ := mem_ready.1 hi
    have hlt := (Array.getElem?_eq_some_iff.1 ho).1
    refine wpOp_mono (fun a' w' h => ih _ a' w' (by simpa using hz) (count_upd (by omega) h1 hc) ?_) (hs _ a w i hlt hI h1 (fun o' ho' e he hb => ?_))
    · have e : (fun j => (l.setIfInBounds i true).getD j true) = upd (fun j => l.getD j true) i := by
        funext j
        unfold upd
        by_cases e : j = i
        · subst e
          have hj : j < l.size := by omega
          simp [Array.getD, hj]
        · rw [if_neg e]
          by_cases hj : j < l.size
          · simp [Array.getD, hj, Ne.symm e]
          · simp [Array.getD, hj]
      rw [e]
      exact h
    · rw [ho] at ho'
      cases ho'
      have hon := dep_of hd ho he hb
      have := h2 e he hb
      rw [getD_in (by omega) false true] at this
      exact this
/-- What operation number i of a list waits for. -/
def waits (l : List Oper) (i : Nat) : List Nat := ((l[i]?).map fun o => (o.after.toList.filter (Region.binds .any)).map (·.on)).getD []
theorem wp_region_inv {id : Nat} {a : Act} {w : World} {l : List Oper} (hm : P.follows .mixedOrders = true) (hd : depB l.toArray = true) (I : (Nat → Bool) → Act → World → Prop)
    (h0 : I (fun i => decide (l.length ≤ i)) a w.drew)
    (hs : ∀ L a w i, i < l.length → I L a w → L i = false → (∀ d, (waits l i).contains d = true → L d = true) → wpOp P l.toArray Q i (fun a' w' => I (upd L i) a' w') a w)
    (hq : ∀ L a w, I L a w → (∀ i, L i = true) → Q .normal a w) : (Code.region id l.toArray true).wp P Q a w := by
  refine wp_region_any hm (wpAny_inv hd I (fun L a w i hi hI hL hdep => hs L a w i (by simpa using hi) hI hL (fun d hd' => ?_)) hq _ _ _ _ (by simp) (by simp) ?_)
  · unfold waits at hd'
    cases ho : l[i]? with
    | none => rw [ho] at hd'; simp at hd'
    | some o =>
      rw [ho] at hd'
      simp only [Option.map_some, Option.getD_some] at hd'
      have hm := List.contains_iff_mem.1 hd'
      obtain ⟨e, he, rfl⟩ := List.mem_map.1 hm
      obtain ⟨h1, h2⟩ := List.mem_filter.1 he
      exact hdep o (by simpa using ho) e (by simpa using h1) h2
  · have e : (fun i => (Array.replicate l.toArray.size false).getD i true) = fun i => decide (l.length ≤ i) := by
      funext i
      by_cases h : i < l.length
      · simp [Array.getD, h]
      · simp [Array.getD, h]; omega
    rw [e]
    exact h0
/-- An operation, read off the region's own list. -/
theorem op_at {l : List Oper} {i : Nat} {o : Oper} {K : Act → World → Prop} {a : Act} {w : World} (ho : l[i]? = some o)
    (h : ∀ K' : Act → World → Prop, (∀ a w, K a w → K' a w) → if Region.wanted o (yielded l.toArray a.tmps) = true then Oper.wp P o a w K' Q else K' (a.put o.dst undef) w) : wpOp P l.toArray Q i K a w :=
  wpOp_step (by simpa using ho) h
end Go.Proofs.Ytkkbccppfppalaa.Rg
namespace Go.Proofs.Ytkkbccppfppalaa.Vv
open Go.ChangeShapes Go.WideShapes Go.ChangeAt Go.RowKit
set_option linter.unusedVariables false
theorem hidIt {p : Prop} (h : p) : Hid p := h
/-- A slice: where it begins, how long it is, how much room it has. -/
abbrev Sl := Option Addr × Nat × Nat
abbrev sv (x : Sl) : Value := .slice x.1 x.2.1 x.2.2
abbrev Rw := Sl × Sl
/-- One as a value. -/
abbrev rv (x : Rw) : Value := .agg #[sv x.1, sv x.2]
abbrev rc (x : Rw) : Array Value := #[sv x.1, sv x.2]
def rat (L : List Rw) (i : Nat) : Rw := L.getD i ((none, 0, 0), (none, 0, 0))
theorem rat_at {L : List Rw} {i : Nat} (h : i < L.length) : rat L i = L[i] := by
  unfold rat
  rw [List.getD_eq_getElem?_getD, List.getElem?_eq_getElem h]
  rfl
theorem rat_getElem? {L : List Rw} {i : Nat} (h : i < L.length) : L[i]? = some (rat L i) := by rw [rat_at h, List.getElem?_eq_getElem h]
theorem rat_mem {L : List Rw} {i : Nat} (h : i < L.length) : rat L i ∈ L := by rw [rat_at h]; exact List.getElem_mem h
theorem rat_set {L : List Rw} {i j : Nat} {x : Rw} (h : i < L.length) : rat (L.set i x) j = if i = j then x else rat L j := by
  unfold rat
  rw [List.getD_eq_getElem?_getD, List.getD_eq_getElem?_getD, List.getElem?_set]
  by_cases e : i = j
  · subst e; simp [h]
  · simp [e]
theorem rat_take {L : List Rw} {k i : Nat} (h : i < k) : rat (L.take k) i = rat L i := by
  unfold rat
  rw [List.getD_eq_getElem?_getD, List.getD_eq_getElem?_getD, List.getElem?_take, if_pos h]
theorem take_rat {L : List Rw} {i : Nat} (h : i < L.length) : L.take (i + 1) = L.take i ++ [rat L i] := by
  rw [List.take_add_one, rat_getElem? h]
  rfl
theorem ext_rat {L M : List Rw} (h : L.length = M.length) (e : ∀ i, i < L.length → rat L i = rat M i) : L = M := by
  apply List.ext_getElem?
  intro i
  by_cases hi : i < L.length
  · rw [rat_getElem? hi, rat_getElem? (by omega), e i hi]
  · rw [List.getElem?_eq_none (by omega), List.getElem?_eq_none (by omega)]
def rcell (x : Rw) : Nat → Value
  | 0 => sv x.1
  | _ => sv x.2
def rcells : List Rw → List Value
  | [] => []
  | x :: r => sv x.1 :: sv x.2 :: rcells r
theorem rcells_cons (x : Rw) (r : List Rw) : rcells (x :: r) = sv x.1 :: sv x.2 :: rcells r := rfl
theorem rcells_length (L : List Rw) : (rcells L).length = L.length * 2 := by
  induction L with
  | nil => rfl
  | cons x r ih => simp only [rcells_cons, List.length_cons, ih]; omega
theorem rcells_append (L M : List Rw) : rcells (L ++ M) = rcells L ++ rcells M := by
  induction L with
  | nil => rfl
  | cons x r ih => rw [List.cons_append, rcells_cons, rcells_cons, ih]; rfl
theorem rcells_one (L : List Rw) : ∀ u ∈ rcells L, u.oneCell' = true := by
  induction L with
  | nil => intro u hu; cases hu
  | cons x r ih =>
    intro u hu
    rw [rcells_cons] at hu
    simp only [List.mem_cons] at hu
    rcases hu with rfl | rfl | hu
    · rfl
    · rfl
    · exact ih u hu
theorem rcells_get (L : List Rw) : ∀ i j, i < L.length → j < 2 → (rcells L)[i * 2 + j]? = some (rcell (rat L i) j) := by
  induction L with
  | nil => intro i j hi; simp at hi
  | cons x r ih =>
    intro i j hi hj
    cases i with
    | zero =>
      match j, hj with
      | 0, _ => rfl
      | 1, _ => rfl
    | succ k =>
      rw [rcells_cons, show (k + 1) * 2 + j = k * 2 + j + 1 + 1 by omega, List.getElem?_cons_succ, List.getElem?_cons_succ, ih k j (by simp at hi; omega) hj]
      rfl
theorem rcells_set (L : List Rw) : ∀ i j (v : Value) (y : Rw), i < L.length → j < 2 → (∀ k, k < 2 → rcell y k = if k = j then v else rcell (rat L i) k) → (rcells L).set (i * 2 + j) v = rcells (L.set i y) := by
  induction L with
  | nil => intro i j v y hi; simp at hi
  | cons x r ih =>
    intro i j v y hi hj h
    cases i with
    | zero =>
      have e0 := h 0 (by omega)
      have e1 := h 1 (by omega)
      rw [List.set_cons_zero, rcells_cons y r, show (sv y.1 : Value) = rcell y 0 from rfl, show (sv y.2 : Value) = rcell y 1 from rfl, e0, e1]
      match j, hj with
      | 0, _ => rfl
      | 1, _ => rfl
    | succ k =>
      rw [rcells_cons, show (k + 1) * 2 + j = k * 2 + j + 1 + 1 by omega, List.set_cons_succ, List.set_cons_succ, ih k j v y (by simp at hi; omega) hj (fun n hn => h n hn)]
      rfl
theorem rcells_swap_len (L : List Rw) (i j : Nat) (x y : Rw) : ((L.set i x).set j y).length = L.length := by rw [List.length_set, List.length_set]
/-- A slice at address a reads as the list L. -/
structure Rd (w : World) (a : Option Addr) (L : List Rw) : Prop where
  cell : ∀ i, i < L.length → ∃ b off, a = some ⟨b, off, none⟩ ∧ ∀ j, j < 2 → w.cell? ⟨b, off + (i * 2 + j), none⟩ = some (rcell (rat L i) j)
theorem Rd.all {w : World} {a : Option Addr} {L : List Rw} (h : Rd w a L) {i : Nat} (hi : i < L.length) : ∃ b off, a = some ⟨b, off, none⟩ ∧ w.cell? ⟨b, off + i * 2, none⟩ = some (sv (rat L i).1) ∧ w.cell? ⟨b, off + i * 2 + 1, none⟩ = some (sv (rat L i).2) := by
  obtain ⟨b, off, e, c⟩ := h.cell i hi
  exact ⟨b, off, e, c 0 (by omega), by rw [Nat.add_assoc]; exact c 1 (by omega)⟩
theorem cell_block {w : World} {b o : Nat} {v : Value} (h : w.cell? ⟨b, o, none⟩ = some v) : b < w.heap.size := World.block_lt_of_cell? w ⟨b, o, none⟩ h
theorem Rd.kept {w w' : World} {a : Option Addr} {L : List Rw} (h : Rd w a L) (k : Below w.heap.size w w') : Rd w' a L :=
  ⟨fun i hi => by
    obtain ⟨b, off, e, c⟩ := h.cell i hi
    exact ⟨b, off, e, fun j hj => by rw [k.cell (by simpa using cell_block (c j hj))]; exact c j hj⟩⟩
theorem Rd.alloc {w : World} {a : Option Addr} {L : List Rw} (h : Rd w a L) (o : Obj) : Rd (w.alloc o) a L := h.kept ((Below.refl _ _).alloc (Nat.le_refl _) o)
theorem Rd.drew {w : World} {a : Option Addr} {L : List Rw} (h : Rd w a L) : Rd w.drew a L := ⟨h.cell⟩
theorem Rd.take {w : World} {a : Option Addr} {L : List Rw} (h : Rd w a L) (k : Nat) : Rd w a (L.take k) :=
  ⟨fun i hi => by
    rw [List.length_take] at hi
    rw [rat_take (by omega)]
    exact h.cell i (by omega)⟩
theorem Rd.nil (w : World) (a : Option Addr) : Rd w a [] := ⟨fun i hi => by simp at hi⟩
theorem Rd.none_nil {w : World} {L : List Rw} (h : Rd w none L) : L = [] := by
  cases L with
  | nil => rfl
  | cons x r => obtain ⟨b, off, e, _⟩ := h.cell 0 (by simp); cases e
/-- The slice v owns the list L in a row of the call's own. -/
def Own (w : World) (base : Nat) (v : Value) (L : List Rw) : Prop := w.ownsRow base 43 2 v L.length (rcells L)
theorem Own.form {w : World} {base : Nat} {v : Value} {L : List Rw} (h : Own w base v L) : ∃ a cap, v = .slice a L.length cap ∧ L.length ≤ cap ∧ cap ≤ maxLen ∧ Rd w a L ∧ (a = none → cap = 0) ∧ (∀ x, a = some x → ∃ g, x = ⟨g, 0, none⟩ ∧ base ≤ g ∧ g < w.heap.size) := by
  have h' := h
  rcases h.2 with ⟨rfl, h0⟩ | ⟨g, cap, cur, rfl, hb, hg, hn, hm, rest⟩
  · exact ⟨none, 0, by rw [h0], by omega, by decide, ⟨fun i hi => by omega⟩, fun _ => rfl, fun x hx => by cases hx⟩
  · refine ⟨some ⟨g, 0, none⟩, cap, rfl, hn, hm, ⟨fun i hi => ⟨g, 0, rfl, fun j hj => ?_⟩⟩, (fun e => by cases e), fun x hx => ⟨g, by cases hx; rfl, hb, (Array.getElem?_eq_some_iff.1 hg).1⟩⟩
    rw [Nat.zero_add, World.ownsRow.cellAt h' _ (by omega), rcells_get _ _ _ hi hj]
theorem Own.formN {w : World} {base m : Nat} {v : Value} {L : List Rw} (h : Own w base v L) (hn : L.length = m) : ∃ a cap, v = .slice a m cap ∧ m ≤ cap ∧ cap ≤ maxLen ∧ Rd w a L := by
  subst hn
  obtain ⟨a, cap, e, h1, h2, r, _⟩ := h.form
  exact ⟨a, cap, e, h1, h2, r⟩
theorem Own.kept {w w' : World} {base : Nat} {v : Value} {L : List Rw} (h : Own w base v L) (k : Below w.heap.size w w') : Own w' base v L :=
  World.ownsRow.kept (row := none) h ⟨k.os, k.tape, k.output, k.size, fun i hi _ => k.block i hi⟩ (by cases v.ownBlock <;> simp)
theorem Own.alloc {w : World} {base : Nat} {v : Value} {L : List Rw} (h : Own w base v L) (o : Obj) : Own (w.alloc o) base v L := World.ownsRow.alloc h o
theorem Own.drew {w : World} {base : Nat} {v : Value} {L : List Rw} (h : Own w base v L) : Own w.drew base v L := h
theorem Own.only {w w' : World} {base c : Nat} {v : Value} {L : List Rw} (h : Own w base v L) (k : Only c w w') (hc : c < base ∨ ∀ g, v.ownBlock = some g → g ≠ c) : Own w' base v L := by
  refine World.ownsRow.kept h (row := some c) ⟨k.os, k.tape, k.output, k.size, fun i hi hne => k.block i hi (fun e => hne (by rw [e]))⟩ ?_
  cases hv : v.ownBlock with
  | none => exact .inl rfl
  | some g =>
    refine .inr (fun e => ?_)
    cases e
    rcases hc with hc | hc
    · have := (World.ownsRow.lt h _ hv).1; omega
    · exact hc _ hv rfl
theorem Own.mono {w : World} {base b' : Nat} {v : Value} {L : List Rw} (h : Own w base v L) (hb : b' ≤ base) : Own w b' v L := by
  refine ⟨h.1, ?_⟩
  rcases h.2 with h0 | ⟨g, cap, cur, e, hb', r⟩
  · exact .inl h0
  · exact .inr ⟨g, cap, cur, e, by omega, r⟩
theorem Own.new (w : World) : Own (w.alloc (.cells #[] 43)) w.heap.size (.slice (some ⟨w.heap.size, 0, none⟩) 0 0) [] :=
  World.ownsRow_made w #[] 0 (Nat.le_refl _) (by decide) rfl
theorem Own.ofNil (w : World) (base : Nat) : Own w base (.slice none 0 0) [] := World.ownsRow_nil _ _ _ _
theorem Own.one (w : World) (x : Rw) {k : Nat} (h : w.heap.size = k) : Own (w.alloc (.cells (rc x) 43)) k (.slice (some ⟨k, 0, none⟩) 1 1) [x] := by
  subst h
  exact ⟨rfl, .inr ⟨w.heap.size, 1, _, rfl, Nat.le_refl _, heap_alloc_new w _, Nat.le_refl _, by decide, rfl, rfl⟩⟩
theorem Own.more {w : World} {base : Nat} {v : Value} {L M : List Rw} (h : w.ownsRow base 43 2 v (L.length + M.length) (rcells L ++ rcells M)) : Own w base v (L ++ M) := by
  unfold Own
  rw [List.length_append, rcells_append]
  exact h
theorem Own.free {w : World} {base g m cap : Nat} {L : List Rw} (h : Own w base (.slice (some ⟨g, 0, none⟩) m cap) L) (j : Nat) : w.frozen? ⟨g, j, none⟩ = false := by
  obtain ⟨a, c', e, _⟩ := h.form
  cases e
  exact World.ownsRow.frozenAt h j
theorem Own.at {w : World} {base g m cap i j : Nat} {L : List Rw} (h : Own w base (.slice (some ⟨g, 0, none⟩) m cap) L) (hi : i < L.length) (hj : j < 2) : w.cell? ⟨g, i * 2 + j, none⟩ = some (rcell (rat L i) j) := by
  obtain ⟨a', c', e1, _, _, r, _⟩ := h.form
  cases e1
  obtain ⟨b', o', e2, k⟩ := r.cell i hi
  cases e2
  simpa using k j hj
/-- A store into one cell of number i. -/
theorem Own.set {w : World} {base g m cap i j : Nat} {L : List Rw} {v : Value} {y : Rw} (h : Own w base (.slice (some ⟨g, 0, none⟩) m cap) L) (hi : i < L.length) (hj : j < 2) (hy : ∀ k, k < 2 → rcell y k = if k = j then v else rcell (rat L i) k) :
    Own (w.setCell ⟨g, i * 2 + j, none⟩ v) base (.slice (some ⟨g, 0, none⟩) m cap) (L.set i y) := by
  obtain ⟨a, c', e, _⟩ := h.form
  cases e
  have := (World.ownsRow.stored h (i * 2 + j) v).1
  rw [rcells_set L i j v y hi hj hy] at this
  unfold Own
  rw [List.length_set]
  exact this
theorem grown_below {w w' : World} {base Bb : Nat} {v : Value} {L : List Rw} (h : Own w base v L) (g : w.grownBy w' v.ownBlock) (hB : Bb ≤ base) (hs : Bb ≤ w.heap.size) : Below Bb w w' :=
  ⟨g.os, g.tape, g.output, g.size, fun k hk => g.block k (by omega) (fun e => by have := (World.ownsRow.lt h k e.symm).1; omega)⟩
/-- All cells of number i stored, one after the other. -/
theorem Own.whole {w : World} {base g m cap i : Nat} {L : List Rw} (h : Own w base (.slice (some ⟨g, 0, none⟩) m cap) L) (hi : i < L.length) (y : Rw) :
    Own (((w.setCell ⟨g, i * 2, none⟩ (sv y.1)).setCell ⟨g, i * 2 + 1, none⟩ (sv y.2))) base (.slice (some ⟨g, 0, none⟩) m cap) (L.set i y) := by
  obtain ⟨y0, y1⟩ := y
  have h1 := h.set (i := i) (j := 0) (v := sv y0) (y := (y0, (rat L i).2)) hi (by omega) (fun k hk => by
    match k, hk with
    | 0, _ => rfl
    | 1, _ => rfl)
  have h2 := h1.set (i := i) (j := 1) (v := sv y1) (y := (y0, y1)) (by rw [List.length_set]; exact hi) (by omega) (fun k hk => by
    rw [rat_set hi, if_pos rfl]
    match k, hk with
    | 0, _ => rfl
    | 1, _ => rfl)
  rw [List.set_set] at h2
  exact h2
theorem infoRw : (Try.prog.info? 43).map (fun i => (i.zero, i.size, i.bytes)) = some (some (.agg #[sv (none, 0, 0), sv (none, 0, 0)]), 2, 48) := by kernel_rfl
theorem row_cell {w : World} {g : Nat} {cur : Array Value} {T : TypeId} {f : Nat × Nat} (hg : w.heap[g]? = some (.cells cur T f)) (j : Nat) : w.cell? ⟨g, j, none⟩ = cur[j]? := by simp [World.cell?, hg]
theorem rcells_split (M : List Rw) (k : Nat) (hk : k ≤ M.length) : rcells M = rcells (M.take k) ++ rcells (M.drop k) ∧ (rcells (M.take k)).length = k * 2 := by
  refine ⟨by rw [← rcells_append, List.take_append_drop], ?_⟩
  rw [rcells_length, List.length_take, Nat.min_eq_left hk]
theorem rcells_take (M : List Rw) (k : Nat) (hk : k ≤ M.length) : rcells (M.take k) = (rcells M).take (k * 2) := by
  obtain ⟨e, l⟩ := rcells_split M k hk
  rw [e, ← l, List.take_left]
theorem rcells_drop (M : List Rw) (k : Nat) (hk : k ≤ M.length) : rcells (M.drop k) = (rcells M).drop (k * 2) := by
  obtain ⟨e, l⟩ := rcells_split M k hk
  rw [e, ← l, List.drop_left]
/-- A row of one's own, looked into. -/
theorem own_row {w : World} {base g m cap : Nat} {M : List Rw} (h : Own w base (.slice (some ⟨g, 0, none⟩) m cap) M) : ∃ cur, base ≤ g ∧ w.heap[g]? = some (.cells cur 43 (0, 0)) ∧ M.length ≤ cap ∧ cap ≤ maxLen ∧ cur.size = cap * 2 ∧ cur.toList.take (M.length * 2) = rcells M ∧ M.length = m := by
  obtain ⟨a', c', e, _⟩ := h.form
  have em : M.length = m := by cases e; rfl
  rcases h.2 with ⟨e', _⟩ | ⟨g', cap', cur, e', hb, hg, hn, hm, hs, ht⟩
  · cases e'
  · cases e'
    exact ⟨cur, hb, hg, hn, hm, hs, ht, rfl⟩
/-- A piece of a row is read. -/
theorem Own.piece {w : World} {base g m cap : Nat} {M : List Rw} (h : Own w base (.slice (some ⟨g, 0, none⟩) m cap) M) (k : Nat) (hk : k ≤ M.length) : ∀ j u, (rcells (M.drop k))[j]? = some u → w.cell? ((⟨g, k * 2, none⟩ : Addr).add j) = some u := by
  intro j u hj
  obtain ⟨cur, _, hg, _, _, hsz, htk, _⟩ := own_row h
  rw [rcells_drop M k hk, List.getElem?_drop, ← htk, List.getElem?_take] at hj
  rw [Go.WideShapes.add_plain, row_cell hg]
  split at hj
  · rw [← Array.getElem?_toList]; exact hj
  · cases hj
theorem Own.front {w : World} {base g m cap : Nat} {M : List Rw} (h : Own w base (.slice (some ⟨g, 0, none⟩) m cap) M) (k : Nat) (hk : k ≤ M.length) : ∀ j u, (rcells (M.take k))[j]? = some u → w.cell? ((⟨g, 0, none⟩ : Addr).add j) = some u := by
  intro j u hj
  obtain ⟨cur, _, hg, _, _, hsz, htk, _⟩ := own_row h
  rw [rcells_take M k hk, List.getElem?_take] at hj
  rw [Go.WideShapes.add_plain, row_cell hg, Nat.zero_add]
  split at hj
  · rw [← htk, List.getElem?_take] at hj
    split at hj
    · rw [← Array.getElem?_toList]; exact hj
    · cases hj
  · cases hj
theorem Own.some_form {w : World} {base : Nat} {v : Value} {M : List Rw} (h : Own w base v M) (hv : v ≠ .slice none 0 0) : ∃ g cap, v = .slice (some ⟨g, 0, none⟩) M.length cap ∧ M.length ≤ cap ∧ cap ≤ 9223372036854775807 ∧ base ≤ g ∧ g < w.heap.size := by
  obtain ⟨a, cap, rfl, hc, hm, hR, hna, hs⟩ := h.form
  cases a with
  | none =>
    have e := hna rfl
    subst e
    have : M.length = 0 := by omega
    rw [this] at hv
    exact absurd rfl hv
  | some x =>
    obtain ⟨g, rfl, h1, h2⟩ := hs x rfl
    exact ⟨g, cap, rfl, hc, hm, h1, h2⟩
/-- What is read is there to be appended. -/
theorem Rd.cells {w : World} {b off : Nat} {L : List Rw} (h : Rd w (some ⟨b, off, none⟩) L) : ∀ j u, (rcells L)[j]? = some u → w.cell? ((⟨b, off, none⟩ : Addr).add j) = some u := by
  intro j u hj
  have hlt : j < L.length * 2 := by rw [← rcells_length]; exact (List.getElem?_eq_some_iff.1 hj).1
  obtain ⟨b', o', e, c⟩ := h.cell (j / 2) (by omega)
  cases e
  have hc := c (j % 2) (by omega)
  have hg := rcells_get L (j / 2) (j % 2) (by omega) (by omega)
  rw [show j / 2 * 2 + j % 2 = j by omega] at hc hg
  rw [hg] at hj
  rw [Go.WideShapes.add_plain, hc]
  exact hj
/-- An append onto a row of one's own, as one step of a region that draws its order; what is not nil stays so. -/
theorem step_append {ops : Array Oper} {o : Oper} {a : Act} {w : World} {K : Act → World → Prop} {Q : Exit → Act → World → Prop} {E : Prop}
    (hg : o.guard = none) (s x : Operand) (hop : o.op = Op.call { callee := Callee.builtin Builtin.append, args := #[s, x], argTypes := #[25, 25] })
    (base : Nat) (v : Value) (M N : List Rw) (hs : a.eval s = v) (hown : Own w base v M) (ad : Addr) (m c : Nat) (hm : N.length = m) (hx : a.eval x = .slice (some ad) m c) (hc : ∀ j u, (rcells N)[j]? = some u → w.cell? (ad.add j) = some u)
    (hl : M.length + m ≤ 1000) (hb : base ≤ w.heap.size)
    (hK : ∀ v' w', Own w' base v' (M ++ N) → w.grownBy w' v.ownBlock → (v' = .slice none 0 0 ↔ v = .slice none 0 0 ∧ m = 0) → K (a.put o.dst v') w') :
    if Region.wanted o (yielded ops a.tmps) = true then Oper.wp Try.prog o a w K Q else E := by
  have hw : Region.wanted o (yielded ops a.tmps) = true := by simp [Region.wanted, hg]
  obtain ⟨i0, hi0, hz0, hz1, hz2⟩ := info_parts infoRw
  rw [if_pos hw]
  obtain ⟨v', w', hrun, r1, r2, r3⟩ := run_append_own (P := Try.prog) w base 25 o.type 43 i0 (.agg #[sv (none, 0, 0), sv (none, 0, 0)]) 2 48 Try.underlying25 hi0 hz0 hz1 hz2 rfl (by decide) v M.length (rcells M) hown ad m c (rcells N) (by rw [rcells_length, hm]) hc (rcells_one _) (by unfold maxLen; omega) (by omega) hb
  unfold Oper.wp
  simp [execOp, hop, resolve, invoke, builtin, hs, hx, hrun, Result.andThen]
  exact hK v' w' (Own.more (by rw [hm]; exact r1)) r2 r3
/-- An append of nil onto a row of one's own, as one step of a region that draws its order. -/
theorem step_append_none {ops : Array Oper} {o : Oper} {a : Act} {w : World} {K : Act → World → Prop} {Q : Exit → Act → World → Prop} {E : Prop}
    (hg : o.guard = none) (s x : Operand) (hop : o.op = Op.call { callee := Callee.builtin Builtin.append, args := #[s, x], argTypes := #[25, 25] })
    (base : Nat) (v : Value) (M : List Rw) (hs : a.eval s = v) (hown : Own w base v M) (hx : a.eval x = .slice none 0 0)
    (hK : K (a.put o.dst v) w) : if Region.wanted o (yielded ops a.tmps) = true then Oper.wp Try.prog o a w K Q else E := by
  have hw : Region.wanted o (yielded ops a.tmps) = true := by simp [Region.wanted, hg]
  obtain ⟨i0, hi0, hz0, hz1, hz2⟩ := info_parts infoRw
  rw [if_pos hw]
  have hrun := run_append_owned_none (P := Try.prog) (w := w) base 25 o.type 43 i0 2 Try.underlying25 hi0 v M.length (rcells M) hown
  unfold Oper.wp
  simp [execOp, hop, resolve, invoke, builtin, hs, hx, hrun, Result.andThen]
  exact hK
theorem grown_cell1 {w w' : World} {r : Option Nat} (k : w.grownBy w' r) {b o : Nat} {v : Value} (h : w.cell? ⟨b, o, none⟩ = some v) (hr : some b ≠ r) : w'.cell? ⟨b, o, none⟩ = some v := by
  rw [World.cell?_of_block (w := w) (k.block b (cell_block h) hr)]
  exact h
/-- The block that a slice owns; of none, one that is not there. -/
def ob (w : World) (v : Value) : Nat := v.ownBlock.getD w.heap.size
theorem Own.lo {w w' : World} {b b' : Nat} {u v : Value} {M L : List Rw} (hu : Own w b u M) (hv : Own w b' v L) (Y : Only (ob w v) w w') (hlt : ∀ g, u.ownBlock = some g → g < b') : Own w' b u M := by
  refine hu.only Y (.inr fun g hg => ?_)
  have h1 := hlt g hg
  have h2 := (World.ownsRow.lt hu g hg).2
  unfold ob
  cases hvb : v.ownBlock with
  | none => simp; omega
  | some x => have := (World.ownsRow.lt hv x hvb).1; simp; omega
theorem Own.hi {w w' : World} {b b' : Nat} {u v : Value} {M L : List Rw} (hu : Own w b u M) (hv : Own w b' v L) (Y : Only (ob w v) w w') (hlt : ∀ g, v.ownBlock = some g → g < b) : Own w' b u M := by
  refine hu.only Y (.inr fun g hg => ?_)
  have h2 := World.ownsRow.lt hu g hg
  unfold ob
  cases hvb : v.ownBlock with
  | none => simp; omega
  | some x => have := hlt x hvb; simp; omega
theorem Own.blk {w : World} {b : Nat} {v : Value} {L : List Rw} (hv : Own w b v L) {X : Nat} (hX : w.heap.size ≤ X) : ∀ g, v.ownBlock = some g → g < X := fun g hg => by
  have := (World.ownsRow.lt hv g hg).2; omega
theorem ob_below {W w w' : World} {b B : Nat} {v : Value} {L : List Rw} (k : Below B W w) (hv : Own w b v L) (Y : Only (ob w v) w w') (hb : B ≤ b) (hs : B ≤ w.heap.size) : Below B W w' := by
  refine k.trans (Y.below ?_ hs)
  unfold ob
  cases hvb : v.ownBlock with
  | none => simpa using hs
  | some x => have := (World.ownsRow.lt hv x hvb).1; simp; omega
theorem rat_map (m : Nat) (f : Nat → Rw) (i : Nat) (hi : i < m) : rat ((List.range m).map f) i = f i := by
  unfold rat
  rw [List.getD_eq_getElem?_getD, List.getElem?_map, List.getElem?_range hi]
  rfl
theorem fresh (w : World) (x : Rw) (T : TypeId) : ∀ j u, (rcells [x])[j]? = some u → (w.alloc (.cells (rc x) T)).cell? ((⟨w.heap.size, 0, none⟩ : Addr).add j) = some u := by
  intro j u hj
  match j, hj with
  | 0, hj => simp [rcells] at hj; subst hj; simp [Addr.add]
  | 1, hj => simp [rcells] at hj; subst hj; simp [Addr.add]
  | j + 2, hj => simp [rcells] at hj
end Go.Proofs.Ytkkbccppfppalaa.Vv
namespace Go.Proofs.Ytkkbccppfppalaa.Rp
open Go.ChangeShapes Go.WideShapes Go.ChangeAt Go.RowKit
open Go.Proofs.Ytkkbccppfppalaa.Vv (Sl sv hidIt)
set_option linter.unusedVariables false
abbrev Rep := List En.Rw × List Mm.Rw
def rat (L : List Rep) (i : Nat) : Rep := L.getD i ([], [])
theorem rat_at {L : List Rep} {i : Nat} (h : i < L.length) : rat L i = L[i] := by
  unfold rat
  rw [List.getD_eq_getElem?_getD, List.getElem?_eq_getElem h]
  rfl
theorem rat_mem {L : List Rep} {i : Nat} (h : i < L.length) : rat L i ∈ L := by rw [rat_at h]; exact List.getElem_mem h
theorem rat_set {L : List Rep} {i j : Nat} {x : Rep} (h : i < L.length) : rat (L.set i x) j = if i = j then x else rat L j := by
  unfold rat
  rw [List.getD_eq_getElem?_getD, List.getD_eq_getElem?_getD, List.getElem?_set]
  by_cases e : i = j
  · subst e; simp [h]
  · simp [e]
theorem rat_app {L M : List Rep} {i : Nat} (h : i < L.length) : rat (L ++ M) i = rat L i := by
  unfold rat
  rw [List.getD_eq_getElem?_getD, List.getD_eq_getElem?_getD, List.getElem?_append_left h]
theorem rat_last (L : List Rep) (x : Rep) : rat (L ++ [x]) L.length = x := by
  unfold rat
  rw [List.getD_eq_getElem?_getD, List.getElem?_append_right (Nat.le_refl _)]
  simp
theorem rat_take {L : List Rep} {k i : Nat} (h : i < k) : rat (L.take k) i = rat L i := by
  unfold rat
  rw [List.getD_eq_getElem?_getD, List.getD_eq_getElem?_getD, List.getElem?_take, if_pos h]
theorem take_rat {L : List Rep} {i : Nat} (h : i < L.length) : L.take (i + 1) = L.take i ++ [rat L i] := by
  rw [List.take_add_one, List.getElem?_eq_getElem h, rat_at h]
  rfl
theorem ext_rat {L M : List Rep} (h : L.length = M.length) (e : ∀ i, i < L.length → rat L i = rat M i) : L = M := by
  refine List.ext_getElem h (fun i h1 h2 => ?_)
  rw [← rat_at h1, ← rat_at h2]
  exact e i h1
theorem vat_app {L M : List Vv.Rw} {i : Nat} (h : i < L.length) : Vv.rat (L ++ M) i = Vv.rat L i := by
  unfold Vv.rat
  rw [List.getD_eq_getElem?_getD, List.getD_eq_getElem?_getD, List.getElem?_append_left h]
theorem vat_last (L : List Vv.Rw) (x : Vv.Rw) : Vv.rat (L ++ [x]) L.length = x := by
  unfold Vv.rat
  rw [List.getD_eq_getElem?_getD, List.getElem?_append_right (Nat.le_refl _)]
  simp
/-- A slice that reads as a list of Entries. -/
structure RdE (w : World) (s : Sl) (L : List En.Rw) : Prop where
  len : s.2.1 = L.length
  rd : En.Rd w s.1 L
  na : s.1 = none → s.2.2 = 0
  le : L.length ≤ s.2.2
  cap : s.2.2 ≤ 9223372036854775807
structure RdM (w : World) (s : Sl) (L : List Mm.Rw) : Prop where
  len : s.2.1 = L.length
  rd : Mm.Rd w s.1 L
  na : s.1 = none → s.2.2 = 0
  le : L.length ≤ s.2.2
  cap : s.2.2 ≤ 9223372036854775807
theorem RdE.kept {w w' : World} {s : Sl} {L : List En.Rw} (h : RdE w s L) (k : Below w.heap.size w w') : RdE w' s L := ⟨h.len, h.rd.kept k, h.na, h.le, h.cap⟩
theorem RdM.kept {w w' : World} {s : Sl} {L : List Mm.Rw} (h : RdM w s L) (k : Below w.heap.size w w') : RdM w' s L := ⟨h.len, h.rd.kept k, h.na, h.le, h.cap⟩
theorem rdE_of {w : World} {base : Nat} {s : Sl} {L : List En.Rw} (h : En.Own w base (sv s) L) : RdE w s L := by
  obtain ⟨a, c, e, h1, h2, r, h4, _⟩ := h.form
  obtain ⟨s0, s1, s2⟩ := s
  simp only [sv, Value.slice.injEq] at e
  obtain ⟨rfl, rfl, rfl⟩ := e
  exact ⟨rfl, r, h4, h1, h2⟩
theorem rdM_of {w : World} {base : Nat} {s : Sl} {L : List Mm.Rw} (h : Mm.Own w base (sv s) L) : RdM w s L := by
  obtain ⟨a, c, e, h1, h2, r, h4, _⟩ := h.form
  obtain ⟨s0, s1, s2⟩ := s
  simp only [sv, Value.slice.injEq] at e
  obtain ⟨rfl, rfl, rfl⟩ := e
  exact ⟨rfl, r, h4, h1, h2⟩
theorem slE {w : World} {base : Nat} {v : Value} {L : List En.Rw} (h : En.Own w base v L) : ∃ s : Sl, v = sv s := by
  obtain ⟨a, c, e, _⟩ := h.form
  exact ⟨(a, L.length, c), e⟩
theorem slM {w : World} {base : Nat} {v : Value} {L : List Mm.Rw} (h : Mm.Own w base v L) : ∃ s : Sl, v = sv s := by
  obtain ⟨a, c, e, _⟩ := h.form
  exact ⟨(a, L.length, c), e⟩
/-- A slice at address a, whose pairs of slices are C, reads as the Replicas L. -/
structure RdC (w : World) (a : Option Addr) (C : List Vv.Rw) (L : List Rep) : Prop where
  len : C.length = L.length
  row : Vv.Rd w a C
  bk : ∀ i, i < L.length → RdE w (Vv.rat C i).1 (rat L i).1
  mb : ∀ i, i < L.length → RdM w (Vv.rat C i).2 (rat L i).2
def Rd (w : World) (a : Option Addr) (L : List Rep) : Prop := ∃ C, RdC w a C L
theorem RdC.kept {w w' : World} {a : Option Addr} {C : List Vv.Rw} {L : List Rep} (h : RdC w a C L) (k : Below w.heap.size w w') : RdC w' a C L :=
  ⟨h.len, h.row.kept k, fun i hi => (h.bk i hi).kept k, fun i hi => (h.mb i hi).kept k⟩
theorem Rd.kept {w w' : World} {a : Option Addr} {L : List Rep} (h : Rd w a L) (k : Below w.heap.size w w') : Rd w' a L := by
  obtain ⟨C, h⟩ := h
  exact ⟨C, h.kept k⟩
theorem Rd.nil (w : World) (a : Option Addr) : Rd w a [] := ⟨[], rfl, Vv.Rd.nil _ _, fun i hi => absurd hi (Nat.not_lt_zero _), fun i hi => absurd hi (Nat.not_lt_zero _)⟩
/-- One of them: the two slices, and what they read as. -/
theorem Rd.one {w : World} {a : Option Addr} {L : List Rep} (h : Rd w a L) {i : Nat} (hi : i < L.length) : ∃ b off s t, a = some ⟨b, off, none⟩ ∧ w.cell? ⟨b, off + i * 2, none⟩ = some (sv s) ∧ w.cell? ⟨b, off + i * 2 + 1, none⟩ = some (sv t) ∧ RdE w s (rat L i).1 ∧ RdM w t (rat L i).2 := by
  obtain ⟨C, h⟩ := h
  obtain ⟨b, off, e, c0, c1⟩ := h.row.all (i := i) (by rw [h.len]; exact hi)
  exact ⟨b, off, _, _, e, c0, c1, h.bk i hi, h.mb i hi⟩
theorem Rd.addr {w : World} {a : Option Addr} {L : List Rep} (h : Rd w a L) (hn : 0 < L.length) : ∃ b off, a = some ⟨b, off, none⟩ := by
  obtain ⟨b, off, _, _, e, _⟩ := h.one hn
  exact ⟨b, off, e⟩
/-- Nothing has turned but blocks from lo up to hi. -/
structure OnlyIn (lo hi : Nat) (w w' : World) : Prop where
  os : w'.os = w.os
  tape : w'.tape = w.tape
  output : w'.output = w.output
  size : w.heap.size ≤ w'.heap.size
  block : ∀ k, k < w.heap.size → ¬ (lo ≤ k ∧ k < hi) → w'.heap[k]? = w.heap[k]?
theorem OnlyIn.refl (lo hi : Nat) (w : World) : OnlyIn lo hi w w := ⟨rfl, rfl, rfl, Nat.le_refl _, fun _ _ _ => rfl⟩
theorem OnlyIn.trans {lo hi : Nat} {a b d : World} (h : OnlyIn lo hi a b) (k : OnlyIn lo hi b d) : OnlyIn lo hi a d :=
  ⟨k.os.trans h.os, k.tape.trans h.tape, k.output.trans h.output, Nat.le_trans h.size k.size, fun i hi hc => (k.block i (Nat.lt_of_lt_of_le hi h.size) hc).trans (h.block i hi hc)⟩
theorem OnlyIn.of_below {lo hi : Nat} {w w' : World} (h : Below w.heap.size w w') : OnlyIn lo hi w w' := ⟨h.os, h.tape, h.output, h.size, fun k hk _ => h.block k hk⟩
theorem OnlyIn.of_only {lo hi c : Nat} {w w' : World} (h : Only c w w') (hc : w.heap.size ≤ c ∨ (lo ≤ c ∧ c < hi)) : OnlyIn lo hi w w' :=
  ⟨h.os, h.tape, h.output, h.size, fun k hk hn => h.block k hk (fun e => by subst e; rcases hc with q | q; omega; exact hn q)⟩
theorem OnlyIn.below {lo hi B : Nat} {w w' : World} (h : OnlyIn lo hi w w') (hB : B ≤ lo) (hs : B ≤ w.heap.size) : Below B w w' := ⟨h.os, h.tape, h.output, h.size, fun k hk => h.block k (by omega) (by omega)⟩
/-- A row of which no block has turned. -/
theorem row_in {lo hi : Nat} {w w' : World} {b e s n : Nat} {v : Value} {xs : List Value} (h : w.ownsRow b e s v n xs) (Y : OnlyIn lo hi w w') (hd : ∀ g, v.ownBlock = some g → ¬ (lo ≤ g ∧ g < hi)) : w'.ownsRow b e s v n xs := by
  rcases h.2 with ⟨e1, e2⟩ | ⟨g, cap, cur, e1, hb, hg, r⟩
  · exact ⟨h.1, .inl ⟨e1, e2⟩⟩
  · refine ⟨h.1, .inr ⟨g, cap, cur, e1, hb, ?_, r⟩⟩
    rw [Y.block g (Array.getElem?_eq_some_iff.1 hg).1 (hd g (by rw [e1]; rfl))]
    exact hg
/-- Rows of unlike elements lie in unlike blocks. -/
theorem own_apart {w : World} {base base' e e' s s' n n' : Nat} {v v' : Value} {xs xs' : List Value} (h : w.ownsRow base e s v n xs) (h' : w.ownsRow base' e' s' v' n' xs') (hne : e ≠ e') : ∀ g, v.ownBlock = some g → v'.ownBlock ≠ some g := by
  intro g hg hg'
  rcases h.2 with ⟨e1, _⟩ | ⟨x, cap, cur, e1, _, hx, _⟩
  · rw [e1] at hg; cases hg
  · rcases h'.2 with ⟨e2, _⟩ | ⟨y, cap', cur', e2, _, hy, _⟩
    · rw [e2] at hg'; cases hg'
    · rw [e1] at hg
      rw [e2] at hg'
      cases hg
      cases hg'
      rw [hx] at hy
      cases hy
      exact hne rfl
/-- Nothing but one row's block has turned: another row stays. -/
theorem row_other {w w' : World} {b b' e e' s s' n n' : Nat} {u v : Value} {xs ys : List Value} (hu : w.ownsRow b e s u n xs) (hv : w.ownsRow b' e' s' v n' ys) (Y : Only (v.ownBlock.getD w.heap.size) w w') (hd : ∀ g, u.ownBlock = some g → v.ownBlock ≠ some g) : w'.ownsRow b e s u n xs := by
  refine World.ownsRow.kept hu (row := some (v.ownBlock.getD w.heap.size)) ⟨Y.os, Y.tape, Y.output, Y.size, fun i hi hne => Y.block i hi (fun e => hne (by rw [e]))⟩ ?_
  cases hub : u.ownBlock with
  | none => exact .inl rfl
  | some g =>
    refine .inr (fun e => ?_)
    have h2 := (World.ownsRow.lt hu g hub).2
    have e' := Option.some.inj e
    cases hvb : v.ownBlock with
    | none => rw [hvb] at e'; simp at e'; omega
    | some x => rw [hvb] at e'; simp at e'; subst e'; exact hd g hub hvb
/-- A list of Replicas of the call's own, in blocks from lo up to hi. -/
structure OwnC (w : World) (lo hi : Nat) (v : Value) (C : List Vv.Rw) (L : List Rep) : Prop where
  len : C.length = L.length
  row : Vv.Own w lo v C
  blk : ∀ g, v.ownBlock = some g → g < hi
  bk : ∀ i, i < L.length → En.Own w lo (sv (Vv.rat C i).1) (rat L i).1
  bb : ∀ i, i < L.length → ∀ g, (sv (Vv.rat C i).1).ownBlock = some g → g < hi
  mb : ∀ i, i < L.length → Mm.Own w lo (sv (Vv.rat C i).2) (rat L i).2
  bm : ∀ i, i < L.length → ∀ g, (sv (Vv.rat C i).2).ownBlock = some g → g < hi
  db : ∀ i j, i < L.length → j < L.length → i ≠ j → ∀ g, (sv (Vv.rat C i).1).ownBlock = some g → (sv (Vv.rat C j).1).ownBlock ≠ some g
  dm : ∀ i j, i < L.length → j < L.length → i ≠ j → ∀ g, (sv (Vv.rat C i).2).ownBlock = some g → (sv (Vv.rat C j).2).ownBlock ≠ some g
  hi' : hi ≤ w.heap.size
  lo' : lo ≤ hi
def Own (w : World) (lo hi : Nat) (v : Value) (L : List Rep) : Prop := ∃ C, OwnC w lo hi v C L
theorem OwnC.rd {w : World} {lo hi : Nat} {v : Value} {C : List Vv.Rw} {L : List Rep} (h : OwnC w lo hi v C L) {a : Option Addr} {m cap : Nat} (e : v = .slice a m cap) : RdC w a C L := by
  obtain ⟨a', c', e', _, _, r, _⟩ := h.row.form
  rw [e] at e'
  obtain ⟨rfl, _, _⟩ := Value.slice.inj e'
  exact ⟨h.len, r, fun i hi => rdE_of (h.bk i hi), fun i hi => rdM_of (h.mb i hi)⟩
theorem Own.rd {w : World} {lo hi : Nat} {L : List Rep} {a : Option Addr} {m cap : Nat} (h : Own w lo hi (.slice a m cap) L) : Rd w a L := by
  obtain ⟨C, h⟩ := h
  exact ⟨C, h.rd rfl⟩
theorem Own.form {w : World} {lo hi : Nat} {v : Value} {L : List Rep} (h : Own w lo hi v L) : ∃ a cap, v = .slice a L.length cap ∧ L.length ≤ cap ∧ cap ≤ 9223372036854775807 ∧ (a = none → cap = 0) := by
  obtain ⟨C, h⟩ := h
  obtain ⟨a', c', e', h1, h2, _, h4, _⟩ := h.row.form
  rw [h.len] at e' h1
  exact ⟨a', c', e', h1, h2, h4⟩
theorem Own.formN {w : World} {lo hi m : Nat} {v : Value} {L : List Rep} (h : Own w lo hi v L) (hn : L.length = m) : ∃ a cap, v = .slice a m cap ∧ m ≤ cap ∧ cap ≤ 9223372036854775807 ∧ (a = none → cap = 0) := by
  subst hn
  exact h.form
theorem OwnC.kept {w w' : World} {lo hi : Nat} {v : Value} {C : List Vv.Rw} {L : List Rep} (h : OwnC w lo hi v C L) (k : Below w.heap.size w w') : OwnC w' lo hi v C L :=
  ⟨h.len, h.row.kept k, h.blk, fun i hi => (h.bk i hi).kept k, h.bb, fun i hi => (h.mb i hi).kept k, h.bm, h.db, h.dm, Nat.le_trans h.hi' k.size, h.lo'⟩
theorem Own.kept {w w' : World} {lo hi : Nat} {v : Value} {L : List Rep} (h : Own w lo hi v L) (k : Below w.heap.size w w') : Own w' lo hi v L := by
  obtain ⟨C, h⟩ := h
  exact ⟨C, h.kept k⟩
/-- What turns in other blocks leaves it. -/
theorem OwnC.apart {w w' : World} {lo hi lo' hi' : Nat} {v : Value} {C : List Vv.Rw} {L : List Rep} (h : OwnC w lo hi v C L) (Y : OnlyIn lo' hi' w w') (hd : hi ≤ lo' ∨ hi' ≤ lo) : OwnC w' lo hi v C L := by
  have go : ∀ (u : Value) (e s n : Nat) (xs : List Value), w.ownsRow lo e s u n xs → (∀ g, u.ownBlock = some g → g < hi) → w'.ownsRow lo e s u n xs := fun u e s n xs hu hb =>
    row_in hu Y (fun g hg => by have h1 := (World.ownsRow.lt hu g hg).1; have h2 := hb g hg; omega)
  exact ⟨h.len, go _ _ _ _ _ h.row h.blk, h.blk, fun i hi => go _ _ _ _ _ (h.bk i hi) (h.bb i hi), h.bb, fun i hi => go _ _ _ _ _ (h.mb i hi) (h.bm i hi), h.bm, h.db, h.dm, Nat.le_trans h.hi' Y.size, h.lo'⟩
theorem Own.apart {w w' : World} {lo hi lo' hi' : Nat} {v : Value} {L : List Rep} (h : Own w lo hi v L) (Y : OnlyIn lo' hi' w w') (hd : hi ≤ lo' ∨ hi' ≤ lo) : Own w' lo hi v L := by
  obtain ⟨C, h⟩ := h
  exact ⟨C, h.apart Y hd⟩
theorem Own.mono {w : World} {lo hi lo2 hi2 : Nat} {v : Value} {L : List Rep} (h : Own w lo hi v L) (h1 : lo2 ≤ lo) (h2 : hi ≤ hi2) (h3 : hi2 ≤ w.heap.size) : Own w lo2 hi2 v L := by
  obtain ⟨C, h⟩ := h
  exact ⟨C, h.len, h.row.mono h1, fun g hg => Nat.lt_of_lt_of_le (h.blk g hg) h2, fun i hi => (h.bk i hi).mono h1, fun i hi g hg => Nat.lt_of_lt_of_le (h.bb i hi g hg) h2, fun i hi => (h.mb i hi).mono h1, fun i hi g hg => Nat.lt_of_lt_of_le (h.bm i hi g hg) h2, h.db, h.dm, h3, by have := h.lo'; omega⟩
theorem Own.new (w : World) : Own (w.alloc (.cells #[] 43)) w.heap.size (w.heap.size + 1) (.slice (some ⟨w.heap.size, 0, none⟩) 0 0) [] :=
  ⟨[], rfl, Vv.Own.new w, fun g hg => by simp [Value.ownBlock] at hg; omega, fun i hi => absurd hi (Nat.not_lt_zero _), fun i hi => absurd hi (Nat.not_lt_zero _), fun i hi => absurd hi (Nat.not_lt_zero _), fun i hi => absurd hi (Nat.not_lt_zero _), fun i j hi => absurd hi (Nat.not_lt_zero _), fun i j hi => absurd hi (Nat.not_lt_zero _), by simp, by omega⟩
theorem Own.lo_le {w : World} {lo hi : Nat} {v : Value} {L : List Rep} (h : Own w lo hi v L) : lo ≤ hi ∧ hi ≤ w.heap.size := by
  obtain ⟨C, h⟩ := h
  exact ⟨h.lo', h.hi'⟩
theorem setTwo_only {w : World} {g o : Nat} {u v : Value} : Only g w ((w.setCell ⟨g, o, none⟩ u).setCell ⟨g, o + 1, none⟩ v) := ((Only.refl g w).setCell o u).setCell (o + 1) v
/-- Two slices, younger than all that is there, put in at place i. -/
theorem OwnC.put {w : World} {lo hi g m cap i : Nat} {C : List Vv.Rw} {L : List Rep} (h : OwnC w lo hi (.slice (some ⟨g, 0, none⟩) m cap) C L) (hi' : i < L.length) {s t : Sl} {r : Rep} (hs : En.Own w hi (sv s) r.1) (ht : Mm.Own w hi (sv t) r.2) :
    OwnC ((w.setCell ⟨g, i * 2, none⟩ (sv s)).setCell ⟨g, i * 2 + 1, none⟩ (sv t)) lo w.heap.size (.slice (some ⟨g, 0, none⟩) m cap) (C.set i (s, t)) (L.set i r) := by
  have hC : i < C.length := by rw [h.len]; exact hi'
  have Y := setTwo_only (w := w) (g := g) (o := i * 2) (u := sv s) (v := sv t)
  have sz : ((w.setCell ⟨g, i * 2, none⟩ (sv s)).setCell ⟨g, i * 2 + 1, none⟩ (sv t)).heap.size = w.heap.size := by simp [World.setCell]
  have hlo := h.lo'
  have apE : ∀ {b : Nat} {u : Value} {M : List En.Rw}, En.Own w b u M → ∀ x, u.ownBlock = some x → x ≠ g := fun hu x hx e => own_apart hu h.row (by decide) x hx (by rw [e]; rfl)
  have apM : ∀ {b : Nat} {u : Value} {M : List Mm.Rw}, Mm.Own w b u M → ∀ x, u.ownBlock = some x → x ≠ g := fun hu x hx e => own_apart hu h.row (by decide) x hx (by rw [e]; rfl)
  refine ⟨by rw [List.length_set, List.length_set]; exact h.len, h.row.whole hC (s, t), fun x hx => Nat.lt_of_lt_of_le (h.blk x hx) h.hi', fun j hj => ?_, fun j hj x hx => ?_, fun j hj => ?_, fun j hj x hx => ?_, fun j k hj hk hne x hx hy => ?_, fun j k hj hk hne x hx hy => ?_, by rw [sz]; exact Nat.le_refl _, Nat.le_trans hlo h.hi'⟩
  all_goals rw [List.length_set] at hj
  · rw [Vv.rat_set hC, rat_set hi']
    by_cases e : i = j
    · rw [if_pos e, if_pos e]
      exact (hs.mono hlo).only Y (.inr (apE hs))
    · rw [if_neg e, if_neg e]
      exact (h.bk j hj).only Y (.inr (apE (h.bk j hj)))
  · rw [Vv.rat_set hC] at hx
    by_cases e : i = j
    · rw [if_pos e] at hx
      exact (World.ownsRow.lt hs x hx).2
    · rw [if_neg e] at hx
      exact Nat.lt_of_lt_of_le (h.bb j hj x hx) h.hi'
  · rw [Vv.rat_set hC, rat_set hi']
    by_cases e : i = j
    · rw [if_pos e, if_pos e]
      exact (ht.mono hlo).only Y (.inr (apM ht))
    · rw [if_neg e, if_neg e]
      exact (h.mb j hj).only Y (.inr (apM (h.mb j hj)))
  · rw [Vv.rat_set hC] at hx
    by_cases e : i = j
    · rw [if_pos e] at hx
      exact (World.ownsRow.lt ht x hx).2
    · rw [if_neg e] at hx
      exact Nat.lt_of_lt_of_le (h.bm j hj x hx) h.hi'
  · rw [List.length_set] at hk
    rw [Vv.rat_set hC] at hx hy
    by_cases e : i = j
    · rw [if_pos e] at hx
      rw [if_neg (by omega)] at hy
      have h1 := (World.ownsRow.lt hs x hx).1
      have h2 := h.bb k hk x hy
      omega
    · rw [if_neg e] at hx
      by_cases e2 : i = k
      · rw [if_pos e2] at hy
        have h1 := (World.ownsRow.lt hs x hy).1
        have h2 := h.bb j hj x hx
        omega
      · rw [if_neg e2] at hy
        exact h.db j k hj hk hne x hx hy
  · rw [List.length_set] at hk
    rw [Vv.rat_set hC] at hx hy
    by_cases e : i = j
    · rw [if_pos e] at hx
      rw [if_neg (by omega)] at hy
      have h1 := (World.ownsRow.lt ht x hx).1
      have h2 := h.bm k hk x hy
      omega
    · rw [if_neg e] at hx
      by_cases e2 : i = k
      · rw [if_pos e2] at hy
        have h1 := (World.ownsRow.lt ht x hy).1
        have h2 := h.bm j hj x hx
        omega
      · rw [if_neg e2] at hy
        exact h.dm j k hj hk hne x hx hy
theorem Own.put {w : World} {lo hi g m cap i : Nat} {L : List Rep} (h : Own w lo hi (.slice (some ⟨g, 0, none⟩) m cap) L) (hi' : i < L.length) {s t : Sl} {r : Rep} (hs : En.Own w hi (sv s) r.1) (ht : Mm.Own w hi (sv t) r.2) :
    Own ((w.setCell ⟨g, i * 2, none⟩ (sv s)).setCell ⟨g, i * 2 + 1, none⟩ (sv t)) lo w.heap.size (.slice (some ⟨g, 0, none⟩) m cap) (L.set i r) := by
  obtain ⟨C, h⟩ := h
  exact ⟨_, h.put hi' hs ht⟩
/-- What is read and written at place i. -/
theorem Own.cells {w : World} {lo hi g m cap i : Nat} {L : List Rep} (h : Own w lo hi (.slice (some ⟨g, 0, none⟩) m cap) L) (hi' : i < L.length) : ∃ s t : Sl, w.cell? ⟨g, i * 2, none⟩ = some (sv s) ∧ w.cell? ⟨g, i * 2 + 1, none⟩ = some (sv t) ∧ w.frozen? ⟨g, i * 2, none⟩ = false ∧ w.frozen? ⟨g, i * 2 + 1, none⟩ = false ∧ En.Own w lo (sv s) (rat L i).1 ∧ Mm.Own w lo (sv t) (rat L i).2 := by
  obtain ⟨C, h⟩ := h
  have hC : i < C.length := by rw [h.len]; exact hi'
  have c0 := h.row.at hC (j := 0) (by omega)
  have c1 := h.row.at hC (j := 1) (by omega)
  simp only [Vv.rcell, Nat.add_zero] at c0 c1
  exact ⟨_, _, c0, c1, h.row.free _, h.row.free _, h.bk i hi', h.mb i hi'⟩
theorem Own.grow {w : World} {lo hi : Nat} {v : Value} {L : List Rep} (h : Own w lo hi v L) : Own w lo w.heap.size v L := h.mono (Nat.le_refl _) h.lo_le.2 (Nat.le_refl _)
/-- A row that is made: nothing in any place. -/
theorem Own.made {w : World} {lo m : Nat} {v : Value} (h : Vv.Own w lo v (List.replicate m ((none, 0, 0), (none, 0, 0)))) (hl : lo ≤ w.heap.size) : Own w lo w.heap.size v (List.replicate m ([], [])) := by
  have ev : ∀ i, Vv.rat (List.replicate m (((none, 0, 0), (none, 0, 0)) : Vv.Rw)) i = ((none, 0, 0), (none, 0, 0)) := fun i => by
    unfold Vv.rat
    rw [List.getD_eq_getElem?_getD, List.getElem?_replicate]
    split <;> rfl
  have er : ∀ i, rat (List.replicate m (([], []) : Rep)) i = ([], []) := fun i => by
    unfold rat
    rw [List.getD_eq_getElem?_getD, List.getElem?_replicate]
    split <;> rfl
  refine ⟨_, by simp, h, fun g hg => (World.ownsRow.lt h g hg).2, fun i _ => by rw [ev, er]; exact En.Own.ofNil _ _, fun i _ g hg => ?_, fun i _ => by rw [ev, er]; exact Mm.Own.ofNil _ _, fun i _ g hg => ?_, fun i j _ _ _ g hg => ?_, fun i j _ _ _ g hg => ?_, Nat.le_refl _, hl⟩
  all_goals (rw [ev] at hg; cases hg)
/-- What only one row has grown by leaves another one. -/
theorem row_grown {w w' : World} {b b' e e' s s' n n' : Nat} {u v : Value} {xs ys : List Value} (hu : w.ownsRow b e s u n xs) (hv : w.ownsRow b' e' s' v n' ys) (g : w.grownBy w' v.ownBlock) (hd : ∀ x, u.ownBlock = some x → v.ownBlock ≠ some x) : w'.ownsRow b e s u n xs :=
  World.ownsRow.kept hu g (by
    cases hub : u.ownBlock with
    | none => exact .inl rfl
    | some x => exact .inr (fun e => hd x hub e.symm))
/-- One more, younger than all that is there. -/
theorem OwnC.more {w w' : World} {lo hi N : Nat} {v v' : Value} {C : List Vv.Rw} {L : List Rep} (h : OwnC w lo hi v C L) {s t : Sl} {r : Rep} (hv' : Vv.Own w' lo v' (C ++ [(s, t)])) (g : w.grownBy w' v.ownBlock) (hs : En.Own w N (sv s) r.1) (ht : Mm.Own w N (sv t) r.2) (hN : hi ≤ N) : OwnC w' lo w'.heap.size v' (C ++ [(s, t)]) (L ++ [r]) := by
  have hlo := h.lo'
  have sz := g.size
  have E : ∀ {b : Nat} {u : Value} {M : List En.Rw}, En.Own w b u M → En.Own w' b u M := fun hu => row_grown hu h.row g (own_apart hu h.row (by decide))
  have M : ∀ {b : Nat} {u : Value} {M : List Mm.Rw}, Mm.Own w b u M → Mm.Own w' b u M := fun hu => row_grown hu h.row g (own_apart hu h.row (by decide))
  have cs : ∀ j, j < (L ++ [r]).length → (j < L.length ∧ Vv.rat (C ++ [(s, t)]) j = Vv.rat C j ∧ rat (L ++ [r]) j = rat L j) ∨ (j = L.length ∧ Vv.rat (C ++ [(s, t)]) j = (s, t) ∧ rat (L ++ [r]) j = r) := fun j hj => by
    rw [List.length_append, List.length_singleton] at hj
    by_cases q : j < L.length
    · exact .inl ⟨q, vat_app (by rw [h.len]; exact q), rat_app q⟩
    · obtain rfl : j = L.length := by omega
      exact .inr ⟨rfl, by rw [← h.len]; exact vat_last C (s, t), rat_last L r⟩
  refine ⟨by rw [List.length_append, List.length_append, h.len]; rfl, hv', fun x hx => (World.ownsRow.lt hv' x hx).2, fun j hj => ?_, fun j hj x hx => ?_, fun j hj => ?_, fun j hj x hx => ?_, fun j k hj hk hne x hx hy => ?_, fun j k hj hk hne x hx hy => ?_, Nat.le_refl _, Nat.le_trans hlo (Nat.le_trans h.hi' sz)⟩
  · rcases cs j hj with ⟨q, e1, e2⟩ | ⟨q, e1, e2⟩
    · rw [e1, e2]; exact E (h.bk j q)
    · rw [e1, e2]; exact (E hs).mono (by omega)
  · rcases cs j hj with ⟨q, e1, e2⟩ | ⟨q, e1, e2⟩
    · rw [e1] at hx; exact Nat.lt_of_lt_of_le (h.bb j q x hx) (Nat.le_trans h.hi' sz)
    · rw [e1] at hx; exact Nat.lt_of_lt_of_le (World.ownsRow.lt hs x hx).2 sz
  · rcases cs j hj with ⟨q, e1, e2⟩ | ⟨q, e1, e2⟩
    · rw [e1, e2]; exact M (h.mb j q)
    · rw [e1, e2]; exact (M ht).mono (by omega)
  · rcases cs j hj with ⟨q, e1, e2⟩ | ⟨q, e1, e2⟩
    · rw [e1] at hx; exact Nat.lt_of_lt_of_le (h.bm j q x hx) (Nat.le_trans h.hi' sz)
    · rw [e1] at hx; exact Nat.lt_of_lt_of_le (World.ownsRow.lt ht x hx).2 sz
  · rcases cs j hj with ⟨q, e1, e2⟩ | ⟨q, e1, e2⟩ <;> rcases cs k hk with ⟨q', e1', e2'⟩ | ⟨q', e1', e2'⟩ <;> rw [e1] at hx <;> rw [e1'] at hy
    · exact h.db j k q q' hne x hx hy
    · have a1 := h.bb j q x hx; have a2 := (World.ownsRow.lt hs x hy).1; omega
    · have a1 := h.bb k q' x hy; have a2 := (World.ownsRow.lt hs x hx).1; omega
    · omega
  · rcases cs j hj with ⟨q, e1, e2⟩ | ⟨q, e1, e2⟩ <;> rcases cs k hk with ⟨q', e1', e2'⟩ | ⟨q', e1', e2'⟩ <;> rw [e1] at hx <;> rw [e1'] at hy
    · exact h.dm j k q q' hne x hx hy
    · have a1 := h.bm j q x hx; have a2 := (World.ownsRow.lt ht x hy).1; omega
    · have a1 := h.bm k q' x hy; have a2 := (World.ownsRow.lt ht x hx).1; omega
    · omega
end Go.Proofs.Ytkkbccppfppalaa.Rp
namespace Go.Proofs.Ytkkbccppfppalaa.Rp
open Go.ChangeShapes Go.WideShapes Go.ChangeAt Go.RowKit
open Go.Proofs.Ytkkbccppfppalaa.Vv (Sl sv hidIt)
open Go.Proofs.Ytkkbccppfppalaa.Rc (BelowBy BelowBy.one wp_region_below calls_below calls_same)
set_option linter.unusedVariables false
theorem on {W a b : World} (h : Below W.heap.size W a) (k : Below a.heap.size a b) : Below W.heap.size W b := h.trans (k.mono h.size)
/-- How many Entries and Members a Replica has, and a list of them. -/
def bulk1 (r : Rep) : Nat := r.1.length + r.2.length
def bulk : List Rep → Nat
  | [] => 0
  | r :: L => bulk1 r + bulk L
theorem bulk_app (L M : List Rep) : bulk (L ++ M) = bulk L + bulk M := by
  induction L with
  | nil => simp [bulk]
  | cons r L ih => simp only [List.cons_append, bulk, ih]; omega
theorem bulk_take {L : List Rep} {i : Nat} (h : i < L.length) : bulk (L.take (i + 1)) = bulk (L.take i) + bulk1 (rat L i) := by
  rw [take_rat h, bulk_app]
  simp [bulk]
theorem bulk_take_le (L : List Rep) (i : Nat) : bulk (L.take i) ≤ bulk L := by
  have := bulk_app (L.take i) (L.drop i)
  rw [List.take_append_drop] at this
  omega
theorem bulk_one {L : List Rep} {i : Nat} (h : i < L.length) : bulk1 (rat L i) ≤ bulk L := by
  have h1 := bulk_take h
  have h2 := bulk_take_le L (i + 1)
  omega
/-- The texts of all its Entries are no longer than a text may be. -/
def Short (L : List Rep) : Prop := ∀ i, i < L.length → ∀ j, j < (rat L i).1.length → (En.rat (rat L i).1 j).1.size ≤ 9223372036854775807 ∧ (En.rat (rat L i).1 j).2.1.size ≤ 9223372036854775807
set_option maxRecDepth 100000 in
set_option maxHeartbeats 4000000 in
theorem sz_any (s t : Sl) (r : Rep) (l : Int) (w : World) (hE : RdE w s r.1) (hM : RdM w t r.2) (hs : ∀ j, j < r.1.length → (En.rat r.1 j).1.size ≤ 9223372036854775807 ∧ (En.rat r.1 j).2.1.size ≤ 9223372036854775807) (h0 : 0 ≤ l) (h1 : l ≤ 1048576) :
    Calls Try.prog 20 #[.agg #[sv s, sv t], .int .i64 l] w fun e w' => ∃ q : Int, e = .returned (.int .i64 q) ∧ En.Le2 q l (bulk1 r) ∧ Below w.heap.size w w' := by
  obtain ⟨s0, s1, s2⟩ := s
  obtain ⟨t0, t1, t2⟩ := t
  obtain ⟨e1, rE, nE, lE, cE⟩ := hE
  obtain ⟨e2, rM, nM, lM, cM⟩ := hM
  simp only at e1 rE nE lE cE e2 rM nM lM cM
  subst e1 e2
  have C1 := hidIt (fun W (k : En.Rd W s0 r.1) => En.szS_any s0 s2 r.1 l W k (by omega) hs h0 h1)
  have C2 := hidIt (fun l' W (k : Mm.Rd W t0 r.2) => Mm.szS_any t0 t2 r.2 l' W k (by omega))
  have HE := hidIt rE
  have HM := hidIt rM
  clear rE rM hs
  unfold bulk1
  generalize r.1.length = m1 at *
  generalize r.2.length = m2 at *
  have BX := hidIt (Bo.Box.new w #[.slice s0 m1 s2, .slice t0 m2 t2] 38)
  have HB := hidIt ((Below.refl w.heap.size w).alloc (Nat.le_refl _) (.cells #[.slice s0 m1 s2, .slice t0 m2 t2] 38))
  go_enter Try.func20, Try.ntmps20
  go_wp2_with (fail)
  refine (C1.out _ (HE.out.kept HB.out)).mono ?_
  rintro e w1 ⟨q, rfl, hq, _, k1⟩
  have HQ := hidIt hq
  have HB1 := hidIt (on HB.out k1)
  have b1 := (BX.out.kept k1).c 1 rfl
  have q1 := hq.le
  clear k1 hq
  by_cases hneg : q < 0
  · go_wp2_with (fail)
    go_ret
    first | exact ⟨-1, rfl, ⟨by omega, fun h => by omega⟩, HB1.out⟩ | exact ⟨⟨by omega, fun h => by omega⟩, HB1.out⟩
  · go_wp2_with (fail)
    refine (C2.out q _ (HM.out.kept HB1.out) (by omega) (by omega)).mono ?_
    rintro e w2 ⟨p, rfl, hp, _, k2⟩
    have HP := hidIt hp
    have HB2 := hidIt (on HB1.out k2)
    have p1 := hp.le
    clear k2 hp
    by_cases hneg2 : p < 0
    · go_wp2_with (fail)
      go_ret
      first | exact ⟨-1, rfl, ⟨by omega, fun h => by omega⟩, HB2.out⟩ | exact ⟨⟨by omega, fun h => by omega⟩, HB2.out⟩
    · go_wp2_with (fail)
      go_ret
      have h1 := HQ.out.sum (by omega)
      have h2 := HP.out.sum (by omega)
      first | exact ⟨p, rfl, ⟨by omega, fun h => by omega⟩, HB2.out⟩ | exact ⟨⟨by omega, fun h => by omega⟩, HB2.out⟩
set_option maxRecDepth 100000 in
set_option maxHeartbeats 4000000 in
theorem szS_any (a : Option Addr) (cap : Nat) (L : List Rep) (l : Int) (w : World) (h : Rd w a L) (hl : L.length ≤ 9223372036854775807) (hs : Short L) (h0 : 0 ≤ l) (h1 : l ≤ 1048576) :
    Calls Try.prog 7 #[.slice a L.length cap, .int .i64 l] w fun e w' => ∃ q : Int, e = .returned (.int .i64 q) ∧ En.Le2 q l (L.length + bulk L) ∧ Below w.heap.size w w' := by
  have HT := hidIt (fun i (hi : i < L.length) => bulk_take hi)
  have HE : Hid (bulk (L.take L.length) = bulk L) := hidIt (by rw [List.take_length])
  generalize hn : L.length = m at *
  have HR := hidIt h
  have HN := hidIt hn
  have HS := hidIt hs
  clear h hn hs
  have h2 : -9223372036854775808 ≤ l - (m : Int) := by omega
  have h3 : l - (m : Int) ≤ 9223372036854775807 := by omega
  by_cases hs2 : l - (m : Int) < 0
  · go_enter Try.func7, Try.ntmps7
    go_wp2
    go_ret
    first | exact ⟨-1, rfl, ⟨by omega, fun h => by omega⟩, Below.refl _ _⟩ | exact ⟨⟨by omega, fun h => by omega⟩, Below.refl _ _⟩
  · have hn2 : m ≤ 1048576 := by omega
    go_enter Try.func7, Try.ntmps7
    go_wp2_with (fail)
    go_loopw [1, 5] (fun z y wx => ∃ (i : Nat) (r : Int), y = .int .i64 i ∧ z = .int .i64 r ∧ 0 ≤ r ∧ r ≤ 1048576 ∧ Hid (r + (m : Int) + (bulk (L.take i) : Int) ≤ l) ∧ i ≤ m ∧ Hid (Below w.heap.size w wx)) (fun _ y _ => (m - intOf y).toNat)
    case atStart => exact ⟨0, _, rfl, rfl, by omega, by omega, hidIt (by first | (simp [bulk]; done) | (simp [bulk]; omega)), by omega, hidIt (Below.refl _ _)⟩
    case round =>
      obtain ⟨i, r, rfl, rfl, r0, r1, HL, hi, HB⟩ := hrel
      by_cases hin : i < m
      · have hin' : (i : Int) < (m : Int) := by omega
        obtain ⟨b, off, s, t, rfl, c0, c1, hE, hM⟩ := (HR.out.kept HB.out).one (i := i) (by rw [HN.out]; exact hin)
        have HC := hidIt (sz_any s t (rat L i) r wr hE hM (HS.out i (by rw [HN.out]; exact hin)) r0 r1)
        clear hE hM
        obtain ⟨s0, s1, s2⟩ := s
        obtain ⟨t0, t1, t2⟩ := t
        simp only [sv] at c0 c1 HC
        go_wp2_with (fail)
        refine HC.out.mono ?_
        rintro e w1 ⟨q, rfl, hq, hb1⟩
        have HB1 := hidIt (on HB.out hb1)
        have HQ := hidIt hq
        have q1 := hq.le
        clear hb1 HB HC hq
        by_cases hneg : q < 0
        · go_wp2_with (fail)
          go_ret
          have := HL.out
          first | exact ⟨-1, rfl, ⟨by omega, fun h => by omega⟩, HB1.out⟩ | exact ⟨⟨by omega, fun h => by omega⟩, HB1.out⟩
        · go_wp2_with (fail)
          refine ⟨⟨i + 1, q, by simp, rfl, by omega, by omega, hidIt ?_, by omega, HB1⟩, by simp [intOf]; omega⟩
          have e1 := HL.out
          have e2 := HQ.out.sum (by omega)
          have e3 := HT.out i hin
          rw [e3]
          omega
      · have hin' : ¬ (i : Int) < (m : Int) := by omega
        obtain rfl : i = m := by omega
        go_wp2_with (fail)
        go_ret
        have e1 := HL.out
        rw [HE.out] at e1
        first | exact ⟨r, rfl, ⟨by omega, fun _ => by omega⟩, HB.out⟩ | exact ⟨⟨by omega, fun _ => by omega⟩, HB.out⟩
end Go.Proofs.Ytkkbccppfppalaa.Rp
