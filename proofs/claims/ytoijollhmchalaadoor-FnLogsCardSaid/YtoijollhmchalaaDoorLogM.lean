/-
  Noted of the program and of the specification, whatever the list and the text.
-/
import Derived.Test.YtoijollhmchalaaDoorLogN
namespace Go.Proofs.YtoijollhmchalaaDoor.Lg
open Go.ChangeShapes Go.WideShapes Go.ChangeAt Go.RowKit
open Sg
set_option linter.unusedVariables false
/-- What is noted: the list with one Line more; as it is; nothing. -/
def ntL (L : List Ln) (t : ByteArray) : List Ln := if okL L = true then (if 100 < t.size ∨ L.length = 300 then L else L ++ [(t, (sumN (prev L L.length) t : Int))]) else []
def ntB (L : List Ln) (t : ByteArray) : Bool := okL L && !decide (100 < t.size ∨ L.length = 300)
theorem nt_no {L : List Ln} {t : ByteArray} (h : okL L = false) : ntL L t = [] ∧ ntB L t = false := by
  unfold ntL ntB
  rw [h]
  exact ⟨if_neg (by simp), rfl⟩
theorem nt_as {L : List Ln} {t : ByteArray} (h : okL L = true) (hb : 100 < t.size ∨ L.length = 300) : ntL L t = L ∧ ntB L t = false := by
  unfold ntL ntB
  rw [h, if_pos rfl, if_pos hb, decide_eq_true hb]
  exact ⟨rfl, rfl⟩
theorem nt_on {L : List Ln} {t : ByteArray} (h : okL L = true) (hb : ¬ (100 < t.size ∨ L.length = 300)) : ntL L t = L ++ [(t, (sumN (prev L L.length) t : Int))] ∧ ntB L t = true := by
  unfold ntL ntB
  rw [h, if_pos rfl, if_neg hb, decide_eq_false hb]
  exact ⟨rfl, rfl⟩
theorem Own.nil (w : World) (base : Nat) : Own w base (.slice none 0 0) [] := World.ownsRow_nil w base _ _
theorem ntL_len {L : List Ln} {t : ByteArray} : (ntL L t).length ≤ 300 := by
  cases h : okL L with
  | false => rw [(nt_no h).1]; simp
  | true =>
    have := (of_okL h).1
    by_cases hb : 100 < t.size ∨ L.length = 300
    · rw [(nt_as h hb).1]; exact this
    · rw [(nt_on h hb).1, List.length_append]; simp; omega
theorem held2_grown {W w' : World} {o : Obj} {b : Nat} {a0 a1 : Value} (g : ((W.alloc o).drew).grownBy w' none) (h : W.cell? ⟨b, 0, none⟩ = some a0 ∧ W.cell? ⟨b, 1, none⟩ = some a1) (l0 : b < W.heap.size) : w'.cell? ⟨b, 0, none⟩ = some a0 ∧ w'.cell? ⟨b, 1, none⟩ = some a1 := by
  have k : Below W.heap.size W (W.alloc o).drew := ((Below.refl _ W).alloc (Nat.le_refl _) o).drew
  exact held2 (k.grown g (by simp) (fun k hk => by cases hk)) h l0
/-- What is noted on a list whose last Sum is pv. -/
def noteL (L : List Ln) (pv : Nat) (t : ByteArray) : List Ln := if 100 < t.size ∨ L.length = 300 then L else L ++ [(t, (sumN pv t : Int))]
def noteB (L : List Ln) (t : ByteArray) : Bool := !decide (100 < t.size ∨ L.length = 300)
theorem note_as {L : List Ln} {pv : Nat} {t : ByteArray} (hb : 100 < t.size ∨ L.length = 300) : noteL L pv t = L ∧ noteB L t = false := by
  unfold noteL noteB
  rw [if_pos hb, decide_eq_true hb]
  exact ⟨rfl, rfl⟩
theorem note_on {L : List Ln} {pv : Nat} {t : ByteArray} (hb : ¬ (100 < t.size ∨ L.length = 300)) : noteL L pv t = L ++ [(t, (sumN pv t : Int))] ∧ noteB L t = true := by
  unfold noteL noteB
  rw [if_neg hb, decide_eq_false hb]
  exact ⟨rfl, rfl⟩
theorem note_nt {L : List Ln} {t : ByteArray} (h : okL L = true) : noteL L (prev L L.length) t = ntL L t ∧ noteB L t = ntB L t := by
  unfold noteL noteB ntL ntB
  rw [h, if_pos rfl]
  exact ⟨rfl, rfl⟩
set_option maxRecDepth 100000 in
set_option maxHeartbeats 4000000 in
theorem impl_Noted (a : Option Addr) (cap : Nat) (L : List Ln) (t : ByteArray) (w : World) (h : Rd w a L) (hcap : L.length ≤ cap) (hcm : cap ≤ 9223372036854775807) (hna : a = none → cap = 0) (ht : Tab w) :
    Calls Tryd.prog 10 #[.slice a L.length cap, .string t] w fun e w' => ∃ v, e = .returned (.tuple #[v, .bool (ntB L t)]) ∧ Own w' w.heap.size v (ntL L t) ∧ Below w.heap.size w w' := by
  have CK := fun w h t => impl_LogOk a cap L w h hcap t
  have HR := hidIt h
  have HT := hidIt ht
  cases ho : okL L with
  | false =>
    obtain ⟨e1, e2⟩ := nt_no (t := t) ho
    rw [e1, e2]
    rw [ho] at CK
    have HCK := hidIt CK
    clear CK ho h ht e1 e2
    go_enter Tryd.func10, Tryd.ntmps10
    go_wp2_with (fail)
    refine (HCK.out _ HR.out HT.out).mono ?_
    rintro e w1 ⟨rfl, hb1⟩
    go_wp2_with (fail)
    go_ret2
    exact ⟨_, rfl, Own.nil _ _, hb1⟩
  | true =>
    have hlog := of_okL ho
    have hl := hlog.1
    rw [ho] at CK
    have HCK := hidIt CK
    clear CK h ht
    by_cases hb : 100 < t.size ∨ L.length = 300
    · obtain ⟨e1, e2⟩ := nt_as ho hb
      rw [e1, e2]
      have CC := hidIt (fun w h => impl_copied a cap L w h (by omega))
      clear ho e1 e2 hlog
      by_cases h1 : 100 < t.size
      · have h1' : (100 : Int) < (t.size : Int) := by omega
        go_enter Tryd.func10, Tryd.ntmps10
        go_wp2_with (fail)
        refine (HCK.out _ HR.out HT.out).mono ?_
        rintro e w1 ⟨rfl, hb1⟩
        have HB1 := hidIt hb1
        clear hb1
        go_wp2_with (fail)
        refine (CC.out _ (HR.out.kept HB1.out)).mono ?_
        rintro e w2 ⟨v, rfl, hO, hb2⟩
        have HO := hidIt hO
        have HB2 := hidIt hb2
        clear hO hb2
        go_wp2_with (fail)
        go_ret2
        exact ⟨_, rfl, HO.out.mono HB1.out.size, HB1.out.trans (HB2.out.mono HB1.out.size)⟩
      · have h1' : ¬ (100 : Int) < (t.size : Int) := by omega
        have h2 : ((L.length : Int) == 300) = true := by simp; omega
        clear hb
        go_enter Tryd.func10, Tryd.ntmps10
        go_wp2_with (fail)
        refine (HCK.out _ HR.out HT.out).mono ?_
        rintro e w1 ⟨rfl, hb1⟩
        have HB1 := hidIt hb1
        clear hb1
        go_wp2_with (fail)
        refine (CC.out _ (HR.out.kept HB1.out)).mono ?_
        rintro e w2 ⟨v, rfl, hO, hb2⟩
        have HO := hidIt hO
        have HB2 := hidIt hb2
        clear hO hb2
        go_wp2_with (fail)
        go_ret2
        exact ⟨_, rfl, HO.out.mono HB1.out.size, HB1.out.trans (HB2.out.mono HB1.out.size)⟩
    · obtain ⟨e1, e2⟩ := nt_on ho hb
      rw [e1, e2]
      have h1' : ¬ (100 : Int) < (t.size : Int) := by omega
      have h2 : ((L.length : Int) == 300) = false := by simp; omega
      have hpl := prev_lt (i := L.length) (fun j hj => hlog.2 j hj)
      have CL := fun w h => impl_lastSum a cap L w h (by omega)
      rw [head_prev hlog] at CL
      have CS := fun w ht => impl_sumBehind (prev L L.length) t w (by omega) (by omega) ht
      have CC := hidIt (fun w => impl_closed a L.length cap w hcap hcm hna)
      generalize prev L L.length = pv at CL CS hpl
      generalize sumN pv t = sm at CS
      have HCL := hidIt CL
      have HCS := hidIt CS
      obtain ⟨i0, hi, hz0, hz1, hz2⟩ := info_parts infoLn
      have Hlen : Hid (L.length ≤ 299) := hidIt (by omega)
      have HNA := hidIt hna
      clear CL CS ho e1 e2 hb hlog hna
      generalize hn : L.length = n at *
      have HN := hidIt hn
      clear hn
      go_enter Tryd.func10, Tryd.ntmps10
      go_wp2_with (fail)
      refine (HCK.out _ HR.out HT.out).mono ?_
      rintro e w1 ⟨rfl, hb1⟩
      have HB1 := hidIt hb1
      clear hb1
      go_wp2_with (fail)
      refine (HCL.out _ (HR.out.kept HB1.out)).mono ?_
      rintro e w2 ⟨rfl, rfl⟩
      go_wp2_with (fail)
      refine (HCS.out _ (HT.out.kept HB1.out)).mono ?_
      rintro e w3 ⟨rfl, hb3⟩
      have HB3 := hidIt (HB1.out.trans (hb3.mono HB1.out.size))
      clear hb3 HB1
      go_wp2_with (fail)
      have f0 : (w3.alloc (.cells #[.string t, .int .i64 sm] 36)).cell? ⟨w3.heap.size, 0, none⟩ = some (.string t) ∧ (w3.alloc (.cells #[.string t, .int .i64 sm] 36)).cell? ⟨w3.heap.size, 1, none⟩ = some (.int .i64 sm) := by simp
      have HBz := hidIt (HB3.out.alloc (HB3.out.size) (.cells #[.string t, .int .i64 sm] 36))
      generalize w3.alloc (.cells #[.string t, .int .i64 sm] 36) = wz at f0 HBz ⊢
      obtain ⟨f1, f2⟩ := f0
      have HRz := hidIt (HR.out.kept HBz.out)
      have hz3 : w3.heap.size < wz.heap.size := cell_block f1
      have hS := And.intro f1 f2
      go_region_held3 (fun w' => w'.cell? ⟨w3.heap.size, 0, none⟩ = some (.string t) ∧ w'.cell? ⟨w3.heap.size, 1, none⟩ = some (.int .i64 sm))
        (first | assumption | exact hS | (exact held2 ((Below.refl _ wz).alloc (Nat.le_refl _) _) hS hz3) | (exact held2_grown hgrow hS hz3) | go_keep)
       (first
        | (refine step_append_grows rfl (.tmp 27) (.tmp 29) 24 rfl 36 i0 (.agg #[.string ByteArray.empty, .int .i64 0]) 2 24 Tryd.underlying24 hi hz0 hz1 hz2 rfl (by decide) a n n (lcells L) (by simp [Act.eval]) (fun e => by have := HNA.out e; omega) (by rw [lcells_length, HN.out]) ((HRz.out.alloc _).drew).holds ⟨wz.heap.size, 0, none⟩ 1 1 [.string t, .int .i64 sm] (by simp [Act.eval]) rfl (((Rd.fresh wz t sm 36).drew).holds _ rfl) (lcells_one [(t, (sm : Int))]) (by omega) (by have := Hlen.out; unfold maxLen; omega) (by have := Hlen.out; omega) ?_; intro v' w' hown hgrow)
        | (go_at_call 34; refine (CC.out _).mono ?_; rintro e w5 ⟨rfl, rfl⟩))
      all_goals
        have HO := hidIt (Own.of_append HN.out hown)
        have HB5 := hidIt ((HBz.out.alloc HBz.out.size _).drew.grown hgrow (by have := HBz.out.size; simp; omega) (fun k hk => by cases hk))
        clear hown hgrow
        go_wp2_with (fail)
        go_ret2
        exact ⟨_, rfl, HO.out.mono (by have := HBz.out.size; simp; omega), HB5.out⟩
set_option maxRecDepth 100000 in
set_option maxHeartbeats 4000000 in
theorem spec_l4Note (base : Nat) (v : Value) (L : List Ln) (pv : Nat) (t : ByteArray) (w : World) (h : Own w base v L) (hb : base ≤ w.heap.size) (hl : L.length ≤ 300) (hp : headL L = (pv : Int)) (hpl : pv ≤ 1099511627776) :
    Calls Tryd.prog 35 #[v, .string t] w fun e w' => ∃ v', e = .returned (.tuple #[v', .bool (noteB L t)]) ∧ Own w' base v' (noteL L pv t) ∧ Below base w w' := by
  obtain ⟨a, cap, rfl, hcap, hcm, hR, hna, _⟩ := h.form
  have HO := hidIt h
  have HR := hidIt hR
  clear h hR
  by_cases hbig : 100 < t.size ∨ L.length = 300
  · obtain ⟨e1, e2⟩ := note_as (pv := pv) hbig
    rw [e1, e2]
    clear e1 e2 hp
    by_cases h1 : 100 < t.size
    · have h1' : (100 : Int) < (t.size : Int) := by omega
      go_enter Tryd.func35, Tryd.ntmps35
      go_wp2_with (fail)
      go_ret2
      exact ⟨_, rfl, HO.out, Below.refl _ _⟩
    · have h1' : ¬ (100 : Int) < (t.size : Int) := by omega
      have h2 : ((L.length : Int) == 300) = true := by simp; omega
      clear hbig
      go_enter Tryd.func35, Tryd.ntmps35
      go_wp2_with (fail)
      go_ret2
      exact ⟨_, rfl, HO.out, Below.refl _ _⟩
  · obtain ⟨e1, e2⟩ := note_on (pv := pv) hbig
    rw [e1, e2]
    have h1' : ¬ (100 : Int) < (t.size : Int) := by omega
    have h2 : ((L.length : Int) == 300) = false := by simp; omega
    have CL := fun w h => spec_l4Head a cap L w h (by omega)
    rw [hp] at CL
    have CS := fun w => spec_l4Sum pv t w (by omega) (by omega)
    generalize sumN pv t = sm at CS
    have HCL := hidIt CL
    have HCS := hidIt CS
    obtain ⟨i0, hi, hz0, hz1, hz2⟩ := info_parts infoLn
    have Hlen : Hid (L.length ≤ 299) := hidIt (by omega)
    clear CL CS e1 e2 hbig hna hcm hp
    have HO' : Hid (w.ownsRow base 36 2 (.slice a L.length cap) L.length (lcells L)) := HO
    generalize hn : L.length = n at *
    have HN := hidIt hn
    clear hn HO
    go_enter Tryd.func35, Tryd.ntmps35
    go_wp2_with (fail)
    refine (HCL.out _ HR.out).mono ?_
    rintro e w2 ⟨rfl, rfl⟩
    go_wp2_with (fail)
    refine (HCS.out _).mono ?_
    rintro e w3 ⟨rfl, hb3⟩
    have HB3 := hidIt hb3
    have HO3 : Hid (w3.ownsRow base 36 2 (.slice a n cap) n (lcells L)) := hidIt (World.ownsRow.kept (row := none) HO'.out ⟨hb3.os, hb3.tape, hb3.output, hb3.size, fun i hi _ => hb3.block i hi⟩ (by cases (Value.slice a n cap).ownBlock <;> simp))
    have z3 := hb3.size
    clear hb3 HO' HR
    go_wp2_with (first
      | (at_builtin; refine wpList_append_own _ rfl _ _ 24 rfl base 36 i0 (.agg #[.string ByteArray.empty, .int .i64 0]) 2 24 Tryd.underlying24 hi hz0 hz1 hz2 rfl (by decide) _ _ _ rfl (World.ownsRow.alloc HO3.out _) ⟨w3.heap.size, 0, none⟩ 1 1 [.string t, .int .i64 sm] rfl rfl ((Rd.fresh w3 t sm 36).holds _ rfl) (lcells_one [(t, (sm : Int))]) (by have := Hlen.out; unfold maxLen; omega) (by have := Hlen.out; omega) (by simp; omega) ?_)
      | fail)
    intro v' w4 hown hgrow _
    have HO4 := hidIt (Own.of_append HN.out hown)
    have HB4 := hidIt (((HB3.out.mono hb).alloc (by omega) _).grown hgrow (by simp; omega) (fun k hk => (World.ownsRow.lt HO3.out k hk).1))
    clear hown hgrow
    go_wp2_with (fail)
    go_ret2
    exact ⟨_, rfl, HO4.out, HB4.out⟩
theorem spec_l4Note_log (base : Nat) (v : Value) (L : List Ln) (t : ByteArray) (w : World) (h : Own w base v L) (hb : base ≤ w.heap.size) (ho : okL L = true) :
    Calls Tryd.prog 35 #[v, .string t] w fun e w' => ∃ v', e = .returned (.tuple #[v', .bool (ntB L t)]) ∧ Own w' base v' (ntL L t) ∧ Below base w w' := by
  have hlog := of_okL ho
  have hpl := prev_lt (i := L.length) (fun j hj => hlog.2 j hj)
  have := spec_l4Note base v L (prev L L.length) t w h hb hlog.1 (head_prev hlog) (by omega)
  rwa [(note_nt ho).1, (note_nt ho).2] at this
set_option maxRecDepth 100000 in
set_option maxHeartbeats 4000000 in
theorem spec_Noted (a : Option Addr) (cap : Nat) (L : List Ln) (t : ByteArray) (w : World) (h : Rd w a L) (hna : a = none → cap = 0) :
    Calls Tryd.prog 13 #[.slice a L.length cap, .string t] w fun e w' => ∃ v, e = .returned (.tuple #[v, .bool (ntB L t)]) ∧ Own w' w.heap.size v (ntL L t) ∧ Below w.heap.size w w' := by
  have CK := fun w h => spec_LogOk a cap L w h
  have HR := hidIt h
  cases ho : okL L with
  | false =>
    obtain ⟨e1, e2⟩ := nt_no (t := t) ho
    rw [e1, e2]
    rw [ho] at CK
    have HCK := hidIt CK
    clear CK ho h e1 e2
    go_enter Tryd.func13, Tryd.ntmps13
    go_wp2_with (fail)
    refine (HCK.out _ HR.out).mono ?_
    rintro e w1 ⟨rfl, hb1⟩
    go_wp2_with (fail)
    go_ret2
    exact ⟨_, rfl, (Own.new w1).mono hb1.size, hb1.alloc hb1.size _⟩
  | true =>
    have hl := (of_okL ho).1
    rw [ho] at CK
    have HCK := hidIt CK
    have CN := hidIt (fun base v w h hb => spec_l4Note_log base v L t w h hb ho)
    obtain ⟨i0, hi, hz0, hz1, hz2⟩ := info_parts infoLn
    clear CK ho h
    cases a with
    | none =>
      have e := hna rfl
      subst e
      have e := HR.out.none_nil
      subst e
      clear hna hl
      go_enter Tryd.func13, Tryd.ntmps13
      go_wp2_with (fail)
      refine (HCK.out _ HR.out).mono ?_
      rintro e w1 ⟨rfl, hb1⟩
      have HB1 := hidIt hb1
      clear hb1
      go_wp2_with (first
        | (at_builtin; refine wpList_append_own_none rfl _ _ 24 rfl w1.heap.size 36 i0 2 Tryd.underlying24 hi _ _ _ rfl (Own.new w1) rfl ?_)
        | fail)
      refine (CN.out w1.heap.size _ _ (Own.new w1) (by simp)).mono ?_
      rintro e w3 ⟨v3, rfl, hO3, hb3⟩
      have HO3 := hidIt hO3
      have HB3 := hidIt hb3
      clear hO3 hb3
      go_wp2_with (fail)
      go_ret2
      exact ⟨_, rfl, HO3.out.mono HB1.out.size, (HB1.out.alloc HB1.out.size _).trans (HB3.out.mono HB1.out.size)⟩
    | some x =>
      have Hlen := hidIt hl
      generalize hn : L.length = n at *
      have HN := hidIt hn
      clear hna hl hn
      go_enter Tryd.func13, Tryd.ntmps13
      go_wp2_with (fail)
      refine (HCK.out _ HR.out).mono ?_
      rintro e w1 ⟨rfl, hb1⟩
      have HB1 := hidIt hb1
      have HR1 := hidIt (HR.out.kept hb1)
      clear hb1
      go_wp2_with (first
        | (at_builtin; refine wpList_append_own _ rfl _ _ 24 rfl w1.heap.size 36 i0 (.agg #[.string ByteArray.empty, .int .i64 0]) 2 24 Tryd.underlying24 hi hz0 hz1 hz2 rfl (by decide) _ _ _ rfl (Own.new w1) x n cap (lcells L) rfl (by rw [lcells_length, HN.out]) ((HR1.out.alloc _).cells) (lcells_one L) (by have := Hlen.out; unfold maxLen; simp; omega) (by have := Hlen.out; simp; omega) (by simp) ?_)
        | fail)
      intro v' w2 hown hgrow _
      have HO2 : Hid (Own w2 w1.heap.size v' L) := hidIt (by unfold Own; rw [lcells_nil, List.nil_append] at hown; simpa [HN.out] using hown)
      have HB2 := hidIt ((HB1.out.alloc HB1.out.size _).grown hgrow (by have := HB1.out.size; simp; omega) (fun k hk => by simp [Value.ownBlock] at hk; have := HB1.out.size; omega))
      have z2 := hgrow.size
      simp at z2
      clear hown hgrow
      go_wp2_with (fail)
      refine (CN.out w1.heap.size v' _ HO2.out (by omega)).mono ?_
      rintro e w3 ⟨v3, rfl, hO3, hb3⟩
      have HO3 := hidIt hO3
      have HB3 := hidIt hb3
      clear hO3 hb3
      go_wp2_with (fail)
      go_ret2
      exact ⟨_, rfl, HO3.out.mono HB1.out.size, HB2.out.trans (HB3.out.mono HB1.out.size)⟩
end Go.Proofs.YtoijollhmchalaaDoor.Lg
