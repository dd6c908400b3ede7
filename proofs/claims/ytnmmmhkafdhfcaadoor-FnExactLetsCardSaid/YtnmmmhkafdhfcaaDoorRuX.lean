/-
  The program's ReadRules: its words, one Rule out of two words.
-/
import Derived.Test.YtnmmmhkafdhfcaaDoorRuK
import Derived.Test.YtnmmmhkafdhfcaaDoorRuV
import Derived.Test.YtnmmmhkafdhfcaaDoorRuM
import Derived.Deep.RegionHeld3
namespace Go.Proofs.YtnmmmhkafdhfcaaDoor.Ru
open Go.ChangeShapes Go.WideShapes Go.ChangeAt Go.RowKit
open Go.Proofs.YtnmmmhkafdhfcaaDoor.Nm (sat sat_at scells B)
set_option linter.unusedVariables false
/-- A text ends with another one. -/
def ends (p k : Bytes) : Bool := decide (p <:+ k)
theorem ends_drop {a b : Bytes} : (a.drop (a.length - b.length) = b) ↔ b <:+ a := by
  rw [List.suffix_iff_eq_drop]
  exact ⟨fun e => e.symm, fun e => e.symm⟩
/-- An append onto a row of one's own, as one step of a region that draws its order. -/
theorem step_append_far {ops : Array Oper} {o : Oper} {a : Act} {w : World} {K : Act → World → Prop} {Q : Exit → Act → World → Prop} {E : Prop}
    (hg : o.guard = none) (s x : Operand) (hop : o.op = Op.call { callee := Callee.builtin Builtin.append, args := #[s, x], argTypes := #[24, 24] })
    (base : Nat) (v : Value) (M N : List Rw) (hs : a.eval s = v) (hown : Own w base v M) (ad : Addr) (m c : Nat) (hm : N.length = m) (hx : a.eval x = .slice (some ad) m c) (hc : ∀ j u, (rcells N)[j]? = some u → w.cell? (ad.add j) = some u)
    (hl : M.length + m ≤ 2000000) (hb : base ≤ w.heap.size)
    (hK : ∀ v' w', Own w' base v' (M ++ N) → w.grownBy w' v.ownBlock → K (a.put o.dst v') w') :
    if Region.wanted o (yielded ops a.tmps) = true then Oper.wp Tryd.prog o a w K Q else E := by
  have hw : Region.wanted o (yielded ops a.tmps) = true := by simp [Region.wanted, hg]
  obtain ⟨i0, hi0, hz0, hz1, hz2⟩ := info_parts infoRw
  rw [if_pos hw]
  obtain ⟨v', w', hrun, r1, r2, r3⟩ := run_append_own (P := Tryd.prog) w base 24 o.type 46 i0 (.agg #[.string ByteArray.empty, .bool false, .bool false]) 3 24 Tryd.underlying24 hi0 hz0 hz1 hz2 rfl (by decide) v M.length (rcells M) hown ad m c (rcells N) (by rw [rcells_length, hm]) hc (rcells_one _) (by unfold maxLen; omega) (by omega) hb
  unfold Oper.wp
  simp [execOp, hop, resolve, invoke, builtin, hs, hx, hrun, Result.andThen]
  exact hK v' w' (Own.more (by rw [hm]; exact r1)) r2
/-- One Rule out of two words, as the program takes it. -/
def prI (a b : ByteArray) : Rw := (b, fit [114] (bs a), ends [119] (bs a))
theorem prI_flb (x : Rw) : prI (B (flb x)) x.1 = x := by
  obtain ⟨a, b, c⟩ := x
  cases b <;> cases c <;> rfl
def prsI (W : List ByteArray) : List Rw := (List.range (W.length / 2)).map (fun i => prI (sat W (2 * i)) (sat W (2 * i + 1)))
theorem prsI_length (W : List ByteArray) : (prsI W).length = W.length / 2 := by simp [prsI]
theorem prsI_at (W : List ByteArray) {i : Nat} (hi : i < W.length / 2) : rat (prsI W) i = prI (sat W (2 * i)) (sat W (2 * i + 1)) := rat_map _ _ i hi
theorem prsI_shown {M : List Rw} (h : okR M = true) (hp : 0 < M.length) : prsI (words (shw M M.length)) = M := by
  obtain ⟨hl, ha⟩ := words_shown (fun i hi => okR_at h hi) hp
  refine ext_rat (by rw [prsI_length, hl]; omega) (fun i hi => ?_)
  rw [prsI_length, hl] at hi
  rw [prsI_at _ (by rw [hl]; exact hi), (ha i (by omega)).1, (ha i (by omega)).2, prI_flb]
theorem shown_some {s : ByteArray} {M : List Rw} (hs : s ≠ ⟨#[]⟩) (h : readR s = some M) : okR M = true ∧ shw M M.length = s ∧ 0 < M.length := by
  obtain ⟨h1, h2⟩ := (read_iff s M).1 h
  refine ⟨h1, h2, ?_⟩
  rcases Nat.eq_zero_or_pos M.length with h0 | h0
  · have : M = [] := List.eq_nil_of_length_eq_zero h0
    subst this
    exact absurd h2.symm hs
  · exact h0
theorem read_odd {s : ByteArray} (hs : s ≠ ⟨#[]⟩) (h : (words s).length % 2 ≠ 0) : readR s = none := by
  cases e : readR s with
  | none => rfl
  | some M =>
    obtain ⟨h1, h2, h3⟩ := shown_some hs e
    obtain ⟨hl, _⟩ := words_shown (fun i hi => okR_at h1 hi) h3
    rw [h2] at hl
    omega
theorem read_same {s : ByteArray} (hs : s ≠ ⟨#[]⟩) (h : showR (prsI (words s)) = s) : readR s = some (prsI (words s)) := by
  unfold showR at h
  cases e : okR (prsI (words s)) with
  | false => rw [e] at h; exact absurd h.symm hs
  | true =>
    rw [e, if_pos rfl] at h
    exact read_yes e h
theorem read_unlike {s : ByteArray} (hs : s ≠ ⟨#[]⟩) (h : showR (prsI (words s)) ≠ s) : readR s = none := by
  cases e : readR s with
  | none => rfl
  | some M =>
    obtain ⟨h1, h2, h3⟩ := shown_some hs e
    have := prsI_shown h1 h3
    rw [h2] at this
    rw [this] at h
    unfold showR at h
    rw [h1, if_pos rfl] at h
    exact absurd h2 h
set_option maxHeartbeats 1000000 in
set_option maxRecDepth 100000 in
theorem lib_HasSuffix (a b : ByteArray) (w : World) (ha : a.size ≤ 9223372036854775807) (hb : b.size ≤ 9223372036854775807) :
    Calls Tryd.prog 67 #[.string a, .string b] w fun e w' => e = .returned (.bool (ends (bs b) (bs a))) ∧ w' = w := by
  have H : Calls Tryd.prog 81 #[.string a, .string b] w fun e w' => e = .returned (.bool (ends (bs b) (bs a))) ∧ w' = w := by
    unfold ends
    by_cases hl : b.size ≤ a.size
    · have h1 : (b.size : Int) ≤ (a.size : Int) := by omega
      have hd : decide (bs b <:+ bs a) = ((a.extract (a.size - b.size) a.size).toList == b.toList) := by
        rw [eq_of, show bs (a.extract (a.size - b.size) a.size) = (bs a).drop (a.size - b.size) from Nm.bs_tail a _]
        have := ends_drop (a := bs a) (b := bs b)
        rw [bs_length, bs_length] at this
        exact decide_eq_decide.2 this.symm
      rw [hd]
      go_enter Tryd.func81, Tryd.ntmps81
      go_wp2
      go_ret
      exact ⟨rfl, rfl⟩
    · have h1 : ¬ (b.size : Int) ≤ (a.size : Int) := by omega
      rw [decide_eq_false (fun k => by have := k.length_le; rw [bs_length, bs_length] at this; omega)]
      go_enter Tryd.func81, Tryd.ntmps81
      go_wp2
      go_ret
      exact ⟨rfl, rfl⟩
  go_enter Tryd.func67, Tryd.ntmps67
  go_wp2_with (go_at_call 81; refine H.mono ?_; rintro e w' ⟨rfl, rfl⟩)
  go_ret
  exact ⟨rfl, rfl⟩
set_option maxHeartbeats 2000000 in
set_option maxRecDepth 100000 in
theorem impl_ruleOf (a b : ByteArray) (w : World) (ha : a.size ≤ 9223372036854775807) :
    Calls Tryd.prog 56 #[.string a, .string b] w fun e w' => e = .returned (rv (prI a b)) ∧ Below w.heap.size w w' := by
  have C1 := hidIt (fun W => lib_HasPrefix a ⟨#[114]⟩ W ha (by decide))
  have C2 := hidIt (fun W => lib_HasSuffix a ⟨#[119]⟩ W ha (by decide))
  have e1 : bs ⟨#[114]⟩ = [114] := rfl
  have e2 : bs ⟨#[119]⟩ = [119] := rfl
  rw [e1] at C1
  rw [e2] at C2
  unfold prI
  generalize fit [114] (bs a) = f1 at C1 ⊢
  generalize ends [119] (bs a) = f2 at C2 ⊢
  clear e1 e2
  have BX := hidIt (Bo.Box.new w #[.string ⟨#[]⟩, .bool false, .bool false] 46)
  have HB := hidIt ((Below.refl w.heap.size w).alloc (Nat.le_refl _) (.cells #[.string b, .bool f1, .bool f2] 46))
  go_enter Tryd.func56, Tryd.ntmps56
  go_wp2_with (first
    | (go_at_call 66; refine (C1.out _).mono ?_; rintro e w' ⟨rfl, ew⟩; rw [ew]; clear ew w')
    | (go_at_call 67; refine (C2.out _).mono ?_; rintro e w' ⟨rfl, ew⟩; rw [ew]; clear ew w')
    | fail)
  refine bodyPost_ret (v := rv (b, f1, f2)) (by simp [results, Tryd.results56, go_sem]) rfl ⟨rfl, HB.out⟩
set_option maxRecDepth 100000 in
set_option maxHeartbeats 2000000 in
theorem impl_wordsOf (s : ByteArray) (w : World) (hs : s.size ≤ 1048576) (hne : s ≠ ⟨#[]⟩) :
    Calls Tryd.prog 55 #[.string s] w fun e w' => ∃ v, e = .returned v ∧ Nm.Own w' w.heap.size v (words s) ∧ Below w.heap.size w w' := by
  have h0' : s.toList.isEmpty = false := by
    rw [Go.Lib.toList_data]
    cases e : s.data.toList with
    | nil => exact absurd (bs_inj (a := s) (b := ⟨#[]⟩) e) hne
    | cons _ _ => rfl
  have H : Hid (Calls Tryd.prog 65 #[.string s, .string ⟨#[32]⟩] w fun e w' => ∃ v, e = .returned v ∧ Nm.Own w' w.heap.size v (words s) ∧ Below w.heap.size w w') := hidIt (Nm.Sp.lib_Split s w hs)
  generalize words s = W at H ⊢
  clear hne
  go_enter Tryd.func55, Tryd.ntmps55
  go_wp2_with (go_at_call 65; refine H.out.mono ?_; rintro e w' ⟨v, rfl, ho, hb⟩; obtain ⟨a, c, ev, _⟩ := ho.form; have HO := hidIt ho; clear ho; subst ev)
  go_ret
  exact ⟨_, rfl, HO.out, hb⟩
set_option maxRecDepth 100000 in
set_option maxHeartbeats 2000000 in
theorem impl_wordsOf_none (w : World) :
    Calls Tryd.prog 55 #[.string ⟨#[]⟩] w fun e w' => e = .returned (.slice (some ⟨w.heap.size, 0, none⟩) 0 0) ∧ Below w.heap.size w w' := by
  go_enter Tryd.func55, Tryd.ntmps55
  go_wp2_with (fail)
  go_ret
  exact ⟨rfl, (Below.refl w.heap.size w).alloc (Nat.le_refl _) _⟩
theorem show_none (g : Nat) (W : World) : Calls Tryd.prog 57 #[.slice (some ⟨g, 0, none⟩) 0 0] W fun e w' => e = .returned (.string ⟨#[]⟩) ∧ Below W.heap.size W w' :=
  impl_ShowRules (some ⟨g, 0, none⟩) 0 [] W (Rd.nil _ _) (by simp) (fun i hi => by simp at hi)
theorem keepB {w1 w2 w' : World} {o : Obj} {b p q : Nat} {u v : Value} {r : Option Nat} (h : w1.cell? ⟨b, p, none⟩ = some u ∧ w1.cell? ⟨b, q, none⟩ = some v) (k : Below w1.heap.size w1 w2) (g : (w2.alloc o).grownBy w' r) (hr : some b ≠ r) : w'.cell? ⟨b, p, none⟩ = some u ∧ w'.cell? ⟨b, q, none⟩ = some v := by
  have kk := k.alloc k.size o
  exact ⟨grown_cell1 g (by rw [kk.cell (by simpa using cell_block h.1)]; exact h.1) hr, grown_cell1 g (by rw [kk.cell (by simpa using cell_block h.1)]; exact h.2) hr⟩
set_option maxRecDepth 100000 in
set_option maxHeartbeats 1000000 in
theorem impl_ReadRules (s : ByteArray) (w : World) (hs : s.size ≤ 1048576) :
    Calls Tryd.prog 43 #[.string s] w fun e w' => ∃ v, e = .returned (.tuple #[v, .bool (readR s).isSome]) ∧ Own w' w.heap.size v ((readR s).getD []) ∧ Below w.heap.size w w' := by
  by_cases h0 : s = ⟨#[]⟩
  · subst h0
    rw [read_empty]
    have CW := hidIt (impl_wordsOf_none w)
    go_enter Tryd.func43, Tryd.ntmps43
    go_wp2_with (go_at_call 55; refine CW.out.mono ?_; rintro e w1 ⟨rfl, kk⟩)
    go_loopw [5, 6] (fun x y wx => x = .slice (some ⟨w1.heap.size, 0, none⟩) 0 0 ∧ y = .int .i64 0 ∧ wx = w1.alloc (.cells #[] 46)) (fun _ _ _ => 0)
    case atStart => exact ⟨rfl, rfl, rfl⟩
    case round =>
      obtain ⟨rfl, rfl, rfl⟩ := hrel
      have HO := hidIt ((Own.new w1).mono kk.size)
      have HB := hidIt (kk.alloc kk.size (.cells #[] 46))
      clear kk
      have CS := hidIt (show_none w1.heap.size (w1.alloc (.cells #[] 46)))
      generalize w1.alloc (.cells #[] 46) = w3 at HO HB CS ⊢
      generalize w1.heap.size = g at HO HB CS ⊢
      go_wp2_with (fail)
      refine CS.out.mono ?_
      rintro e w2 ⟨rfl, kk⟩
      have HB2 := hidIt (HB.out.trans (kk.mono HB.out.size))
      have HO2 := hidIt (HO.out.kept kk)
      clear kk
      go_wp2_with (fail)
      go_ret2
      exact ⟨_, rfl, HO2.out, HB2.out⟩
  have CW := hidIt (fun W => impl_wordsOf s W hs h0)
  have R1 : Hid ((words s).length % 2 ≠ 0 → readR s = none) := hidIt (fun h => read_odd h0 h)
  have R2 : Hid (showR (prsI (words s)) = s → readR s = some (prsI (words s))) := hidIt (fun h => read_same h0 h)
  have R3 : Hid (showR (prsI (words s)) ≠ s → readR s = none) := hidIt (fun h => read_unlike h0 h)
  have hn1 := words_count s
  have PA : Hid (prsI (words s) = (List.range ((words s).length / 2)).map (fun i => prI (sat (words s) (2 * i)) (sat (words s) (2 * i + 1)))) := hidIt rfl
  have HZ : Hid (∀ i, i < (prsI (words s)).length → (rat (prsI (words s)) i).1.size ≤ 1048576) := hidIt (fun i hi => by
    rw [prsI_length] at hi
    rw [prsI_at _ hi]
    have := words_short s (i := 2 * i + 1) (by omega)
    show (sat (words s) (2 * i + 1)).size ≤ 1048576
    omega)
  have HWz : Hid (∀ i, i < (words s).length → (sat (words s) i).size ≤ 1048576) := hidIt (fun i hi => Nat.le_trans (words_short s hi) hs)
  clear h0
  generalize prsI (words s) = P at R2 R3 PA HZ
  generalize words s = W at CW R1 PA hn1 HWz
  generalize readR s = r at R1 R2 R3 ⊢
  generalize hn : W.length = n at *
  have HN := hidIt hn
  clear hn
  have hnb : n ≤ 1048577 := by omega
  go_enter Tryd.func43, Tryd.ntmps43
  go_wp2_with (fail)
  refine (CW.out _).mono ?_
  rintro e w1 ⟨vw, rfl, ow, kk⟩
  have HB := hidIt kk
  have HW := hidIt ow
  clear kk
  obtain ⟨aw, cw, ev, hw1, hw2, _⟩ := ow.form
  subst ev
  rw [HN.out] at hw1
  clear ow
  simp only [HN.out] at HW ⊢
  by_cases hodd : n % 2 = 0
  · have hodd' : (((n : Int) % 2) != 0) = false := by
      have : (n : Int) % 2 = 0 := by omega
      rw [this]; rfl
    have HO0 := hidIt ((Own.new w1).mono HB.out.size)
    have HB0 := hidIt (HB.out.alloc HB.out.size (.cells #[] 46))
    have HW0 := hidIt (HW.out.alloc (.cells #[] 46))
    clear HW HB CW
    go_wp2_with (fail)
    go_loopw [5, 6] (fun y z wx => ∃ (i : Nat) (M : List Rw), z = .int .i64 i ∧ i ≤ n ∧ M.length ≤ i ∧ Hid (∃ q, i = 2 * q ∧ M = (List.range q).map (fun i => prI (sat W (2 * i)) (sat W (2 * i + 1)))) ∧ Hid (Own wx w.heap.size y M) ∧ Hid (Nm.Own wx w.heap.size (.slice aw n cw) W) ∧ Hid (Below w.heap.size w wx)) (fun _ z _ => (n - intOf z).toNat)
    case atStart => exact ⟨0, [], rfl, by omega, by simp, hidIt ⟨0, rfl, rfl⟩, HO0, HW0, HB0⟩
    case round =>
      clear HO0 HW0 HB0
      obtain ⟨i, M, rfl, hi, hMi, HQ, HO, HW, HB⟩ := hrel
      obtain ⟨ao, co, ev, ho1, ho2, _⟩ := HO.out.form
      subst ev
      by_cases hin : i < n
      · have hin' : (i : Int) < (n : Int) := by omega
        have hi1 : i + 1 < n := by obtain ⟨q, e1, _⟩ := HQ.out; omega
        have hi1' : (i : Int) + 1 < (n : Int) := by omega
        have RW : Nm.Rd wr aw W := by
          obtain ⟨a', c', e, _, _, r', _⟩ := HW.out.form
          simp only [Value.slice.injEq] at e
          rw [e.1]
          exact r'
        obtain ⟨b, off, ea, c0⟩ := RW.cell i (by rw [HN.out]; omega)
        obtain ⟨b', off', ea', c1⟩ := RW.cell (i + 1) (by rw [HN.out]; omega)
        clear RW
        subst ea
        cases ea'
        have HQ' : Hid (∀ a x, sat W i = a → sat W (i + 1) = x → ∃ q, i + 2 = 2 * q ∧ M ++ [prI a x] = (List.range q).map (fun i => prI (sat W (2 * i)) (sat W (2 * i + 1)))) := hidIt (fun a x ha hx => by
          obtain ⟨q, e1, e2⟩ := HQ.out
          refine ⟨q + 1, by omega, ?_⟩
          rw [List.range_succ, List.map_append, ← e2, List.map_singleton, ← e1, ha, hx])
        have hsa := HWz.out i (by omega)
        obtain ⟨a, ha⟩ : ∃ a, sat W i = a := ⟨_, rfl⟩
        obtain ⟨x, hx⟩ : ∃ x, sat W (i + 1) = x := ⟨_, rfl⟩
        rw [ha] at c0 hsa
        rw [hx] at c1
        have HQ2 := hidIt (HQ'.out a x ha hx)
        clear ha hx HQ'
        have CR := hidIt (fun Wd => impl_ruleOf a x Wd (by omega))
        generalize prI a x = y at CR HQ2
        obtain ⟨y0, y1, y2⟩ := y
        simp only [rv] at CR
        have hbl := cell_block c0
        have g1 : (0 : Int) ≤ (i : Int) + 1 := by omega
        have g0 : (0 : Int) ≤ (i : Int) := by omega
        have gt : ((i : Int) + 1).toNat = i + 1 := by omega
        have gw : IntKind.i64.wrap ((i : Int) + 1) = (i : Int) + 1 := by rw [IntKind.wrap_i64]; omega
        have HAb : Hid (some b ≠ (Value.slice ao M.length co).ownBlock) := hidIt (fun e => apart HW.out HO.out b rfl e.symm)
        go_wp2_with (fail)
        have hS := And.intro c0 c1
        have HC := hidIt hS
        go_region_held3 (fun w' => w'.cell? ⟨b, off + i, none⟩ = some (.string a) ∧ w'.cell? ⟨b, off + (i + 1), none⟩ = some (.string x))
          (first | assumption | exact hS | exact hS2 | exact hS3 | go_keep)
          (first
            | (go_at_call 56; refine (CR.out _).mono ?_; rintro e w2 ⟨rfl, kk⟩; have HK := hidIt ((Below.refl wr.heap.size wr).drew.trans kk); have hS2 : w2.cell? ⟨b, off + i, none⟩ = some (.string a) ∧ w2.cell? ⟨b, off + (i + 1), none⟩ = some (.string x) := ⟨by rw [HK.out.cell hbl]; exact HC.out.1, by rw [HK.out.cell hbl]; exact HC.out.2⟩; clear kk)
            | (refine step_append_far (by rfl) (.tmp 21) (.tmp 32) (by rfl) w.heap.size (.slice ao M.length co) M [(y0, y1, y2)] (by simp [Act.eval]) ((HO.out.kept HK.out).alloc _) ⟨w2.heap.size, 0, none⟩ 1 1 rfl (by simp [Act.eval]) (fresh w2 (y0, y1, y2) _) (by omega) (by have := HB.out.size; have := HK.out.size; simp; omega) ?_; intro v' w' hown hgrow; have hS3 := keepB HC.out HK.out hgrow HAb.out)
            | fail)
        all_goals
          have HO2 := hidIt hown
          have HW2 := hidIt (words_grown ((HW.out.kept HK.out).alloc _) ((HO.out.kept HK.out).alloc _) hgrow)
          have HB1 := hidIt (HB.out.trans (HK.out.mono HB.out.size))
          have HB2 := hidIt ((HB1.out.alloc HB1.out.size _).trans (grown_below ((HO.out.kept HK.out).alloc _) hgrow (Nat.le_refl _) (by have := HB1.out.size; simp; omega)))
          clear hown hgrow hS hS2 hS3
          go_wp2_with (fail)
          exact ⟨⟨i + 2, _, by simp, by omega, by simp; omega, HQ2, HO2, HW2, HB2⟩, by simp [intOf]; omega⟩
      · have hin' : ¬ (i : Int) < (n : Int) := by omega
        have eM : M = P := by
          obtain ⟨q, e1, e2⟩ := HQ.out
          rw [PA.out, e2, show n / 2 = q by omega]
        subst eM
        have HR : Hid (Rd wr ao M) := hidIt (by
          obtain ⟨a', c', e, _, _, r', _⟩ := HO.out.form
          simp only [Value.slice.injEq] at e
          rw [e.1]
          exact r')
        have CO := hidIt (impl_ShowRules ao co M wr HR.out (by omega) (fun i hi => Nat.le_trans (HZ.out i hi) (by omega)))
        generalize showR M = t at CO R2 R3
        cases ht : (t.toList == s.toList) with
        | false =>
          have er := R3.out (fun e => by rw [e] at ht; simp at ht)
          subst er
          have ht' : (t.toList != s.toList) = true := by rw [bne, ht]; rfl
          go_wp2_with (fail)
          refine CO.out.mono ?_
          rintro e w2 ⟨rfl, kk⟩
          have HB2 := hidIt (HB.out.trans (kk.mono HB.out.size))
          clear kk
          go_wp2_with (fail)
          go_ret2
          exact ⟨_, rfl, (Own.new w2).mono HB2.out.size, HB2.out.alloc HB2.out.size _⟩
        | true =>
          have et : t = s := bs_inj (by
            have : t.toList = s.toList := by simpa using ht
            rwa [Go.Lib.toList_data, Go.Lib.toList_data] at this)
          have er := R2.out et
          subst er
          clear et
          have ht' : (t.toList != s.toList) = false := by rw [bne, ht]; rfl
          go_wp2_with (fail)
          refine CO.out.mono ?_
          rintro e w2 ⟨rfl, kk⟩
          have HB2 := hidIt (HB.out.trans (kk.mono HB.out.size))
          have HO2 := hidIt (HO.out.kept kk)
          clear kk
          go_wp2_with (fail)
          go_ret2
          exact ⟨_, rfl, HO2.out, HB2.out⟩
  · have hodd' : (((n : Int) % 2) != 0) = true := by
      have : (n : Int) % 2 = 1 := by omega
      rw [this]; rfl
    have er := R1.out hodd
    subst er
    go_wp2_with (fail)
    go_ret2
    exact ⟨_, rfl, (Own.new w1).mono HB.out.size, HB.out.alloc HB.out.size _⟩
end Go.Proofs.YtnmmmhkafdhfcaaDoor.Ru
