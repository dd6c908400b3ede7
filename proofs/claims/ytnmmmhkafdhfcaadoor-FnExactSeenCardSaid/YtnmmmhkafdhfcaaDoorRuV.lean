/-
  ReadRules of the specification.
-/
import Derived.Test.YtnmmmhkafdhfcaaDoorRuR
import Derived.Deep.RegionHeld3
namespace Go.Proofs.YtnmmmhkafdhfcaaDoor.Ru
open Go.ChangeShapes Go.WideShapes Go.ChangeAt Go.RowKit
open Go.Proofs.YtnmmmhkafdhfcaaDoor.Nm (sat sat_at B)
set_option linter.unusedVariables false
/-- A row of texts and a row of Rules lie apart. -/
theorem apart {w : World} {b b' : Nat} {u v : Value} {W : List ByteArray} {M : List Rw} (h : Nm.Own w b u W) (g : Own w b' v M) : ∀ k, u.ownBlock = some k → v.ownBlock ≠ some k := by
  intro k hk hv
  rcases h.2 with ⟨e, _⟩ | ⟨g1, c1, cur1, e1, _, hg1, _⟩
  · subst e; cases hk
  rcases g.2 with ⟨e, _⟩ | ⟨g2, c2, cur2, e2, _, hg2, _⟩
  · subst e; cases hv
  subst e1 e2
  have h1 : g1 = k := by simpa [Value.ownBlock] using hk
  have h2 : g2 = k := by simpa [Value.ownBlock] using hv
  subst h1 h2
  rw [hg1] at hg2
  simp at hg2
theorem words_grown {w w' : World} {b b' : Nat} {u v : Value} {W : List ByteArray} {M : List Rw} (h : Nm.Own w b u W) (g : Own w b' v M) (k : w.grownBy w' v.ownBlock) : Nm.Own w' b u W := by
  refine World.ownsRow.kept (row := v.ownBlock) h k ?_
  cases hu : u.ownBlock with
  | none => exact .inl rfl
  | some k => exact .inr (fun e => apart h g k hu e.symm)
theorem two_bytes {s : ByteArray} (h : s.size = 2) : ∃ c d, s = ⟨#[c, d]⟩ := by
  obtain ⟨a⟩ := s
  have h' : a.size = 2 := h
  exact ⟨a[0], a[1], by
    congr 1
    apply Array.ext
    · simp [h']
    · intro i h1 h2
      match i, h1 with
      | 0, _ => rfl
      | 1, _ => rfl
      | n + 2, h1 => omega⟩
theorem keep2 {wr w' : World} {o : Obj} {b p q : Nat} {u v : Value} {r : Option Nat} (h : wr.cell? ⟨b, p, none⟩ = some u ∧ wr.cell? ⟨b, q, none⟩ = some v) (g : (wr.alloc o).drew.grownBy w' r) (hr : some b ≠ r) : w'.cell? ⟨b, p, none⟩ = some u ∧ w'.cell? ⟨b, q, none⟩ = some v := by
  have k := ((Below.refl wr.heap.size wr).alloc (Nat.le_refl _) o).drew
  exact ⟨grown_cell1 g (by rw [k.cell (by simpa using cell_block h.1)]; exact h.1) hr, grown_cell1 g (by rw [k.cell (by simpa using cell_block h.1)]; exact h.2) hr⟩
theorem at0 (c d : UInt8) (h : 0 < (⟨#[c, d]⟩ : ByteArray).size) : (⟨#[c, d]⟩ : ByteArray)[0]'h = c := rfl
theorem at1 (c d : UInt8) (h : 1 < (⟨#[c, d]⟩ : ByteArray).size) : (⟨#[c, d]⟩ : ByteArray)[1]'h = d := rfl
attribute [local go_sem] at0 at1
theorem split_short : ∀ (l : Bytes) (p : Bytes), p ∈ Nm.Sp.split l → p.length ≤ l.length
  | [], p, h => by rw [Nm.Sp.split_nil] at h; simp at h; subst h; simp
  | c :: r, p, h => by
    by_cases hc : c = 32
    · subst hc
      rw [Nm.Sp.split_dot] at h
      rcases List.mem_cons.1 h with rfl | h
      · simp
      · have := split_short r p h; simp; omega
    · obtain ⟨q, ps, e, e'⟩ := Nm.Sp.split_other hc r
      rw [e'] at h
      rcases List.mem_cons.1 h with rfl | h
      · have := split_short r q (by rw [e]; simp)
        simpa using this
      · have := split_short r p (by rw [e]; simp [h])
        simp
        omega
theorem words_short (s : ByteArray) {i : Nat} (hi : i < (words s).length) : (sat (words s) i).size ≤ s.size := by
  rw [sat_at hi]
  have hl : i < (Nm.Sp.split (bs s)).length := by simpa using hi
  have := split_short (bs s) _ (List.getElem_mem hl)
  rw [bs_length] at this
  rw [List.getElem_map, Nm.B_size]
  exact this
set_option maxRecDepth 100000 in
set_option maxHeartbeats 8000000 in
theorem spec_ReadRules (s : ByteArray) (w : World) (hs : s.size ≤ 9223372036854775807) :
    Calls Tryd.prog 38 #[.string s] w fun e w' => ∃ v, e = .returned (.tuple #[v, .bool (readR s).isSome]) ∧ Own w' w.heap.size v ((readR s).getD []) ∧ Below w.heap.size w w' := by
  have HB := hidIt ((Below.refl w.heap.size w).alloc (Nat.le_refl _) (.cells #[] 46))
  have HO := hidIt (Own.new w)
  by_cases h0 : s = ⟨#[]⟩
  · subst h0
    rw [read_empty]
    go_enter Tryd.func38, Tryd.ntmps38
    go_wp2_with (fail)
    go_ret2
    exact ⟨_, rfl, HO.out, HB.out⟩
  have h0' : s.toList.isEmpty = false := by
    rw [Go.Lib.toList_data]
    cases e : s.data.toList with
    | nil => exact absurd (bs_inj (a := s) (b := ⟨#[]⟩) e) h0
    | cons _ _ => rfl
  clear h0
  by_cases h1 : 1000 < s.size
  · have h1' : (1000 : Int) < (s.size : Int) := by omega
    rw [read_long h1]
    go_enter Tryd.func38, Tryd.ntmps38
    go_wp2_with (fail)
    go_ret2
    exact ⟨_, rfl, HO.out, HB.out⟩
  have h1' : ¬ (1000 : Int) < (s.size : Int) := by omega
  have CS : Hid (∀ W, Calls Tryd.prog 50 #[.string s, .int .u8 32] W fun e w' => ∃ v, e = .returned v ∧ Nm.Own w' W.heap.size v (words s) ∧ Below W.heap.size W w') := hidIt (fun W => Nm.Sp.spec_l1Split s W (by omega))
  have R1 : Hid (∀ i, 2 * i + 1 < (words s).length → (sat (words s) (2 * i)).size ≠ 2 → readR s = none) := hidIt (fun i a b => read_word a b)
  have R2 : Hid (okR (prs (words s)) = false → readR s = none) := hidIt read_bad
  have R3 : Hid (shw (prs (words s)) (prs (words s)).length ≠ s → readR s = none) := hidIt read_other
  have R4 : Hid (okR (prs (words s)) = true → shw (prs (words s)) (prs (words s)).length = s → readR s = some (prs (words s))) := hidIt read_prs
  have hn1 := words_count s
  have PA : Hid (prs (words s) = (List.range ((words s).length / 2)).map (fun i => pr (sat (words s) (2 * i)) (sat (words s) (2 * i + 1)))) := hidIt rfl
  have HZ : Hid (∀ i, i < (prs (words s)).length → (rat (prs (words s)) i).1.size ≤ 1000) := hidIt (fun i hi => by
    rw [prs_length] at hi
    rw [prs_at _ hi]
    have := words_short s (i := 2 * i + 1) (by omega)
    show (sat (words s) (2 * i + 1)).size ≤ 1000
    omega)
  generalize prs (words s) = P at R2 R3 R4 PA HZ
  generalize words s = W at CS R1 PA hn1
  generalize readR s = r at R1 R2 R3 R4 ⊢
  generalize hn : W.length = n at *
  have HN := hidIt hn
  clear hn
  go_enter Tryd.func38, Tryd.ntmps38
  go_wp2_with (fail)
  refine (CS.out _).mono ?_
  rintro e w1 ⟨vw, rfl, ow, kk⟩
  replace HB := hidIt (HB.out.trans (kk.mono HB.out.size))
  replace HO := hidIt (HO.out.kept kk)
  have HW := hidIt ow
  clear kk
  obtain ⟨aw, cw, ev, hw1, hw2, _⟩ := ow.form
  subst ev
  rw [HN.out] at hw1
  clear ow
  simp only [HN.out] at HW ⊢
  go_wp2_with (fail)
  go_loopw [4, 6] (fun y z wx => ∃ (i : Nat) (M : List Rw), z = .int .i64 i ∧ i ≤ n ∧ M.length ≤ i ∧ Hid (∃ q, i = 2 * q ∧ M = (List.range q).map (fun i => pr (sat W (2 * i)) (sat W (2 * i + 1)))) ∧ Hid (Own wx w.heap.size y M) ∧ Hid (Nm.Own wx (w.heap.size + 1) (.slice aw n cw) W) ∧ Hid (Below w.heap.size w wx)) (fun _ z _ => (n - intOf z).toNat)
  case atStart => exact ⟨0, [], rfl, by omega, by simp, hidIt ⟨0, rfl, rfl⟩, HO, hidIt (by have := HW.out; simpa using this), HB⟩
  case round =>
    obtain ⟨i, M, rfl, hi, hMi, HQ, HO, HW, HB⟩ := hrel
    obtain ⟨ao, co, ev, ho1, ho2, _⟩ := HO.out.form
    subst ev
    by_cases hin : i + 1 < n
    · have hin' : (i : Int) + 1 < (n : Int) := by omega
      have hinA : (i : Int) < (n : Int) := by omega
      have RW : Nm.Rd wr aw W := by
        obtain ⟨a', c', e, _, _, r', _⟩ := HW.out.form
        simp only [Value.slice.injEq] at e
        rw [e.1]
        exact r'
      obtain ⟨b, off, ea, c0⟩ := RW.cell i (by rw [HN.out]; omega)
      obtain ⟨b', off', ea', c1⟩ := RW.cell (i + 1) (by rw [HN.out]; omega)
      clear RW
      subst ea
      cases ea'
      by_cases h2 : (sat W i).size = 2
      · obtain ⟨c, d, hcd⟩ := two_bytes h2
        have HQ' : Hid (∀ x, sat W (i + 1) = x → ∃ q, i + 2 = 2 * q ∧ M ++ [pr ⟨#[c, d]⟩ x] = (List.range q).map (fun i => pr (sat W (2 * i)) (sat W (2 * i + 1)))) := hidIt (fun x hx => by
          obtain ⟨q, e1, e2⟩ := HQ.out
          refine ⟨q + 1, by omega, ?_⟩
          rw [List.range_succ, List.map_append, ← e2, List.map_singleton, ← e1, hcd, hx])
        rw [hcd] at c0
        clear h2 hcd
        obtain ⟨x, hx⟩ : ∃ x, sat W (i + 1) = x := ⟨_, rfl⟩
        rw [hx] at c1
        have HQ2 := hidIt (HQ'.out x hx)
        clear hx HQ'
        obtain ⟨p, hp⟩ : ∃ p, ((c.toNat : Int) == 114) = p := ⟨_, rfl⟩
        obtain ⟨p', hp'⟩ : ∃ q, ((d.toNat : Int) == 119) = q := ⟨_, rfl⟩
        have hpr : pr ⟨#[c, d]⟩ x = (x, p, p') := by rw [← hp, ← hp']; rfl
        rw [hpr] at HQ2
        clear hpr
        have hbl := cell_block c0
        have g1 : (0 : Int) ≤ (i : Int) + 1 := by omega
        have g0 : (0 : Int) ≤ (i : Int) := by omega
        have gt : ((i : Int) + 1).toNat = i + 1 := by omega
        have gw : IntKind.i64.wrap ((i : Int) + 1) = (i : Int) + 1 := by rw [IntKind.wrap_i64]; omega
        have HAb : Hid (some b ≠ (Value.slice ao M.length co).ownBlock) := hidIt (fun e => apart HW.out HO.out b rfl e.symm)
        go_wp2_with (fail)
        have hS := And.intro c0 c1
        go_region_held3 (fun w' => w'.cell? ⟨b, off + i, none⟩ = some (.string ⟨#[c, d]⟩) ∧ w'.cell? ⟨b, off + (i + 1), none⟩ = some (.string x))
          (first | assumption | exact hS | exact hS2 | go_keep)
          (first
            | (refine step_append (by rfl) (.tmp 31) (.tmp 50) (by rfl) w.heap.size (.slice ao M.length co) M [(x, p, p')] (by simp [Act.eval]) (HO.out.alloc _).drew ⟨wr.heap.size, 0, none⟩ 1 1 rfl (by simp [Act.eval]) (fresh wr (x, p, p') _) (by omega) (by have := HB.out.size; simp; omega) ?_; intro v' w' hown hgrow _; have hS2 := keep2 hS hgrow HAb.out)
            | fail)
        all_goals
          have HO2 := hidIt hown
          have HW2 := hidIt (words_grown ((HW.out.alloc _).drewN 1) ((HO.out.alloc _).drew) hgrow)
          have HB2 := hidIt ((HB.out.alloc HB.out.size _).drew.trans (grown_below ((HO.out.alloc _).drew) hgrow (Nat.le_refl _) (by have := HB.out.size; simp; omega)))
          clear hown hgrow hS hS2
          go_wp2_with (fail)
          exact ⟨⟨i + 2, _, by simp, by omega, by simp; omega, HQ2, HO2, HW2, HB2⟩, by simp [intOf]; omega⟩
      · have h2' : (((sat W i).size : Int) != 2) = true := by simp; omega
        have er : r = none := by
          obtain ⟨q, e1, _⟩ := HQ.out
          exact R1.out q (by omega) (by rw [← e1]; exact h2)
        subst er
        generalize sat W i = a at c0 h2'
        go_wp2_with (fail)
        go_ret2
        exact ⟨_, rfl, (Own.new wr).mono HB.out.size, HB.out.alloc HB.out.size _⟩
    · have hin' : ¬ (i : Int) + 1 < (n : Int) := by omega
      have eM : M = P := by
        obtain ⟨q, e1, e2⟩ := HQ.out
        rw [PA.out, e2, show n / 2 = q by omega]
      subst eM
      have HR : Hid (∀ W, Own W w.heap.size (.slice ao M.length co) M → Rd W ao M) := hidIt (fun W h => by
        obtain ⟨a', c', e, _, _, r', _⟩ := h.form
        simp only [Value.slice.injEq] at e
        rw [e.1]
        exact r')
      have CO := hidIt (fun W (h : Rd W ao M) => spec_RulesOk ao co M W h (by omega) (fun i hi => Nat.le_trans (HZ.out i hi) (by omega)))
      cases hok : okR M with
      | false =>
        have er := R2.out hok
        subst er
        rw [hok] at CO
        clear hok
        go_wp2_with (fail)
        refine (CO.out _ (HR.out _ HO.out)).mono ?_
        rintro e w2 ⟨rfl, kk⟩
        have HB2 := hidIt (HB.out.trans (kk.mono HB.out.size))
        clear kk
        go_wp2_with (fail)
        go_ret2
        exact ⟨_, rfl, (Own.new w2).mono HB2.out.size, HB2.out.alloc HB2.out.size _⟩
      | true =>
        rw [hok] at CO
        have CW := hidIt (fun W (h : Rd W ao M) => spec_l14Show ao co M W h (okR_len hok) (fun i hi => okP_len (okR_at hok hi)))
        have R4' := hidIt (R4.out hok)
        clear hok
        generalize shw M M.length = t at CW R3 R4'
        cases ht : (t.toList == s.toList) with
        | false =>
          have er := R3.out (fun e => by rw [e] at ht; simp at ht)
          subst er
          go_wp2_with (fail)
          refine (CO.out _ (HR.out _ HO.out)).mono ?_
          rintro e w2 ⟨rfl, kk⟩
          have HB2 := hidIt (HB.out.trans (kk.mono HB.out.size))
          have HO2 := hidIt (HO.out.kept kk)
          clear kk
          go_wp2_with (fail)
          refine (CW.out _ (HR.out _ HO2.out)).mono ?_
          rintro e w3 ⟨rfl, kk⟩
          have HB3 := hidIt (HB2.out.trans (kk.mono HB2.out.size))
          clear kk
          go_wp2_with (fail)
          go_ret2
          exact ⟨_, rfl, (Own.new w3).mono HB3.out.size, HB3.out.alloc HB3.out.size _⟩
        | true =>
          have et : t = s := bs_inj (by
            have : t.toList = s.toList := by simpa using ht
            rwa [Go.Lib.toList_data, Go.Lib.toList_data] at this)
          have er := R4'.out et
          subst er
          clear et
          go_wp2_with (fail)
          refine (CO.out _ (HR.out _ HO.out)).mono ?_
          rintro e w2 ⟨rfl, kk⟩
          have HB2 := hidIt (HB.out.trans (kk.mono HB.out.size))
          have HO2 := hidIt (HO.out.kept kk)
          clear kk
          go_wp2_with (fail)
          refine (CW.out _ (HR.out _ HO2.out)).mono ?_
          rintro e w3 ⟨rfl, kk⟩
          have HB3 := hidIt (HB2.out.trans (kk.mono HB2.out.size))
          have HO3 := hidIt (HO2.out.kept kk)
          clear kk
          go_wp2_with (fail)
          go_ret2
          exact ⟨_, rfl, HO3.out, HB3.out⟩
end Go.Proofs.YtnmmmhkafdhfcaaDoor.Ru
