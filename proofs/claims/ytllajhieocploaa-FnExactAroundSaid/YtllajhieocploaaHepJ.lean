/-
  The heap's own functions over the program's rests: up, down, Push, Pop, Fix.
-/
import Derived.Test.YtllajhieocploaaHepI
import Derived.Lib.Builder
import Derived.Deep.RegionLaw
namespace Go.Proofs.Ytllajhieocploaa.En
open Go.ChangeShapes Go.WideShapes Go.ChangeAt Go.RowKit
open Go.Proofs.Ytllajhieocploaa.Bk (Bytes okE newB okBk Ris IsJoin joinB lessE)
set_option linter.unusedVariables false
attribute [local go_sem] m_Len m_Less m_Swap m_Push m_Pop as_book
theorem infoSl : (Try.prog.info? 33).map (fun i => (i.zero, i.size, i.bytes)) = some (some (.slice none 0 0), 1, 24) := by kernel_rfl
/-- An append whose run is known, as one step of a region that draws. -/
theorem step_append_run {ops : Array Oper} {o : Oper} {a : Act} {w w' : World} {K : Act → World → Prop} {Q : Exit → Act → World → Prop} {E : Prop} {v u v' : Value} {t ty : TypeId}
    (hrun : Hid ((Builtin.append_ #[t, t] ty #[v, u]).run Try.prog w = .ok v' w')) (hg : o.guard = none) (s x : Operand) (hop : o.op = Op.call { callee := Callee.builtin Builtin.append, args := #[s, x], argTypes := #[t, t] }) (hty : o.type = ty)
    (hs : a.eval s = v) (hx : a.eval x = u) (hK : K (a.put o.dst v') w') : if Region.wanted o (yielded ops a.tmps) = true then Oper.wp Try.prog o a w K Q else E := by
  have hw : Region.wanted o (yielded ops a.tmps) = true := by simp [Region.wanted, hg]
  rw [if_pos hw]
  have hr := hrun.out
  unfold Oper.wp
  simp [execOp, hop, resolve, invoke, builtin, hs, hx, hty, hr, Result.andThen]
  exact hK
/-- The rests at block b while they grow: the slices xs in a row of their own. -/
structure Rs (w : World) (base b : Nat) (xs : List Value) : Prop where
  le : base ≤ b
  all : ∃ v, w.heap[b]? = some (.cells #[v] 128 (0, 0)) ∧ w.ownsRow base 33 1 v xs.length xs
/-- Two rests, in this order, or the other way round. -/
structure Two (w : World) (b g cap : Nat) (r : Bool) (v0 v1 : Value) : Prop where
  no : r = false → Hp w b g cap 2 v0 v1
  yes : r = true → Hp w b g cap 2 v1 v0
theorem rs_ne {w : World} {base b n : Nat} {v u : Value} {xs : List Value} (h : w.heap[b]? = some (.cells #[u] 128 (0, 0))) (o : w.ownsRow base 33 1 v n xs) : v.ownBlock ≠ some b := by
  intro e
  rcases o.2 with ⟨rfl, _⟩ | ⟨g, cap, cur, rfl, _, hg, _⟩
  · cases e
  · cases e
    rw [h] at hg
    simp at hg
theorem Rs.hp {w : World} {base b : Nat} {x : Value} {xs : List Value} (h : Rs w base b (x :: xs)) (hl : xs.length ≤ 1) : ∃ g cap, base ≤ g ∧ cap ≤ maxLen ∧ Hp w b g cap (xs.length + 1) x (xs.headD x) := by
  obtain ⟨le, v, hb, ho⟩ := h
  have ho' := ho
  rcases ho.2 with ⟨_, h0⟩ | ⟨g, cap, cur, rfl, hg, hw, hn, hm, _⟩
  · simp at h0
  · refine ⟨g, cap, hg, hm, ⟨fun e => rs_ne hb ho' (by rw [e]; rfl), (Array.getElem?_eq_some_iff.1 hb).1, (Array.getElem?_eq_some_iff.1 hw).1, by simpa using hn, by rw [Go.Lib.cell_of_heap hb]; rfl, by simp [World.frozen?, hb], fun i hi => ?_, fun i => World.ownsRow.frozenAt ho' i⟩⟩
    rw [World.ownsRow.cellAt ho' i (by simp; omega)]
    clear ho ho' hw
    rcases Nat.eq_zero_or_pos i with rfl | hp
    · rfl
    · have e1 : i = 1 := by omega
      subst e1
      cases xs with
      | nil => simp at hi
      | cons y ys => rfl
set_option maxRecDepth 100000 in
set_option maxHeartbeats 8000000 in
theorem rests_Push {w : World} {base b p o n c : Nat} {xs : List Value} (h : Rs w base b xs) (hl : xs.length ≤ 1000) (hbs : base ≤ w.heap.size) :
    Calls Try.prog 147 #[.pointer (some ⟨b, 0, none⟩), .iface 33 (sv p o n c)] w fun e w' => e = .returned (.tuple #[]) ∧ Rs w' base b (xs ++ [sv p o n c]) ∧ Below base w w' := by
  obtain ⟨i0, hi0, hz0, hz1, hz2⟩ := info_parts infoSl
  obtain ⟨le, v, hb, ho⟩ := h
  obtain ⟨v', w', hrun, r1, r2, r3⟩ := run_append_own (P := Try.prog) (w.alloc (.cells #[sv p o n c] 33)).drew base 128 128 33 i0 (.slice none 0 0) 1 24 Try.underlying128 hi0 hz0 hz1 hz2 rfl (by decide) v xs.length xs (World.ownsRow.alloc ho _) ⟨w.heap.size, 0, none⟩ 1 1 [sv p o n c] rfl (fun j u hj => by
    match j, hj with
    | 0, hj => simp at hj; subst hj; simp [Addr.add]) (fun u hu => by simp at hu; subst hu; rfl) (by unfold maxLen; omega) (by omega) (by simp; omega)
  have hbl := (Array.getElem?_eq_some_iff.1 hb).1
  have hb1 : w'.heap[b]? = some (.cells #[v] 128 (0, 0)) := (r2.block b (by simp; omega) (fun e => rs_ne hb ho e.symm)).trans ((Below.heap_alloc _ _ _ hbl).trans hb)
  have c0 : w.cell? ⟨b, 0, none⟩ = some v := by rw [Go.Lib.cell_of_heap hb]; rfl
  have c1 : w'.cell? ⟨b, 0, none⟩ = some v := by rw [Go.Lib.cell_of_heap hb1]; rfl
  have f1 : w'.frozen? ⟨b, 0, none⟩ = false := by simp [World.frozen?, hb1]
  have hne : v' ≠ .slice none 0 0 := fun e => by have := (r3.1 e).2; omega
  have HF : Hid (Rs (w'.setCell ⟨b, 0, none⟩ v') base b (xs ++ [sv p o n c]) ∧ Below base w (w'.setCell ⟨b, 0, none⟩ v')) := hidIt ⟨⟨le, v', by simp [World.setCell, Array.getElem?_modify, hb1], by
      rw [List.length_append]
      refine World.ownsRow.kept r1 (row := some b) ⟨rfl, rfl, rfl, by simp [World.setCell], fun i hi hx => Below.heap_setCell _ _ _ _ (fun e => hx (by rw [e]))⟩ ?_
      exact .inr (fun e => rs_ne hb1 r1 e)⟩, (((Below.refl base w).alloc hbs _).drew.grown r2 (by simp; omega) (fun k hk => (World.ownsRow.lt ho k hk).1)).setCell (p := ⟨b, 0, none⟩) le _⟩
  obtain ⟨g, cap, ev⟩ : ∃ g cap, v' = .slice (some ⟨g, 0, none⟩) (xs.length + 1) cap := by
    rcases r1.2 with ⟨e, _⟩ | ⟨g, cap, cur, e, _⟩
    · exact absurd e hne
    · exact ⟨g, cap, e⟩
  subst ev
  obtain ⟨va, vn, vc, evv⟩ : ∃ a m c, v = .slice a m c := by
    rcases ho.2 with ⟨e, _⟩ | ⟨g, cap, cur, e, _⟩
    · exact ⟨_, _, _, e⟩
    · exact ⟨_, _, _, e⟩
  subst evv
  have HRun := hidIt hrun
  clear r1 r2 r3 hb1 hb ho hne hi0 hz0 hz1 hz2 hrun
  go_enter Try.func147, Try.ntmps147
  go_wp2_with (fail)
  go_region_law (refine step_append_run HRun rfl (.tmp 7) (.tmp 10) rfl rfl (by simp [Act.eval]) (by simp [Act.eval]) ?_)
  all_goals exact bodyPost_end (v := .tuple #[]) (by simp [results, Try.results147, go_sem]) rfl ⟨rfl, HF.out⟩
set_option maxRecDepth 100000 in
set_option maxHeartbeats 4000000 in
theorem up_none (b : Nat) (w : World) : Calls Try.prog 116 #[hI b, .int .i64 0] w fun e w' => e = .returned (.tuple #[]) ∧ w' = w := by
  go_enter Try.func116, Try.ntmps116
  go_wp2_with (fail)
  go_loopw [1] (fun y wx => y = .int .i64 0 ∧ Hid (wx = w)) (fun y _ => 0)
  case atStart => exact ⟨rfl, hidIt rfl⟩
  case round =>
    obtain ⟨rfl, HW⟩ := hrel
    go_wp2_with (fail)
    exact bodyPost_end (v := .tuple #[]) (by simp [results, Try.results116, go_sem]) rfl ⟨rfl, HW.out⟩
set_option maxRecDepth 100000 in
set_option maxHeartbeats 4000000 in
theorem up_one {w : World} {b g cap p0 o0 n0 k0 p1 o1 n1 k1 : Nat} {L0 L1 : List Rw} (h : Hp w b g cap 2 (sv p0 o0 n0 k0) (sv p1 o1 n1 k1)) (h0 : Rd w (some ⟨p0, o0, none⟩) L0) (h1 : Rd w (some ⟨p1, o1, none⟩) L1) (e0 : L0.length = n0) (e1 : L1.length = n1) (z0 : 0 < n0) (z1 : 0 < n1) :
    Calls Try.prog 116 #[hI b, .int .i64 1] w fun e w' => e = .returned (.tuple #[]) ∧ Two w' b g cap (lessE (toE (rat L1 0)) (toE (rat L0 0))) (sv p0 o0 n0 k0) (sv p1 o1 n1 k1) ∧ Fr b g w w' := by
  have CL := hidIt (rests_Less h h0 h1 e0 e1 z0 z1)
  have CS := hidIt (fun W (h : Hp W b g cap 2 (sv p0 o0 n0 k0) (sv p1 o1 n1 k1)) => rests_Swap01 h)
  have HH := hidIt h
  have me := h.me
  clear h h0 h1 e0 e1 z0 z1
  generalize lessE (toE (rat L1 0)) (toE (rat L0 0)) = r at CL ⊢
  go_enter Try.func116, Try.ntmps116
  go_wp2_with (fail)
  go_loopw [1] (fun y wx => (y = .int .i64 1 ∧ Hid (wx = w)) ∨ (y = .int .i64 0 ∧ Hid (r = true) ∧ Hid (Hp wx b g cap 2 (sv p1 o1 n1 k1) (sv p0 o0 n0 k0)) ∧ Hid (Fr b g w wx))) (fun y _ => (intOf y).toNat)
  case atStart => exact .inl ⟨rfl, hidIt rfl⟩
  case round =>
    rcases hrel with ⟨rfl, HW⟩ | ⟨rfl, HR, HP, HF⟩
    · have ew := HW.out
      subst ew
      go_wp2_with (fail)
      refine CL.out.mono ?_
      rintro e w1 ⟨rfl, k1⟩
      have HP1 := hidIt (HH.out.kept k1)
      have HF1 := hidIt (Fr.of_below (b := b) (g := g) k1)
      have me1 := HP1.out.me
      clear k1
      cases r with
      | false =>
        go_wp2_with (fail)
        exact bodyPost_end (v := .tuple #[]) (by simp [results, Try.results116, go_sem]) rfl ⟨rfl, ⟨fun _ => HP1.out, fun h => by cases h⟩, HF1.out⟩
      | true =>
        go_wp2_with (fail)
        refine (CS.out _ HP1.out).mono ?_
        rintro e w2 ⟨rfl, p2, f2⟩
        have HP2 := hidIt p2
        have HF2 := hidIt (HF1.out.trans f2)
        clear p2 f2
        go_wp2_with (fail)
        exact ⟨.inr ⟨rfl, by first | exact hidIt rfl | exact hidIt trivial, HP2, HF2⟩, by simp [intOf]⟩
    · go_wp2_with (fail)
      exact bodyPost_end (v := .tuple #[]) (by simp [results, Try.results116, go_sem]) rfl ⟨rfl, ⟨fun h => absurd (HR.out.symm.trans h) (by decide), fun _ => HP.out⟩, HF.out⟩
set_option maxRecDepth 100000 in
set_option maxHeartbeats 4000000 in
theorem down_none (b n : Nat) (w : World) (hn : n ≤ 1) : Calls Try.prog 120 #[hI b, .int .i64 0, .int .i64 n] w fun e w' => e = .returned (.bool false) ∧ w' = w := by
  have h1 : (n : Int) ≤ 1 := by omega
  go_enter Try.func120, Try.ntmps120
  go_wp2_with (fail)
  go_loopw [7] (fun y wx => y = .int .i64 0 ∧ Hid (wx = w)) (fun y _ => 0)
  case atStart => exact ⟨rfl, hidIt rfl⟩
  case round =>
    obtain ⟨rfl, HW⟩ := hrel
    go_wp2_with (fail)
    go_ret
    exact ⟨rfl, HW.out⟩
set_option maxRecDepth 100000 in
set_option maxHeartbeats 4000000 in
theorem down_two {w : World} {b g cap p0 o0 n0 k0 p1 o1 n1 k1 : Nat} {L0 L1 : List Rw} (h : Hp w b g cap 2 (sv p0 o0 n0 k0) (sv p1 o1 n1 k1)) (h0 : Rd w (some ⟨p0, o0, none⟩) L0) (h1 : Rd w (some ⟨p1, o1, none⟩) L1) (e0 : L0.length = n0) (e1 : L1.length = n1) (z0 : 0 < n0) (z1 : 0 < n1) :
    Calls Try.prog 120 #[hI b, .int .i64 0, .int .i64 2] w fun e w' => e = .returned (.bool (lessE (toE (rat L1 0)) (toE (rat L0 0)))) ∧ Two w' b g cap (lessE (toE (rat L1 0)) (toE (rat L0 0))) (sv p0 o0 n0 k0) (sv p1 o1 n1 k1) ∧ Fr b g w w' := by
  have CL := hidIt (rests_Less h h0 h1 e0 e1 z0 z1)
  have CS := hidIt (fun W (h : Hp W b g cap 2 (sv p0 o0 n0 k0) (sv p1 o1 n1 k1)) => rests_Swap01 h)
  have HH := hidIt h
  have me := h.me
  clear h h0 h1 e0 e1 z0 z1
  generalize lessE (toE (rat L1 0)) (toE (rat L0 0)) = r at CL ⊢
  go_enter Try.func120, Try.ntmps120
  go_wp2_with (fail)
  go_loopw [7] (fun y wx => (y = .int .i64 0 ∧ Hid (wx = w)) ∨ (y = .int .i64 1 ∧ Hid (r = true) ∧ Hid (Hp wx b g cap 2 (sv p1 o1 n1 k1) (sv p0 o0 n0 k0)) ∧ Hid (Fr b g w wx))) (fun y _ => (1 - intOf y).toNat)
  case atStart => exact .inl ⟨rfl, hidIt rfl⟩
  case round =>
    rcases hrel with ⟨rfl, HW⟩ | ⟨rfl, HR, HP, HF⟩
    · have ew := HW.out
      subst ew
      go_wp2_with (fail)
      refine CL.out.mono ?_
      rintro e w1 ⟨rfl, k1⟩
      have HP1 := hidIt (HH.out.kept k1)
      have HF1 := hidIt (Fr.of_below (b := b) (g := g) k1)
      have me1 := HP1.out.me
      clear k1
      cases r with
      | false =>
        go_wp2_with (fail)
        go_ret
        exact ⟨rfl, ⟨fun _ => HP1.out, fun h => by cases h⟩, HF1.out⟩
      | true =>
        go_wp2_with (fail)
        refine (CS.out _ HP1.out).mono ?_
        rintro e w2 ⟨rfl, p2, f2⟩
        have HP2 := hidIt p2
        have HF2 := hidIt (HF1.out.trans f2)
        clear p2 f2
        go_wp2_with (fail)
        exact ⟨.inr ⟨rfl, by first | exact hidIt rfl | exact hidIt trivial, HP2, HF2⟩, by simp [intOf]⟩
    · have er := HR.out
      subst er
      go_wp2_with (fail)
      go_ret
      exact ⟨rfl, ⟨fun h => (by cases h), fun _ => HP.out⟩, HF.out⟩
end Go.Proofs.Ytllajhieocploaa.En
