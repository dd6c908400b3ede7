/-
  The packer's name: what it writes of one name, and what it then knows.
-/
import Derived.Test.YtdbldhcelbllgaaPackM
import Derived.Test.YtdbldhcelbllgaaNameL
import Derived.Test.YtdbldhcelbllgaaNameU
import Derived.Deep.LoopGhost
namespace Go.Proofs.Ytdbldhcelbllgaa.Nm
open Go.ChangeShapes Go.WideShapes Go.ChangeAt Go.RowKit
theorem packL_nil (b : Bytes) (R : List (Bytes × Nat)) : packL b R [] = (b ++ [0], R) := rfl
theorem packL_some {b : Bytes} {R : List (Bytes × Nat)} {l : Bytes} {ls : List Bytes} {p : Nat} (h : find R (join (l :: ls)) = some p) : packL b R (l :: ls) = (b ++ [UInt8.ofNat (192 + p / 256), UInt8.ofNat (p % 256)], R) := by
  simp [packL, h]
theorem packL_none {b : Bytes} {R : List (Bytes × Nat)} {l : Bytes} {ls : List Bytes} (h : find R (join (l :: ls)) = none) : packL b R (l :: ls) = packL (b ++ UInt8.ofNat l.length :: l) (R ++ [(join (l :: ls), b.length)]) ls := by
  simp [packL, h]
theorem packL_size : ∀ (ls : List Bytes) (b : Bytes) (R : List (Bytes × Nat)), Good ls → (packL b R ls).1.length ≤ b.length + room ls ∧ (packL b R ls).2.length ≤ R.length + ls.length
  | [], b, R, _ => by simp [packL_nil, room]
  | l :: ls, b, R, hg => by
    have hl := label_facts (hg l (by simp))
    cases hf : find R (join (l :: ls)) with
    | some p => rw [packL_some hf]; have := room_pos ls; simp [room]; omega
    | none =>
      rw [packL_none hf]
      have := packL_size ls (b ++ UInt8.ofNat l.length :: l) (R ++ [(join (l :: ls), b.length)]) (fun x hx => hg x (by simp [hx]))
      simp only [List.length_append, List.length_cons, List.length_nil] at this ⊢
      simp only [room]
      omega
theorem join_ne {l : Bytes} {ls : List Bytes} (h : 1 ≤ l.length) : join (l :: ls) ≠ [] := by
  intro e
  have := join_longer l ls h
  rw [e] at this
  simp at this
theorem join_short : ∀ (ls : List Bytes), Good ls → (join ls).length ≤ 13 * ls.length
  | [], _ => by simp [join]
  | [l], hg => by have := label_facts (hg l (by simp)); show l.length ≤ _; simp; omega
  | l :: m :: r, hg => by
    have := label_facts (hg l (by simp))
    have ih := join_short (m :: r) (fun x hx => hg x (by simp [hx]))
    rw [join_cons_length l (m :: r) (by simp)]
    simp only [List.length_cons] at ih ⊢
    omega
/-- The first label of a name cut off. -/
theorem cut_any (l : Bytes) (ls : List Bytes) (w : World) (hg : Good (l :: ls)) (hn : (l :: ls).length ≤ 6) :
    Calls Try.prog 41 #[.string (B (join (l :: ls))), .string dotS] w fun e w' => ∃ f, e = .returned (.tuple #[.string (B l), .string (B (join ls)), .bool f]) ∧ (w' = w ∨ w' = w.drew) := by
  have hl := label_facts (hg l (by simp))
  cases ls with
  | nil =>
    refine (lib_Cut_none (B (join [l])) w (by rw [bs_B]; exact hl.2.2)).mono ?_
    rintro e w' ⟨rfl, rfl⟩
    exact ⟨false, rfl, .inl rfl⟩
  | cons m r =>
    have hz := join_short (l :: m :: r) hg
    refine (lib_Cut_some l (join (m :: r)) w hl.2.2 ?_).mono ?_
    · show (join (l :: m :: r)).length ≤ maxLen
      unfold maxLen; omega
    · rintro e w' ⟨rfl, rfl⟩
      exact ⟨true, rfl, .inr rfl⟩
/-- The map's answer at a rest. -/
theorem Pk.look {w : World} {base pb : Nat} {b : Bytes} {R : List (Bytes × Nat)} (h : Pk w base pb b R) (s : ByteArray) (hs : s.size ≤ maxLen) :
    ∃ mb, w.cell? ⟨pb, 1, none⟩ = some (.map (some mb)) ∧ (∀ p, find R (bs s) = some p → p < 16384 ∧ (Instr.lookup 42 (.map (some mb)) (.string s) true).run Try.prog w = .ok (.tuple #[.int .i64 (p : Int), .bool true]) w) ∧
      (find R (bs s) = none → ∃ c, (Instr.lookup 42 (.map (some mb)) (.string s) true).run Try.prog w = .ok (.tuple #[.int .i64 c, .bool false]) w) := by
  obtain ⟨le, v, mb, n, D, hb, hm, ho, hM, hn, hP⟩ := h
  have hkey : keyOf Try.prog 9 (.string s) = some (.string (bs s)) := Go.WideMaps.keyOf_string_mk Try.underlying9 hs
  obtain ⟨x, ps, hrun, hx⟩ := hM.look_ok keyLaw Try.underlying42 (zeroInt w) (plainElem_int Try.underlying3 (by decide)) hkey
  obtain ⟨c, rfl, hc, hw⟩ := plainElem_int_inv Try.underlying3 hx
  simp only [Prod.mk.injEq] at hc
  refine ⟨mb, by rw [Go.Lib.cell_of_heap hb]; rfl, fun p hp => ?_, fun hp => ?_⟩
  · obtain ⟨h1, h2, h3⟩ := hP.yes _ p hp
    rw [h1] at hrun
    rw [h2] at hc
    have : (p : Int) = c := by have := hc.1; simp at this; exact this
    subst this
    exact ⟨h3, hrun⟩
  · rw [hP.no _ hp] at hrun
    exact ⟨c, hrun⟩
def textOf : Value → ByteArray | .string s => s | _ => ByteArray.empty
set_option maxRecDepth 100000 in
set_option maxHeartbeats 4000000 in
theorem name_any (base pb : Nat) (b : Bytes) (R : List (Bytes × Nat)) (ls : List Bytes) (w : World) (h : Pk w base pb b R) (hg : Good ls) (hn : ls.length ≤ 6) (hl : b.length + room ls ≤ 16384) (hR : R.length + ls.length ≤ 1000) (hbw : base ≤ w.heap.size) :
    Calls Try.prog 26 #[.pointer (some ⟨pb, 0, none⟩), .string (B (join ls))] w fun e w' => e = .returned (.tuple #[]) ∧ Pk w' base pb (packL b R ls).1 (packL b R ls).2 ∧ Below base w w' := by
  obtain ⟨i0, hi, hz0, hz1, hz2⟩ := info_parts info8p
  have HK := hidIt h
  have HG := hidIt hg
  have HL := hidIt hl
  have le := h.le
  obtain ⟨s0, hs0⟩ : ∃ s, s = B (join ls) := ⟨_, rfl⟩
  rw [← hs0]
  have HS := hidIt hs0
  clear h hg hl hs0
  go_enter Try.func26, Try.ntmps26
  go_wp2_with (fail)
  go_loopw [4] (fun y wx => ∃ (c : Bytes) (Q : List (Bytes × Nat)) (ms : List Bytes), y = .string (B (join ms)) ∧ Hid (packL c Q ms = packL b R ls) ∧ Hid (Pk wx base pb c Q) ∧ Hid (Good ms) ∧ ms.length ≤ ls.length ∧ Hid (c.length + room ms ≤ 16384) ∧ Hid (Q.length + ms.length ≤ 1000) ∧ Hid (Below base w wx)) (fun y _ => (textOf y).size)
  case atStart => exact ⟨b, R, ls, by rw [HS.out], hidIt rfl, HK, HG, Nat.le_refl _, HL, hidIt hR, hidIt (Below.refl _ _)⟩
  case round =>
    obtain ⟨c, Q, ms, hy, HE, HP, HQ, hml, HZ, HR, HB⟩ := hrel
    clear HK HG HL HS
    cases ms with
    | nil =>
      have hy' : u4 = .string ByteArray.empty := hy
      subst hy'
      clear hy
      obtain ⟨le', v, mb, n, D, hb, hm, ho, hM, hn', hP⟩ := HP.out
      have c0 : wr.cell? ⟨pb, 0, none⟩ = some v := by rw [Go.Lib.cell_of_heap hb]; rfl
      have hlt := (Array.getElem?_eq_some_iff.1 hb).1
      have hcl : c.length ≤ 16384 := by have := HZ.out; omega
      have HB2 := hidIt hb
      have HO := hidIt ho
      have HM := hidIt hM
      clear hb ho hM HP
      go_wp2_with (at_builtin; refine wpList_append_own _ rfl _ _ 22 rfl base 5 i0 (.int .u8 0) 1 1 Try.underlying22 hi hz0 hz1 hz2 rfl (by decide) _ _ _ rfl (World.ownsRow.alloc HO.out _) ⟨wr.heap.size, 0, none⟩ 1 1 [.int .u8 0] rfl rfl (one_newI _ _) (ints_one [_]) ?c3 ?c4 ?c5 ?_)
      case c3 => unfold maxLen; omega
      case c4 => omega
      case c5 => exact Nat.le_trans (Nat.le_trans hbw HB.out.size) (by simp)
      intro v' w1 hown hgrow _
      have hg := grown_alloc hgrow
      have hown' := own_more (c := [0]) hown (by first | rfl | simp)
      obtain ⟨a', m', cap', rfl⟩ := own_form3 hown'
      have hb1 := (hg.block pb hlt (fun e => pk_row HB2.out HO.out e.symm)).trans HB2.out
      have d0 : w1.cell? ⟨pb, 0, none⟩ = some v := by rw [Go.Lib.cell_of_heap hb1]; rfl
      have f0 : w1.frozen? ⟨pb, 0, none⟩ = false := Go.Lib.frozen_of_heap hb1 0
      have HN := hidIt hown'
      have HG := hidIt hg
      clear hown hown' hgrow hg hb1
      go_wp2_with (fail)
      refine bodyPost_end (v := .tuple #[]) (by simp [results, Try.results26, go_sem]) rfl ⟨rfl, ?_, HB.out.trans (stored_below le HO.out HG.out (Nat.le_trans hbw HB.out.size))⟩
      rw [← HE.out, packL_nil]
      exact Pk.stored le HB2.out hm HO.out HM.out hn' hP HN.out HG.out
    | cons l t =>
      have hl := label_facts (HQ.out l (by simp))
      have hj := join_short (l :: t) HQ.out
      have hne := join_ne (ls := t) hl.1
      have hlen : (l :: t).length ≤ 6 := by omega
      have h12 := hl.2.1
      have hcl : c.length < 16384 := by have := HZ.out; simp only [room] at this; omega
      have hQ := HR.out
      rw [List.length_cons] at hQ hj
      have HQt : Hid (Good t) := hidIt (fun x hx => HQ.out x (by simp [hx]))
      obtain ⟨s, hs⟩ : ∃ s, s = B (join (l :: t)) := ⟨_, rfl⟩
      have hsz : s.size ≤ 1000 := by rw [hs, B_size]; rw [List.length_cons] at hlen; omega
      have ebs : bs s = join (l :: t) := by rw [hs, bs_B]
      have h0 : s ≠ ByteArray.empty := fun e => by rw [e] at ebs; exact hne ebs.symm
      rw [← hs] at hy
      subst hy
      have h1 := not_empty h0
      have h2 := filled h0
      obtain ⟨mb, c1, hyes, hno⟩ := HP.out.look s (by unfold maxLen; omega)
      rw [ebs] at hyes hno
      have HCut := hidIt (fun w => cut_any l t w HQ.out hlen)
      rw [← hs] at HCut
      have HS := hidIt hs
      have EB := hidIt ebs
      clear hs ebs hl hj hne h0
      cases hf : find Q (join (l :: t)) with
      | some p =>
        obtain ⟨hp, hrun⟩ := hyes p hf
        clear hyes hno
        have HF := hidIt hf
        clear hf
        go_wp2_with (go_at_call 39; refine (pair_any base pb c Q p _ HP.out hp (by omega) (Nat.le_trans hbw HB.out.size)).mono ?_; rintro e w1 ⟨rfl, hK1, hB1⟩)
        refine bodyPost_ret (v := .tuple #[]) (by simp [results, Try.results26, go_sem]) rfl ⟨rfl, ?_, HB.out.trans hB1⟩
        rw [← HE.out, packL_some HF.out]
        exact hK1
      | none =>
        obtain ⟨z, hrun⟩ := hno hf
        have HNote := hidIt (note_any base pb c Q s _ HP.out hsz hcl (by rw [EB.out]; exact hf) (by omega))
        clear hyes hno
        have HF := hidIt hf
        clear hf
        go_wp2_with (go_at_call 40; refine HNote.out.mono ?_; rintro e w1 ⟨rfl, hK1, hB1⟩)
        have HK1 := hidIt hK1
        have HB1 := hidIt (HB.out.trans hB1)
        clear hK1 hB1 HNote hrun c1
        go_wp2_with (go_at_call 41; refine (HCut.out _).mono ?_; rintro e w2 ⟨f, rfl, hw2⟩)
        have HK2 : Hid (Pk w2 base pb c (Q ++ [(bs s, c.length)])) := hidIt (by rcases hw2 with rfl | rfl; exact HK1.out; exact HK1.out.drew)
        have HB2 : Hid (Below base w w2) := hidIt (by rcases hw2 with rfl | rfl; exact HB1.out; exact HB1.out.drew)
        clear hw2 HK1 HB1
        go_wp2_with (go_at_call 42; refine (label_any base pb c l _ _ HK2.out h12 (by omega) (Nat.le_trans hbw HB2.out.size)).mono ?_; rintro e w3 ⟨rfl, hK3, hB3⟩)
        have HK3 := hidIt hK3
        have HB3 := hidIt (HB2.out.trans hB3)
        clear hK3 hB3
        go_wp2_with (fail)
        refine ⟨⟨_, _, t, rfl, hidIt ?_, HK3, HQt, by simp at hml; omega, hidIt ?_, hidIt ?_, HB3⟩, ?_⟩
        · rw [← HE.out, packL_none HF.out, EB.out]
        · have := HZ.out
          simp only [room] at this
          rw [List.length_append, List.length_cons]
          omega
        · rw [List.length_append, List.length_singleton]
          omega
        · have := join_longer l t (label_facts (HQ.out l (by simp))).1
          simp only [textOf]
          rw [HS.out, B_size, B_size]
          exact this
end Go.Proofs.Ytdbldhcelbllgaa.Nm
