/-
  The specification's l6Packed and Packed.
-/
import Derived.Test.YtdbldhcelbllgaaPackS
import Derived.Test.YtdbldhcelbllgaaNameU
namespace Go.Proofs.Ytdbldhcelbllgaa.Nm
open Go.ChangeShapes Go.WideShapes Go.ChangeAt Go.RowKit
theorem info3 : (Try.prog.info? 3).map (fun i => (i.zero, i.size, i.bytes)) = some (some (.int .i64 0), 1, 8) := by kernel_rfl
theorem labels_join {l : Bytes} {t : List Bytes} (hg : Good (l :: t)) : labels (join (l :: t)) = l :: t := by
  rw [labels_cons (join_ne (label_facts (hg l (by simp))).1), split_of_join (l :: t) (by simp) hg]
theorem ok_join {l : Bytes} {t : List Bytes} (hg : Good (l :: t)) (h6 : (l :: t).length ≤ 6) (h60 : (join (l :: t)).length ≤ 60) : okB (join (l :: t)) = true := by
  unfold okB
  rw [labels_join hg, decide_eq_true h60, decide_eq_true h6, Bool.true_and, Bool.and_true]
  exact List.all_eq_true.2 hg
theorem parent_join {l : Bytes} {t : List Bytes} (hg : Good (l :: t)) (h6 : (l :: t).length ≤ 6) (h60 : (join (l :: t)).length ≤ 60) : parentB (join (l :: t)) = join t := by
  rw [parentB, if_pos (ok_join hg h6 h60)]
  have hl := label_facts (hg l (by simp))
  cases t with
  | nil => exact after_whole hl.2.2
  | cons m r => exact after_cut hl.2.2 (join (m :: r))
theorem LB_join {l : Bytes} {t : List Bytes} (hg : Good (l :: t)) : LB (join (l :: t)) = B l :: t.map B := by
  rw [LB, labels_join hg]
  rfl
theorem join_le60 {l : Bytes} (h : okB l = true) : (join (labels l)).length ≤ 60 := by
  rw [join_labels]
  unfold okB at h
  simp only [Bool.and_eq_true, decide_eq_true_eq] at h
  exact h.1
theorem Tri.form {w : World} {base : Nat} {x y z : Value} {c : Bytes} {Q : List (Bytes × Nat)} (h : Tri w base x y z c Q) :
    (∃ a cap, x = .slice a c.length cap) ∧ (∃ a cap, y = .slice a Q.length cap) ∧ (∃ a cap, z = .slice a Q.length cap) := by
  refine ⟨own_form h.b, ?_, ?_⟩
  · obtain ⟨a, cap, e, _⟩ := h.r.form
    exact ⟨a, cap, by rw [e, List.length_map]⟩
  · rcases h.p.2 with ⟨e, h0⟩ | ⟨g, cap, cur, e, _⟩
    · exact ⟨none, 0, by rw [e, h0]⟩
    · exact ⟨_, _, e⟩
theorem Tri.look {w : World} {base k : Nat} {x : Value} {a4 a5 : Option Addr} {n4 n5 c4 c5 : Nat} {c : Bytes} {Q : List (Bytes × Nat)} (h : Tri w base x (.slice a4 n4 c4) (.slice a5 n5 c5) c Q) (hk : k < Q.length) :
    ∃ g4 g5, a4 = some ⟨g4, 0, none⟩ ∧ a5 = some ⟨g5, 0, none⟩ ∧ w.cell? ⟨g4, k, none⟩ = some (.string (B (Q[k]).1)) ∧ w.cell? ⟨g5, k, none⟩ = some (.int .i64 ((Q[k]).2 : Int)) := by
  obtain ⟨a, cap, e, _, _, hr, _, hx⟩ := h.r.form
  cases e
  obtain ⟨g, off, e, hc⟩ := hr.cell k (by rw [List.length_map]; exact hk)
  subst e
  obtain ⟨g', e', _⟩ := hx _ rfl
  cases e'
  rcases h.p.2 with ⟨e, h0⟩ | ⟨g5, cap, cur, e, _⟩
  · omega
  · cases e
    refine ⟨g, g5, rfl, rfl, ?_, ?_⟩
    · rw [Nat.zero_add, rests_at hk] at hc
      exact hc
    · rw [World.ownsRow.cellAt h.p k (by omega), List.getElem?_map, List.getElem?_eq_getElem hk]
      rfl
theorem Tri.noted {w w1 w2 : World} {base k : Nat} {x y y' z z' : Value} {c r : Bytes} {Q : List (Bytes × Nat)} (h : Tri w base x y z c Q) (h1 : w1.ownsRow base 9 1 y' (Q.length + 1) (scells (rests Q) ++ [.string (B r)])) (g1 : w.grownBy w1 y.ownBlock)
    (h2 : w2.ownsRow base 3 1 z' (Q.length + 1) (icells Q ++ [.int .i64 (k : Int)])) (g2 : w1.grownBy w2 z.ownBlock) : Tri w2 base x y' z' c (Q ++ [(r, k)]) := by
  have hz1 := World.ownsRow.kept h.p g1 (own_apart h.p h.r (by decide))
  refine ⟨?_, ?_, ?_⟩
  · have := World.ownsRow.kept h.b g1 (own_apart h.b h.r (by decide))
    exact World.ownsRow.kept this g2 (own_apart this hz1 (by decide))
  · have := World.ownsRow.kept h1 g2 (own_apart h1 hz1 (by decide))
    unfold Own
    rw [rests, List.map_append, List.length_append, List.length_map, scells, List.map_append]
    exact this
  · rw [icells, List.map_append, List.length_append]
    exact h2
theorem cell_alloc {w : World} {g o : Nat} {v : Value} (h : w.cell? ⟨g, o, none⟩ = some v) (x : Obj) : (w.alloc x).cell? ⟨g, o, none⟩ = some v := by
  rw [((Below.refl w.heap.size w).alloc (Nat.le_refl _) x).cell (by simpa using cell_block h)]
  exact h
theorem Tri.drew {w : World} {base : Nat} {x y z : Value} {c : Bytes} {Q : List (Bytes × Nat)} (h : Tri w base x y z c Q) : Tri w.drew base x y z c Q := h.kept ⟨rfl, rfl, rfl, Nat.le_refl _, fun _ _ => rfl⟩
theorem row_far {w w' : World} {g base n : Nat} {v : Value} {xs : List Value} {row : Option Nat} (h : ∃ cur fr, w.heap[g]? = some (.cells cur 9 fr)) (k : w.grownBy w' row) (hne : some g ≠ row) (ho : w'.ownsRow base 5 1 v n xs) : some g ≠ v.ownBlock := by
  obtain ⟨cur, fr, hg⟩ := h
  have hg' := (k.block g (Array.getElem?_eq_some_iff.1 hg).1 hne).trans hg
  intro e
  rcases ho.2 with ⟨rfl, _⟩ | ⟨g2, cap, cur2, rfl, _, hg2, _⟩
  · cases e
  · cases e
    rw [hg'] at hg2
    cases hg2
theorem Own.typed {w : World} {base g n cap : Nat} {L : List ByteArray} (h : Own w base (.slice (some ⟨g, 0, none⟩) n cap) L) : ∃ cur fr, w.heap[g]? = some (.cells cur 9 fr) := by
  rcases h.2 with ⟨e, _⟩ | ⟨g2, cap, cur, e, _, hg, _⟩
  · cases e
  · cases e
    exact ⟨_, _, hg⟩
theorem typed_alloc {w : World} {g : Nat} (h : ∃ cur fr, w.heap[g]? = some (.cells cur 9 fr)) (o : Obj) : ∃ cur fr, (w.alloc o).drew.heap[g]? = some (.cells cur 9 fr) := by
  obtain ⟨cur, fr, hg⟩ := h
  exact ⟨cur, fr, ((World.grownBy_alloc w o none).block g (Array.getElem?_eq_some_iff.1 hg).1 (by simp)).trans hg⟩
theorem bc_assoc {w : World} {base n : Nat} {v : Value} {a b d : Bytes} (h : w.ownsRow base 5 1 v n (bcells a ++ bcells b ++ bcells d)) : w.ownsRow base 5 1 v n (bcells (a ++ b) ++ bcells d) := by
  rw [bcells, List.map_append]
  exact h
theorem text_ne {a b : ByteArray} (h : a ≠ b) : (a.toList == b.toList) = false := by
  rw [toList_beq]
  exact decide_eq_false (fun e => h (bs_inj e))
theorem str_new (w : World) (x : ByteArray) : ∀ j u, ([.string x] : List Value)[j]? = some u → (w.alloc (.cells #[.string x] 9)).cell? ((⟨w.heap.size, 0, none⟩ : Addr).add j) = some u := by
  intro j u hj
  match j, hj with
  | 0, hj => simp at hj; subst hj; simp [Addr.add]
theorem int_new (w : World) (x : Int) : ∀ j u, ([.int .i64 x] : List Value)[j]? = some u → (w.alloc (.cells #[.int .i64 x] 3)).cell? ((⟨w.heap.size, 0, none⟩ : Addr).add j) = some u := by
  intro j u hj
  match j, hj with
  | 0, hj => simp at hj; subst hj; simp [Addr.add]
theorem grown_cell {w w' : World} {row : Option Nat} {g o : Nat} {v : Value} (hg : w.grownBy w' row) (h : w.cell? ⟨g, o, none⟩ = some v) (hne : some g ≠ row) : w'.cell? ⟨g, o, none⟩ = some v := hg.cell h hne
set_option maxRecDepth 100000 in
set_option maxHeartbeats 4000000 in
theorem spec_l6Packed (a : Option Addr) (cap : Nat) (L : List ByteArray) (w : World) (h : Rd w a L) (hk : okN (bL L) = true) :
    Calls Try.prog 33 #[.slice a L.length cap] w fun e w' => e = .returned (.string (B (pack (bL L)))) ∧ Below w.heap.size w w' := by
  obtain ⟨ib, hib, hb0, hb1, hb2⟩ := info_parts info8p
  obtain ⟨is, his, hs0, hs1, hs2⟩ := info_parts info9t
  obtain ⟨ii, hii, hi0, hi1, hi2⟩ := info_parts info3
  have HR := hidIt h
  obtain ⟨ho, h20⟩ := okN_facts hk
  rw [bL_length] at h20
  have HO := hidIt ho
  clear h hk ho
  go_enter Try.func33, Try.ntmps33
  go_wp2_with (fail)
  go_loopw [3, 4, 5, 6] (fun x y z u wx => ∃ (i : Nat) (c : Bytes) (Q : List (Bytes × Nat)), u = .int .i64 i ∧ i ≤ L.length ∧ Hid (Tri wx w.heap.size x y z c Q) ∧ Hid (packN c Q (((bL L).map labels).drop i) = pack (bL L)) ∧ c.length ≤ 62 * i ∧ Q.length ≤ 6 * i ∧ Hid (∀ e ∈ Q, e.2 < 16384) ∧ Hid (Below w.heap.size w wx)) (fun _ _ _ u _ => (L.length - intOf u).toNat)
  case atStart => exact ⟨0, [], [], rfl, by omega, hidIt (tri_new w), hidIt rfl, by simp, by simp, hidIt (by simp), hidIt ((((Below.refl _ w).alloc (Nat.le_refl _) _).alloc (by simp) _).alloc (by simp; omega) _)⟩
  case round =>
    obtain ⟨i, c0, Q0, rfl, hi, HT, HE, hc, hQn, HL, HB⟩ := hrel
    rcases Nat.lt_or_ge i L.length with hin | hin
    · have g2 : (i : Int) < (L.length : Int) := by omega
      obtain ⟨b, off, rfl, c0'⟩ := (HR.out.kept HB.out).cell i hin
      have hok := HO.out (bs (sat L i)) (by rw [← bL_at hin]; exact List.getElem_mem _)
      obtain ⟨hg, h6⟩ := ok_labels hok
      have hrm := room_le hok
      have h60 := join_le60 hok
      have HG := hidIt hg
      have hsz := packL_size (labels (bs (sat L i))) c0 Q0 hg
      have HS : Hid (sat L i = B (join (labels (bs (sat L i))))) := hidIt (by rw [join_labels, B_bs])
      have HN : Hid (packN (packL c0 Q0 (labels (bs (sat L i)))).1 (packL c0 Q0 (labels (bs (sat L i)))).2 (((bL L).map labels).drop (i + 1)) = pack (bL L)) := hidIt (by rw [← HE.out, drop_map hin, packN_cons])
      generalize labels (bs (sat L i)) = ls at *
      clear hok hg HE
      generalize sat L i = s0 at *
      go_wp2_with (fail)
      go_hide hQ
      go_loopw [3, 4, 5, 7] (fun x y z u wx => ∃ (c : Bytes) (Q : List (Bytes × Nat)) (ms : List Bytes), u = .string (B (join ms)) ∧ Hid (Tri wx w.heap.size x y z c Q) ∧ Hid (packL c Q ms = packL c0 Q0 ls) ∧ Hid (Good ms) ∧ ms.length ≤ ls.length ∧ c.length + room ms ≤ 62 * i + 62 ∧ Q.length + ms.length ≤ 6 * i + 6 ∧ (join ms).length ≤ 60 ∧ Hid (∀ e ∈ Q, e.2 < 16384) ∧ Hid (Below w.heap.size w wx)) (fun _ _ _ u _ => (textOf u).size)
      case atStart => exact ⟨c0, Q0, ls, by rw [HS.out], HT, hidIt rfl, HG, Nat.le_refl _, by omega, by omega, h60, HL, HB⟩
      case round =>
        obtain ⟨c, Q, ms, hy, HTm, HEm, HGm, hml, hcm, hQm, h60m, HLm, HBm⟩ := hrel
        clear HT HG HS HB HL h60 c0'
        cases ms with
        | nil =>
          have hy' : u7 = .string ByteArray.empty := hy
          subst hy'
          clear hy
          obtain ⟨a3, c3, rfl⟩ := HTm.out.form.1
          go_wp2_with (fail)
          subst hQ
          go_wp2_with (at_builtin; refine wpList_append_own _ rfl _ _ 22 rfl w.heap.size 5 ib (.int .u8 0) 1 1 Try.underlying22 hib hb0 hb1 hb2 rfl (by decide) _ _ _ rfl (World.ownsRow.alloc HTm.out.b _) ⟨wr.heap.size, 0, none⟩ 1 1 [.int .u8 0] rfl rfl (one_newI _ _) (ints_one [_]) ?d3 ?d4 ?d5 ?_)
          case d3 => unfold maxLen; omega
          case d4 => omega
          case d5 => exact Nat.le_trans HBm.out.size (by simp)
          intro v' w1 hown hgrow _
          have hgr := grown_alloc hgrow
          have hown' := own_more (c := [0]) hown (by first | rfl | simp)
          have HT1 := hidIt (HTm.out.bytes hown' hgr)
          have HB1 := hidIt (HBm.out.trans (HTm.out.below hgr (Nat.le_refl _) HBm.out.size))
          have e1 := HEm.out
          rw [packL_nil] at e1
          clear hown hown' hgrow hgr HTm HBm HEm
          have HE1 := hidIt e1
          clear e1
          go_wp2_with (fail)
          refine ⟨⟨i + 1, c ++ [0], Q, by simp, by omega, HT1, hidIt ?_, ?_, ?_, HLm, HB1⟩, by simp [intOf]; omega⟩
          · rw [← HN.out, ← HE1.out]
          · simp only [room] at hcm
            rw [List.length_append, List.length_singleton]
            omega
          · simp at hQm
            omega
        | cons l t =>
          have hl := label_facts (HGm.out l (by simp))
          have hne := join_ne (ls := t) hl.1
          obtain ⟨s, hs⟩ : ∃ s, s = B (join (l :: t)) := ⟨_, rfl⟩
          have ebs : bs s = join (l :: t) := by rw [hs, bs_B]
          have h0 : s ≠ ByteArray.empty := fun e => by rw [e] at ebs; exact hne ebs.symm
          have h1 := not_empty h0
          have h2 := filled h0
          rw [← hs] at hy
          subst hy
          have HS := hidIt hs
          have EB := hidIt ebs
          clear hs ebs h0 hne
          obtain ⟨⟨a3, c3, rfl⟩, ⟨a4, c4, rfl⟩, ⟨a5, c5, rfl⟩⟩ := HTm.out.form
          go_wp2_with (fail)
          go_hide hP
          go_loopw [8, 9] (fun y z wx => ∃ (k : Nat) (p : Int), z = .int .i64 k ∧ y = .int .i64 p ∧ k ≤ Q.length ∧ Hid (wx = wr) ∧ ((p = -1 ∧ Hid (find (Q.take k) (join (l :: t)) = none)) ∨ (0 ≤ p ∧ Hid (∃ q : Nat, p = (q : Int) ∧ find Q (join (l :: t)) = some q)))) (fun _ z _ => (Q.length - intOf z).toNat)
          case atStart => exact ⟨0, -1, rfl, rfl, by omega, hidIt rfl, .inl ⟨rfl, hidIt rfl⟩⟩
          case round =>
            obtain ⟨k, p, rfl, rfl, hk, HW, hcase⟩ := hrel
            have ew := HW.out
            subst ew
            clear HW
            by_cases hfound : 0 ≤ p
            · -- it is found: the loop ends, a pair is written
              obtain ⟨pn, ep, hf⟩ : ∃ q : Nat, p = (q : Int) ∧ find Q (join (l :: t)) = some q := by
                rcases hcase with ⟨e, _⟩ | ⟨_, H⟩
                · omega
                · exact H.out
              subst ep
              have HF := hidIt hf
              clear hcase hf
              have hpl : pn < 16384 := HLm.out _ (find_mem HF.out)
              have g3 : (0 : Int) ≤ (pn : Int) := by omega
              have g4 : (pn : Int) < 16384 := by omega
              have g5 : ¬ (pn : Int) < 0 := by omega
              have HC := hidIt (pair_cells hpl)
              have hne : (s.toList == []) = false := h1
              have e1 := HEm.out
              rw [packL_some HF.out] at e1
              have HE1 := hidIt e1
              clear e1 HEm hpl
              rcases Nat.lt_or_ge k Q.length with hkl | hkl
              · have g6 : (k : Int) < (Q.length : Int) := by omega
                go_wp2_with (fail)
                subst hP
                go_wp2_with (at_builtin; refine wpList_append_own _ rfl _ _ 22 rfl w.heap.size 5 ib (.int .u8 0) 1 1 Try.underlying22 hib hb0 hb1 hb2 rfl (by decide) _ _ _ rfl (World.ownsRow.alloc HTm.out.b _) ⟨wr.heap.size, 0, none⟩ 2 2 [.int .u8 (192 + (pn : Int) / 256), .int .u8 ((pn : Int) % 256)] rfl rfl (two_new _ _ _) (ints_one [_, _]) ?d3 ?d4 ?d5 ?_)
                case d3 => unfold maxLen; omega
                case d4 => omega
                case d5 => exact Nat.le_trans HBm.out.size (by simp)
                intro v' w1 hown hgrow _
                rw [← HC.out] at hown
                have hgr := grown_alloc hgrow
                have hown' := own_more hown (by first | rfl | simp)
                have HT1 := hidIt (HTm.out.bytes hown' hgr)
                have HB1 := hidIt (HBm.out.trans (HTm.out.below hgr (Nat.le_refl _) HBm.out.size))
                clear hown hown' hgrow hgr HTm HBm HC
                go_wp2_with (fail)
                subst hQ
                go_wp2_with (fail)
                refine ⟨⟨i + 1, _, Q, by simp, by omega, HT1, hidIt ?_, ?_, ?_, HLm, HB1⟩, by simp [intOf]; omega⟩
                · rw [← HN.out, ← HE1.out]
                · have := room_pos t
                  simp only [room] at hcm
                  rw [List.length_append]
                  simp only [List.length_cons, List.length_nil]
                  omega
                · simp at hQm
                  omega
              · have g6 : ¬ (k : Int) < (Q.length : Int) := by omega
                go_wp2_with (fail)
                subst hP
                go_wp2_with (at_builtin; refine wpList_append_own _ rfl _ _ 22 rfl w.heap.size 5 ib (.int .u8 0) 1 1 Try.underlying22 hib hb0 hb1 hb2 rfl (by decide) _ _ _ rfl (World.ownsRow.alloc HTm.out.b _) ⟨wr.heap.size, 0, none⟩ 2 2 [.int .u8 (192 + (pn : Int) / 256), .int .u8 ((pn : Int) % 256)] rfl rfl (two_new _ _ _) (ints_one [_, _]) ?d3 ?d4 ?d5 ?_)
                case d3 => unfold maxLen; omega
                case d4 => omega
                case d5 => exact Nat.le_trans HBm.out.size (by simp)
                intro v' w1 hown hgrow _
                rw [← HC.out] at hown
                have hgr := grown_alloc hgrow
                have hown' := own_more hown (by first | rfl | simp)
                have HT1 := hidIt (HTm.out.bytes hown' hgr)
                have HB1 := hidIt (HBm.out.trans (HTm.out.below hgr (Nat.le_refl _) HBm.out.size))
                clear hown hown' hgrow hgr HTm HBm HC
                go_wp2_with (fail)
                subst hQ
                go_wp2_with (fail)
                refine ⟨⟨i + 1, _, Q, by simp, by omega, HT1, hidIt ?_, ?_, ?_, HLm, HB1⟩, by simp [intOf]; omega⟩
                · rw [← HN.out, ← HE1.out]
                · have := room_pos t
                  simp only [room] at hcm
                  rw [List.length_append]
                  simp only [List.length_cons, List.length_nil]
                  omega
                · simp at hQm
                  omega
            · have hp1 : p = -1 := by
                rcases hcase with ⟨e, _⟩ | ⟨e, _⟩
                · exact e
                · omega
              subst hp1
              have HF : Hid (find (Q.take k) (join (l :: t)) = none) := by
                rcases hcase with ⟨_, H⟩ | ⟨e, _⟩
                · exact H
                · omega
              clear hcase hfound
              rcases Nat.lt_or_ge k Q.length with hkl | hkl
              · have g6 : (k : Int) < (Q.length : Int) := by omega
                obtain ⟨g4, g5, rfl, rfl, d4, d5⟩ := HTm.out.look hkl
                obtain ⟨f1, f2⟩ := find_take hkl HF.out
                by_cases heq : (Q[k]).1 = join (l :: t)
                · rw [if_pos heq] at f1
                  rw [heq, ← HS.out] at d4
                  have HF1 := hidIt f1
                  clear f1 f2 heq
                  generalize (Q[k]).2 = pn at *
                  go_wp2_with (fail)
                  refine ⟨⟨k + 1, (pn : Int), by simp, rfl, by omega, by first | exact hidIt rfl | exact hidIt trivial, .inr ⟨by omega, hidIt ⟨pn, rfl, HF1.out⟩⟩⟩, by simp [intOf]; omega⟩
                · have f3 := f2 heq
                  have HF1 := hidIt f3
                  have hq : B (Q[k]).1 ≠ s := fun e => heq (by rw [HS.out] at e; exact B_inj e)
                  clear f1 f2 f3 heq
                  generalize B (Q[k]).1 = q at *
                  have hq' := text_ne hq
                  clear hq
                  go_wp2_with (fail)
                  refine ⟨⟨k + 1, -1, by simp, rfl, by omega, by first | exact hidIt rfl | exact hidIt trivial, .inl ⟨rfl, HF1⟩⟩, by simp [intOf]; omega⟩
              · have g6 : ¬ (k : Int) < (Q.length : Int) := by omega
                have ek : k = Q.length := by omega
                have hf := HF.out
                rw [ek, List.take_of_length_le (Nat.le_refl _)] at hf
                have HF1 := hidIt hf
                clear ek hf HF
                have g7 : (c.length : Int) < 16384 := by omega
                have e1 := HEm.out
                rw [packL_none HF1.out] at e1
                have HE1 := hidIt e1
                clear e1 HEm
                go_wp2_with (fail)
                subst hP
                go_wp2_with (at_builtin; refine wpList_append_own _ rfl _ _ 24 rfl w.heap.size 9 is (.string ByteArray.empty) 1 16 Try.underlying24 his hs0 hs1 hs2 rfl (by decide) _ _ _ rfl (World.ownsRow.alloc HTm.out.r _) ⟨wr.heap.size, 0, none⟩ 1 1 [.string s] rfl rfl (str_new _ _) (fun u hu => by simp at hu; subst hu; rfl) ?d3 ?d4 ?d5 ?_)
                case d3 => rw [List.length_map]; unfold maxLen; omega
                case d4 => rw [List.length_map]; omega
                case d5 => exact Nat.le_trans HBm.out.size (by simp)
                intro y1 w1 hr1 hgr1 _
                have hg1 := grown_alloc hgr1
                have HR1 : Hid (w1.ownsRow w.heap.size 9 1 y1 (Q.length + 1) (scells (rests Q) ++ [.string s])) := hidIt (by simpa using hr1)
                have HG1 := hidIt hg1
                have HP1 := hidIt (World.ownsRow.kept HTm.out.p hg1 (own_apart HTm.out.p HTm.out.r (by decide)))
                have HB1 := hidIt (HBm.out.trans (grown_below HTm.out.r hg1 (Nat.le_refl _) HBm.out.size))
                clear hr1 hg1 hgr1
                go_wp2_with (at_builtin; refine wpList_append_own _ rfl _ _ 59 rfl w.heap.size 3 ii (.int .i64 0) 1 8 Try.underlying59 hii hi0 hi1 hi2 rfl (by decide) _ _ _ rfl (World.ownsRow.alloc HP1.out _) ⟨w1.heap.size, 0, none⟩ 1 1 [.int .i64 (c.length : Int)] rfl rfl (int_new _ _) (fun u hu => by simp at hu; subst hu; rfl) ?e3 ?e4 ?e5 ?_)
                case e3 => unfold maxLen; omega
                case e4 => omega
                case e5 => exact Nat.le_trans HB1.out.size (by simp)
                intro z1 w2 hp2 hgr2 _
                have hg2 := grown_alloc hgr2
                rw [HS.out] at HR1
                have HT2 := hidIt (HTm.out.noted HR1.out HG1.out hp2 hg2)
                have HB2 := hidIt (HB1.out.trans ⟨hg2.os, hg2.tape, hg2.output, hg2.size, fun k hk => hg2.block k (Nat.lt_of_lt_of_le hk HB1.out.size) (fun e => by have := (World.ownsRow.lt HP1.out k e.symm).1; omega)⟩)
                clear hp2 hgr2 hg2 HR1 HG1 HP1 HB1 HTm HBm
                have hss : s.size ≤ 60 := by rw [HS.out, B_size]; exact h60m
                have hLab := spec_l5Labels s w2 (by omega)
                rw [EB.out, LB_join HGm.out] at hLab
                have HLab := hidIt hLab
                clear hLab
                go_wp2_with (go_at_call 44; refine HLab.out.mono ?_; rintro e w3 ⟨v3, rfl, hO3, hB3⟩)
                obtain ⟨a6, c6, rfl, _, _, hr6, _, hx6⟩ := hO3.form
                obtain ⟨g6', off6, e6, d6⟩ := hr6.cell 0 (by simp)
                subst e6
                obtain ⟨g7', e7, l7, m7⟩ := hx6 _ rfl
                cases e7
                have d7 : w3.cell? ⟨g6', 0, none⟩ = some (.string (B l)) := d6
                have HNE : Hid (some g6' ≠ (Value.slice a3 c.length c3).ownBlock) := hidIt (fun e => by have := (World.ownsRow.lt HT2.out.b g6' e.symm).2; omega)
                have HT3 := hidIt (HT2.out.kept hB3)
                have HB3 := hidIt (HB2.out.trans (hB3.mono HB2.out.size))
                have hl12 := hl.2.1
                have hx12 : (B l).size ≤ 12 := by rw [B_size]; exact hl12
                have HC := hidIt (len_cells l hl12)
                have HX : Hid ((B l).size = l.length) := hidIt (B_size l)
                have HTy := hidIt hO3.typed
                clear hr6 hx6 d6 hO3 HT2 hB3 HLab HB2
                obtain ⟨x6, ex6⟩ : ∃ x, x = B l := ⟨_, rfl⟩
                rw [← ex6] at d7 hx12 HX
                have EX := hidIt ex6
                clear ex6
                have D8 := hidIt (cell_alloc d7 (.cells #[.int .u8 (x6.size : Int)] 5))
                have HTa := hidIt ((HT3.out.alloc (.cells #[.int .u8 (x6.size : Int)] 5)).drew)
                have HPar := hidIt (fun w => spec_Parent s w)
                rw [EB.out, parent_join HGm.out (by simp at hml; simp; omega) h60m] at HPar
                have z3 := HB3.out.size
                have g8 : (x6.size : Int) ≤ 12 := by omega
                have g9 : IntKind.u8.wrap (x6.size : Int) = (x6.size : Int) := by unfold IntKind.wrap; simp [IntKind.bits, IntKind.signed]; omega
                clear hl
                go_wp2_with (fail)
                go_region_held3 (fun w' => w'.cell? ⟨g6', 0, none⟩ = some (.string x6))
                  (first | assumption | exact d7 | exact D8.out | exact D5.out | (exact grown_cell hg6 D5.out HN5.out) | go_keep)
                  (first
                    | (refine step_append_own (by rfl) (.tmp 72) (.tmp 78) 22 (by rfl) w.heap.size 5 ib (.int .u8 0) 1 1 Try.underlying22 hib hb0 hb1 hb2 rfl (by decide) (.slice a3 c.length c3) c.length (bcells c) (by simp [Act.eval]) HTa.out.b ⟨w3.heap.size, 0, none⟩ 1 1 [.int .u8 (x6.size : Int)] (by simp [Act.eval]) rfl (one_newI w3 _) (ints_one [_]) (by unfold maxLen; omega) (by omega) (by simp; omega) ?_; intro v5 w5 ho5 hg5; have D5 := hidIt (grown_cell hg5 D8.out HNE.out); have HN5 := hidIt (row_far (typed_alloc HTy.out _) hg5 HNE.out ho5))
                    | (refine step_append_str (by rfl) (.tmp 79) (.tmp 82) 22 9 (by rfl) w.heap.size 5 ib Try.underlying22 Try.underlying9 hib hb0 hb1 hb2 v5 (c.length + 1) _ (by simp [Act.eval]) ho5 x6 (by simp [Act.eval]) (by unfold maxLen; omega) (by omega) (by have := hg5.size; simp at this; omega) ?_; intro v6 w6 ho6 hg6))
                all_goals
                  rw [HX.out, ← HC.out] at ho5
                  rw [HX.out, ← HC.out, bcells_str, EX.out, bs_B] at ho6
                  have hT5 := HTa.out.bytes (own_more ho5 (by first | rfl | simp)) hg5
                  have hb5 := HTa.out.below hg5 (Nat.le_refl _) (by simp; omega)
                  have ho6' := own_more (b := c ++ [UInt8.ofNat l.length]) (c := l) (bc_assoc ho6) (by simp)
                  have HT6 := hidIt (hT5.bytes ho6' hg6)
                  have HB6 := hidIt (((HB3.out.alloc HB3.out.size (.cells #[.int .u8 (x6.size : Int)] 5)).drew).trans (hb5.trans (hT5.below hg6 (Nat.le_refl _) (Nat.le_trans (by simp; omega) hg5.size))))
                  clear ho5 ho6 ho6' hT5 hb5 hg5 hg6 D5 HN5 HTa HT3 D8 d7 HTy HNE
                  go_wp2_with (go_at_call 45; refine (HPar.out _).mono ?_; rintro e w7 ⟨rfl, hB7⟩)
                  refine ⟨⟨_, _, t, rfl, hidIt (HT6.out.kept hB7), hidIt ?_, hidIt (fun x hx => HGm.out x (by simp [hx])), by simp at hml; omega, ?_, ?_, ?_, hidIt ?_, hidIt (HB6.out.trans (hB7.mono HB6.out.size))⟩, ?_⟩
                  · rw [← HE1.out]
                    simp
                  · simp only [room] at hcm
                    simp only [List.length_append, List.length_cons, List.length_nil]
                    omega
                  · simp only [List.length_cons] at hQm
                    simp only [List.length_append, List.length_cons, List.length_nil]
                    omega
                  · have := join_longer l t (label_facts (HGm.out l (by simp))).1
                    omega
                  · intro e he
                    rcases List.mem_append.1 he with he | he
                    · exact HLm.out e he
                    · simp at he
                      subst he
                      show c.length < 16384
                      omega
                  · have := join_longer l t (label_facts (HGm.out l (by simp))).1
                    simp only [textOf]
                    rw [HS.out, B_size, B_size]
                    exact this
    · have g2 : ¬ (i : Int) < (L.length : Int) := by omega
      have e : i = L.length := by omega
      have he := HE.out
      rw [e, List.drop_of_length_le (by simp)] at he
      have he' : c0 = pack (bL L) := he
      have hcv := (Rw.of_own HT.out.b).back
      rw [he'] at hcv
      clear he he' e HE
      go_wp2_with (fail)
      go_ret
      exact ⟨rfl, HB.out⟩
set_option maxRecDepth 100000 in
set_option maxHeartbeats 1000000 in
theorem spec_Packed (a : Option Addr) (cap : Nat) (L : List ByteArray) (w : World) (h : Rd w a L) (hl : L.length ≤ 1000000000) :
    Calls Try.prog 15 #[.slice a L.length cap] w fun e w' => e = .returned (.string (B (packB (bL L)))) ∧ Below w.heap.size w w' := by
  have HR := hidIt h
  have HP := hidIt (spec_l6Names a cap L w h hl)
  clear h
  cases hk : okN (bL L) with
  | false =>
    rw [hk] at HP
    have e : packB (bL L) = [] := by rw [packB, hk]; rfl
    rw [e]
    clear hk e
    go_enter Try.func15, Try.ntmps15
    go_wp2_with (go_at_call 32; refine HP.out.mono ?_; rintro e w1 ⟨rfl, hB1⟩)
    go_ret
    exact ⟨rfl, hB1⟩
  | true =>
    rw [hk] at HP
    have e : packB (bL L) = pack (bL L) := by rw [packB, if_pos hk]
    rw [e]
    have HQ := hidIt (fun w h => spec_l6Packed a cap L w h hk)
    clear hk e
    generalize pack (bL L) = pk at *
    go_enter Try.func15, Try.ntmps15
    go_wp2_with (go_at_call 32; refine HP.out.mono ?_; rintro e w1 ⟨rfl, hB1⟩)
    have HB1 := hidIt hB1
    clear hB1
    go_wp2_with (go_at_call 33; refine (HQ.out _ (HR.out.kept HB1.out)).mono ?_; rintro e w2 ⟨rfl, hB2⟩)
    go_ret
    exact ⟨rfl, HB1.out.trans (hB2.mono HB1.out.size)⟩
end Go.Proofs.Ytdbldhcelbllgaa.Nm
