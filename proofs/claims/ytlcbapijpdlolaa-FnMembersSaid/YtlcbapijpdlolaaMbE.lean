/-
  What l12Draw answers, whatever the bytes: at most four Members in a row of their own.
-/
import Derived.Test.YtlcbapijpdlolaaMbD
import Derived.Laws.AppendOwn
namespace Go.Proofs.Ytlcbapijpdlolaa.Mm
open Go.ChangeShapes Go.WideShapes Go.ChangeAt Go.RowKit
open Dr
set_option linter.unusedVariables false
set_option maxHeartbeats 4000000 in
theorem from_10 (B c : Nat) (a : Option Addr) (len cap : Nat) (w : World) (hC : Cur B w c a len cap) :
    Calls Try.prog 52 #[.pointer (some ⟨c, 0, none⟩), .int .i64 (-1), .int .i64 10] w fun e w' => ∃ x : Int, e = .returned (.int .i64 x) ∧ Cur B w' c a len cap ∧ Only c w w' := by
  have HC := hidIt hC
  clear hC
  go_enter Try.func52, Try.ntmps52
  go_wp2_with (fail)
  refine (l1Below_any B c a len cap _ _ (by decide) HC.out).mono ?_
  rintro e w1 ⟨x, x0, x1, rfl, hC1, hO1⟩
  have C1 := hidIt hC1
  have O1 := hidIt hO1
  clear hC1 hO1
  go_wp2_with (fail)
  go_ret
  exact ⟨_, rfl, C1.out, O1.out⟩
set_option maxHeartbeats 4000000 in
theorem from_5 (B c : Nat) (a : Option Addr) (len cap : Nat) (w : World) (hC : Cur B w c a len cap) :
    Calls Try.prog 52 #[.pointer (some ⟨c, 0, none⟩), .int .i64 (-1), .int .i64 5] w fun e w' => ∃ x : Int, e = .returned (.int .i64 x) ∧ Cur B w' c a len cap ∧ Only c w w' := by
  have HC := hidIt hC
  clear hC
  go_enter Try.func52, Try.ntmps52
  go_wp2_with (fail)
  refine (l1Below_any B c a len cap _ _ (by decide) HC.out).mono ?_
  rintro e w1 ⟨x, x0, x1, rfl, hC1, hO1⟩
  have C1 := hidIt hC1
  have O1 := hidIt hO1
  clear hC1 hO1
  go_wp2_with (fail)
  go_ret
  exact ⟨_, rfl, C1.out, O1.out⟩
theorem fresh_at {w : World} {k : Nat} (h : w.heap.size = k) (x : Rw) (T : TypeId) : ∀ j u, (rcells [x])[j]? = some u → (w.alloc (.cells (rc x) T)).cell? ((⟨k, 0, none⟩ : Addr).add j) = some u := by subst h; exact fresh w x T
/-- Where l12Draw stands. -/
structure Da (B : Nat) (w wx : World) (c : Nat) (ad : Option Addr) (len cap : Nat) (v : Value) (L : List Rw) : Prop where
  own : Own wx w.heap.size v L
  cur : Cur B wx c ad len cap
  only : Only c w wx
theorem Da.call {B c len cap : Nat} {w wx w' : World} {ad : Option Addr} {v : Value} {L : List Rw} (h : Da B w wx c ad len cap v L) (hC : Cur B w' c ad len cap) (k : Only c wx w') (hc : c < w.heap.size) : Da B w w' c ad len cap v L :=
  ⟨h.own.only k (.inl hc), hC, h.only.trans k⟩
theorem Da.low {B c len cap : Nat} {w wx w' : World} {ad : Option Addr} {v : Value} {L : List Rw} (h : Da B w wx c ad len cap v L) (k : Below wx.heap.size wx w') : Da B w w' c ad len cap v L :=
  ⟨h.own.kept k, h.cur.kept (k.mono (by have := h.cur.lt; omega)), h.only.trans (Only.of_below k)⟩
theorem Da.grown {B c len cap : Nat} {w wx w' : World} {ad : Option Addr} {v v' : Value} {L M : List Rw} (h : Da B w wx c ad len cap v L) (hc : c < w.heap.size) (o : Own w' w.heap.size v' M) (g : wx.grownBy w' v.ownBlock) : Da B w w' c ad len cap v' M := by
  have kk := grown_below h.own g (Nat.le_refl _) h.only.size
  exact ⟨o, h.cur.kept (kk.mono (by omega)), ⟨kk.os.trans h.only.os, kk.tape.trans h.only.tape, kk.output.trans h.only.output, Nat.le_trans h.only.size kk.size, fun i hi hne => (kk.block i hi).trans (h.only.block i hi hne)⟩⟩
/-- A store into one cell of number i. -/
theorem Da.set {B c len cap g m cp i j : Nat} {w wx : World} {ad : Option Addr} {L : List Rw} {v : Value} {y : Rw} (h : Da B w wx c ad len cap (.slice (some ⟨g, 0, none⟩) m cp) L) (hc : c < w.heap.size) (hi : i < L.length) (hj : j < 3) (hy : ∀ k, k < 3 → rcell y k = if k = j then v else rcell (rat L i) k) :
    Da B w (wx.setCell ⟨g, i * 3 + j, none⟩ v) c ad len cap (.slice (some ⟨g, 0, none⟩) m cp) (L.set i y) := by
  have hg : w.heap.size ≤ g := by obtain ⟨cur, q, _⟩ := own_row h.own; exact q
  have k : Only g wx (wx.setCell ⟨g, i * 3 + j, none⟩ v) := (Only.refl g wx).setCell _ v
  exact ⟨h.own.set hi hj hy, h.cur.kept (k.below (B := c + 1) (by omega) (by have := h.cur.lt; omega)), ⟨k.os.trans h.only.os, k.tape.trans h.only.tape, k.output.trans h.only.output, Nat.le_trans h.only.size k.size, fun q hq hne => (k.block q (Nat.lt_of_lt_of_le hq h.only.size) (by omega)).trans (h.only.block q hq hne)⟩⟩
set_option maxRecDepth 100000 in
set_option maxHeartbeats 4000000 in
theorem l12Draw_any (B c : Nat) (ad : Option Addr) (len cap : Nat) (w : World) (hC : Cur B w c ad len cap) :
    Calls Try.prog 34 #[.pointer (some ⟨c, 0, none⟩)] w fun e w' => ∃ v L, e = .returned v ∧ L.length ≤ 4 ∧ Own w' w.heap.size v L ∧ Cur B w' c ad len cap ∧ Only c w w' := by
  obtain ⟨i0, hi0, hz0, hz1, hz2⟩ := info_parts infoRw
  have hlt := hC.lt
  have HD0 : Hid (Da B w (w.alloc (.cells #[] 29)) c ad len cap (.slice (some ⟨w.heap.size, 0, none⟩) 0 0) []) := hidIt ⟨Own.new w, hC.kept ((Below.refl (c + 1) w).alloc (by omega) _), (Only.refl c w).alloc _⟩
  clear hC
  go_enter Try.func34, Try.ntmps34
  go_wp2_with (fail)
  go_loopw [3, 4] (fun s3 s4 wx => ∃ (i : Nat) (L : List Rw), s4 = .int .i64 i ∧ i ≤ 4 ∧ Hid (L.length ≤ i) ∧ Hid (Da B w wx c ad len cap s3 L) ∧ Hid (s3 ≠ .slice none 0 0)) (fun _ s4 _ => (4 - intOf s4).toNat)
  case atStart => exact ⟨0, [], rfl, by omega, hidIt (by simp), HD0, hidIt (by simp)⟩
  case round =>
    obtain ⟨i, L, rfl, hi, HL, HD, HNN⟩ := hrel
    clear HD0
    obtain ⟨g, cp, ez, hmc, hcm, hgb, hgl⟩ := HD.out.own.some_form HNN.out
    subst ez
    by_cases hin : i < 4
    · have hin' : (i : Int) < 4 := by omega
      have hi0' : (0 : Int) ≤ (i : Int) := by omega
      generalize hll : L.length = ll at *
      have HLL := hidIt hll
      clear hll
      go_wp2_with (fail)
      refine (l1Once_any B c ad len cap 2 _ (by decide) HD.out.cur).mono ?_
      rintro e W1 ⟨b1, rfl, hC1, hO1⟩
      replace HD := hidIt (HD.out.call hC1 hO1 hlt)
      clear hC1 hO1
      cases b1 with
      | false =>
        go_wp2_with (fail)
        exact ⟨⟨i + 1, L, by simp, by omega, hidIt (by have := HL.out; have := HLL.out; omega), HD, by first | exact HNN | exact hidIt (by simp)⟩, by simp [intOf]; omega⟩
      | true =>
        go_wp2_with (fail)
        refine (l1Below_any B c ad len cap 4 _ (by decide) HD.out.cur).mono ?_
        rintro e W2 ⟨t, t0, t1, rfl, hC1, hO1⟩
        replace HD := hidIt (HD.out.call hC1 hO1 hlt)
        clear hC1 hO1
        go_wp2_with (fail)
        refine (l1Below_any B c ad len cap 3 _ (by decide) HD.out.cur).mono ?_
        rintro e W3 ⟨s, s0, s1, rfl, hC1, hO1⟩
        replace HD := hidIt (HD.out.call hC1 hO1 hlt)
        clear hC1 hO1
        have HDa := hidIt (HD.out.low ((Below.refl W3.heap.size W3).alloc (Nat.le_refl _) (.cells #[.int .i64 (2 * (i : Int)), .int .i64 t, .int .i64 s] 29)))
        have HOw : Hid (World.ownsRow (W3.alloc (.cells #[.int .i64 (2 * (i : Int)), .int .i64 t, .int .i64 s] 29)) w.heap.size 29 3 (.slice (some ⟨g, 0, none⟩) ll cp) ll (rcells L)) := hidIt (by have := HDa.out.own; unfold Own at this; rw [HLL.out] at this; exact this)
        go_wp2_with (first | (at_builtin; refine wpList_append_own _ rfl _ _ 24 rfl w.heap.size 29 i0 (.agg #[.int .i64 0, .int .i64 0, .int .i64 0]) 3 24 Try.underlying24 hi0 hz0 hz1 hz2 rfl (by decide) _ _ _ rfl HOw.out ⟨W3.heap.size, 0, none⟩ 1 1 [.int .i64 (2 * (i : Int)), .int .i64 t, .int .i64 s] rfl rfl (fresh W3 (2 * (i : Int), t, s) 29) (rcells_one [(2 * (i : Int), t, s)]) ?ca1 ?ca2 ?ca3 ?_))
        case ca1 => unfold maxLen; have := HL.out; have := HLL.out; omega
        case ca2 => have := HL.out; have := HLL.out; omega
        case ca3 => exact HDa.out.only.size
        intro v' w9 hown hgrow hnil
        have HD9 := hidIt (HDa.out.grown hlt (M := L ++ [(2 * (i : Int), t, s)]) (Own.more (L := L) (M := [(2 * (i : Int), t, s)]) (by rw [HLL.out]; exact hown)) hgrow)
        have HN9 : Hid (v' ≠ .slice none 0 0) := hidIt (by first | exact hnil | exact fun e => by have := (hnil.1 e).2; omega)
        have HL9 : Hid ((L ++ [((2 * (i : Int), t, s) : Rw)]).length ≤ i + 1) := hidIt (by have := HL.out; have := HLL.out; simp; omega)
        clear hown hgrow hnil
        go_wp2_with (fail)
        exact ⟨⟨i + 1, _, by simp, by omega, HL9, HD9, HN9⟩, by simp [intOf]; omega⟩
    · have hin' : ¬ (i : Int) < 4 := by omega
      have HL4 : Hid (L.length ≤ 4) := hidIt (by have := HL.out; omega)
      clear HL HNN
      generalize hll : L.length = ll at *
      have HLL := hidIt hll
      clear hll
      have hl4 : ll ≤ 4 := HL4.out
      go_wp2_with (fail)
      refine (l1Once_any B c ad len cap 14 _ (by decide) HD.out.cur).mono ?_
      rintro e W1 ⟨b1, rfl, hC1, hO1⟩
      replace HD := hidIt (HD.out.call hC1 hO1 hlt)
      clear hC1 hO1
      cases b1 with
      | false =>
        go_wp2_with (fail)
        go_ret
        first | exact ⟨_, L, rfl, by rw [HLL.out]; exact hl4, HD.out.own, HD.out.cur, HD.out.only⟩ | exact ⟨_, rfl, L, by rw [HLL.out]; exact hl4, HD.out.own, HD.out.cur, HD.out.only⟩
      | true =>
        rcases Nat.eq_zero_or_pos ll with hz | hp
        · subst hz
          go_wp2_with (fail)
          go_ret
          first | exact ⟨_, L, rfl, by rw [HLL.out]; exact hl4, HD.out.own, HD.out.cur, HD.out.only⟩ | exact ⟨_, rfl, L, by rw [HLL.out]; exact hl4, HD.out.own, HD.out.cur, HD.out.only⟩
        · have hp' : (0 : Int) < (ll : Int) := by omega
          go_wp2_with (fail)
          refine (l1Below_any B c ad len cap (ll : Int) _ hp' HD.out.cur).mono ?_
          rintro e W2 ⟨x, x0, x1, rfl, hC1, hO1⟩
          replace HD := hidIt (HD.out.call hC1 hO1 hlt)
          clear hC1 hO1
          obtain ⟨n, rfl⟩ := Int.eq_ofNat_of_zero_le x0
          have hnL : n < L.length := by rw [HLL.out]; omega
          clear x0
          go_wp2_with (fail)
          refine (l1Below_any B c ad len cap 3 _ (by decide) HD.out.cur).mono ?_
          rintro e W3 ⟨y, y0, y1, rfl, hC1, hO1⟩
          replace HD := hidIt (HD.out.call hC1 hO1 hlt)
          clear hC1 hO1
          have hy : y = 0 ∨ y = 1 ∨ y = 2 := by omega
          clear y0 y1
          rcases hy with rfl | rfl | rfl
          · go_wp2_with (fail)
            refine (from_10 B c ad len cap _ HD.out.cur).mono ?_
            rintro e W4 ⟨z, rfl, hC1, hO1⟩
            replace HD := hidIt (HD.out.call hC1 hO1 hlt)
            clear hC1 hO1
            have q0 := HD.out.own.at hnL (j := 0) (by omega)
            have fz := HD.out.own.free (n * 3 + 0)
            have HDs := hidIt (HD.out.set (i := n) (j := 0) (v := .int .i64 z) (y := (z, (rat L n).2.1, (rat L n).2.2)) hlt hnL (by omega) (fun k hk => by
              match k, hk with
              | 0, _ => rfl
              | 1, _ => rfl
              | 2, _ => rfl))
            simp only [rcell, Nat.add_zero] at q0 fz HDs
            go_wp2_with (fail)
            go_ret
            first | exact ⟨_, L.set n (z, (rat L n).2.1, (rat L n).2.2), rfl, by rw [List.length_set, HLL.out]; exact hl4, HDs.out.own, HDs.out.cur, HDs.out.only⟩ | exact ⟨_, rfl, L.set n (z, (rat L n).2.1, (rat L n).2.2), by rw [List.length_set, HLL.out]; exact hl4, HDs.out.own, HDs.out.cur, HDs.out.only⟩
          · go_wp2_with (fail)
            have HDa := hidIt (HD.out.low ((Below.refl W3.heap.size W3).alloc (Nat.le_refl _) (.cells #[.int .i64 (-1), .int .i64 1000000, .int .i64 1000001] 2)))
            have LB := hidIt (Bo.Box.new W3 #[.int .i64 (-1), .int .i64 1000000, .int .i64 1000001] 2)
            have hcl : c < W3.heap.size := HD.out.cur.lt
            refine (l1Below_any B c ad len cap 3 _ (by decide) HDa.out.cur).mono ?_
            rintro e W4 ⟨u, u0, u1, rfl, hC1, hO1⟩
            replace HD := hidIt (HDa.out.call hC1 hO1 hlt)
            have LB4 : Hid (∀ i, W4.cell? ⟨W3.heap.size, i, none⟩ = (#[.int .i64 (-1), .int .i64 1000000, .int .i64 1000001] : Array Value)[i]?) := hidIt (fun i => by rw [hO1.cell (p := ⟨W3.heap.size, i, none⟩) LB.out.lt (by show W3.heap.size ≠ c; omega)]; exact LB.out.at' i)
            clear hC1 hO1 HDa LB
            obtain ⟨un, rfl⟩ := Int.eq_ofNat_of_zero_le u0
            have hu3 : (un : Int) < 3 := by omega
            obtain ⟨z, hz⟩ : ∃ z : Int, (#[.int .i64 (-1), .int .i64 1000000, .int .i64 1000001] : Array Value)[un]? = some (.int .i64 z) := by
              have hq : un = 0 ∨ un = 1 ∨ un = 2 := by omega
              rcases hq with rfl | rfl | rfl
              · exact ⟨-1, rfl⟩
              · exact ⟨1000000, rfl⟩
              · exact ⟨1000001, rfl⟩
            have ql := (LB4.out un).trans hz
            clear hz u0
            have q1 := HD.out.own.at hnL (j := 1) (by omega)
            have fz := HD.out.own.free (n * 3 + 1)
            have HDs := hidIt (HD.out.set (i := n) (j := 1) (v := .int .i64 z) (y := ((rat L n).1, z, (rat L n).2.2)) hlt hnL (by omega) (fun k hk => by
              match k, hk with
              | 0, _ => rfl
              | 1, _ => rfl
              | 2, _ => rfl))
            simp only [rcell] at q1 fz HDs
            go_wp2_with (fail)
            go_ret
            first | exact ⟨_, L.set n ((rat L n).1, z, (rat L n).2.2), rfl, by rw [List.length_set, HLL.out]; exact hl4, HDs.out.own, HDs.out.cur, HDs.out.only⟩ | exact ⟨_, rfl, L.set n ((rat L n).1, z, (rat L n).2.2), by rw [List.length_set, HLL.out]; exact hl4, HDs.out.own, HDs.out.cur, HDs.out.only⟩
          · go_wp2_with (fail)
            refine (from_5 B c ad len cap _ HD.out.cur).mono ?_
            rintro e W4 ⟨z, rfl, hC1, hO1⟩
            replace HD := hidIt (HD.out.call hC1 hO1 hlt)
            clear hC1 hO1
            have q2 := HD.out.own.at hnL (j := 2) (by omega)
            have fz := HD.out.own.free (n * 3 + 2)
            have HDs := hidIt (HD.out.set (i := n) (j := 2) (v := .int .i64 z) (y := ((rat L n).1, (rat L n).2.1, z)) hlt hnL (by omega) (fun k hk => by
              match k, hk with
              | 0, _ => rfl
              | 1, _ => rfl
              | 2, _ => rfl))
            simp only [rcell] at q2 fz HDs
            go_wp2_with (fail)
            go_ret
            first | exact ⟨_, L.set n ((rat L n).1, (rat L n).2.1, z), rfl, by rw [List.length_set, HLL.out]; exact hl4, HDs.out.own, HDs.out.cur, HDs.out.only⟩ | exact ⟨_, rfl, L.set n ((rat L n).1, (rat L n).2.1, z), by rw [List.length_set, HLL.out]; exact hl4, HDs.out.own, HDs.out.cur, HDs.out.only⟩
end Go.Proofs.Ytlcbapijpdlolaa.Mm
