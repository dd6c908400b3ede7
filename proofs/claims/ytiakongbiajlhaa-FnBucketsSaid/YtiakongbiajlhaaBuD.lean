/-
  What l15DrawList and DrawDrawn answer, whatever the bytes. (Written by wip/mkBuD.py.)
-/
import Derived.Test.YtiakongbiajlhaaBuS
import Derived.Test.YtiakongbiajlhaaDraw
import Derived.Test.YtiakongbiajlhaaRegI
import Derived.Laws.AppendOwn
namespace Go.Proofs.Ytiakongbiajlhaa.Bu
open Go.ChangeShapes Go.WideShapes Go.ChangeAt Go.RowKit
open Dr
open Go.Proofs.Ytiakongbiajlhaa.Rg (upd waits wp_region_inv op_at)
set_option linter.unusedVariables false
theorem box_oth {w w' : World} {b d : Nat} {c : Array Value} (h : Bo.Box w b c) (k : Only d w w') (e : b ≠ d) : Bo.Box w' b c :=
  ⟨Nat.lt_of_lt_of_le h.lt k.size, fun i => by rw [World.cell?_of_block (w := w) (k.block b h.lt e)]; exact h.at' i, fun i => by rw [World.frozen?_of_block (w := w) (k.block b h.lt e)]; exact h.fr i⟩
theorem four_int {i : Nat} (h : i < 4) {a b c d : Int} : ∃ x : Int, (#[.int .i64 a, .int .i64 b, .int .i64 c, .int .i64 d] : Array Value)[i]? = some (.int .i64 x) := by
  match i, h with
  | 0, _ => exact ⟨_, rfl⟩
  | 1, _ => exact ⟨_, rfl⟩
  | 2, _ => exact ⟨_, rfl⟩
  | 3, _ => exact ⟨_, rfl⟩
/-- Where a drawing stands: the row is owned, the cursor stands, nothing else that was has turned. -/
structure Db (B : Nat) (w wx : World) (c : Nat) (ad : Option Addr) (len cap : Nat) (v : Value) (L : List Rw) : Prop where
  own : Own wx w.heap.size v L
  cur : Cur B wx c ad len cap
  only : Only c w wx
theorem Db.call {B c len cap : Nat} {w wx w' : World} {ad : Option Addr} {v : Value} {L : List Rw} (h : Db B w wx c ad len cap v L) (hC : Cur B w' c ad len cap) (k : Only c wx w') (hc : c < w.heap.size) : Db B w w' c ad len cap v L :=
  ⟨h.own.only k (.inl hc), hC, h.only.trans k⟩
theorem Db.low {B c len cap : Nat} {w wx w' : World} {ad : Option Addr} {v : Value} {L : List Rw} (h : Db B w wx c ad len cap v L) (k : Below wx.heap.size wx w') : Db B w w' c ad len cap v L :=
  ⟨h.own.kept k, h.cur.kept (k.mono (by have := h.cur.lt; omega)), h.only.trans (Only.of_below k)⟩
theorem Db.grown {B c len cap : Nat} {w wx w' : World} {ad : Option Addr} {v v' : Value} {L M : List Rw} (h : Db B w wx c ad len cap v L) (hc : c < w.heap.size) (o : Own w' w.heap.size v' M) (g : wx.grownBy w' v.ownBlock) : Db B w w' c ad len cap v' M := by
  have kk := grown_below h.own g (Nat.le_refl _) h.only.size
  exact ⟨o, h.cur.kept (kk.mono (by omega)), ⟨kk.os.trans h.only.os, kk.tape.trans h.only.tape, kk.output.trans h.only.output, Nat.le_trans h.only.size kk.size, fun i hi hne => (kk.block i hi).trans (h.only.block i hi hne)⟩⟩
set_option maxRecDepth 100000 in
set_option maxHeartbeats 2000000 in
theorem l1From_any (B c : Nat) (a : Option Addr) (len cap : Nat) (w : World) (hC : Cur B w c a len cap) :
    Calls Try.prog 37 #[.pointer (some ⟨c, 0, none⟩), .int .i64 (-1), .int .i64 9] w fun e w' => ∃ x : Int, -1 ≤ x ∧ x ≤ 9 ∧ e = .returned (.int .i64 x) ∧ Cur B w' c a len cap ∧ Only c w w' := by
  have HC := hidIt hC
  clear hC
  go_enter Try.func37, Try.ntmps37
  go_wp2_with (fail)
  refine (l1Below_any B c a len cap 11 _ (by decide) HC.out).mono ?_
  rintro e w2 ⟨x, x0, x1, rfl, hC2, hO2⟩
  have C2 := hidIt hC2
  have O2 := hidIt hO2
  clear hC2 hO2
  go_wp2_with (fail)
  go_ret
  exact ⟨-1 + x, by omega, by omega, rfl, C2.out, O2.out⟩
set_option maxRecDepth 100000 in
set_option maxHeartbeats 8000000 in
theorem l15DrawList_any (B c : Nat) (ad : Option Addr) (len cap : Nat) (w : World) (hC : Cur B w c ad len cap) :
    Calls Try.prog 23 #[.pointer (some ⟨c, 0, none⟩)] w fun e w' => ∃ v L, e = .returned v ∧ L.length ≤ 30 ∧ Own w' w.heap.size v L ∧ Cur B w' c ad len cap ∧ Only c w w' := by
  obtain ⟨i0, hi0, hz0, hz1, hz2⟩ := info_parts infoRw
  have hlt := hC.lt
  have HD0 : Hid (Db B w (w.alloc (.cells #[] 46)) c ad len cap (.slice (some ⟨w.heap.size, 0, none⟩) 0 0) []) := hidIt ⟨Own.new w, hC.kept ((Below.refl (c + 1) w).alloc (by omega) _), (Only.refl c w).alloc _⟩
  clear hC
  go_enter Try.func23, Try.ntmps23
  go_wp2_with (fail)
  go_loopw [3, 4] (fun s3 s4 wx => ∃ (i : Nat) (L : List Rw), s4 = .int .i64 i ∧ i ≤ 4 ∧ Hid (L.length ≤ i) ∧ Hid (Db B w wx c ad len cap s3 L)) (fun _ s4 _ => (4 - intOf s4).toNat)
  case atStart => exact ⟨0, [], rfl, by omega, hidIt (by simp), HD0⟩
  case round =>
    obtain ⟨i, L, rfl, hi, HL, HD⟩ := hrel
    clear HD0
    obtain ⟨ao, co, ev, ho1, ho2, _⟩ := HD.out.own.form
    subst ev
    by_cases hin : i < 4
    · have hin' : (i : Int) < 4 := by omega
      go_wp2_with (fail)
      refine (l1Once_any B c ad len cap 2 _ (by decide) HD.out.cur).mono ?_
      rintro e W1 ⟨b1, rfl, hC1, hO1⟩
      replace HD := hidIt (HD.out.call hC1 hO1 hlt)
      clear hC1 hO1
      cases b1 with
      | false =>
        go_wp2_with (fail)
        exact ⟨⟨i + 1, L, by simp, by omega, hidIt (by have := HL.out; omega), HD⟩, by simp [intOf]; omega⟩
      | true =>
        go_wp2_with (fail)
        refine (l1Below_any B c ad len cap 6 _ (by decide) HD.out.cur).mono ?_
        rintro e W2 ⟨x, x0, x1, rfl, hC1, hO1⟩
        replace HD := hidIt (HD.out.call hC1 hO1 hlt)
        clear hC1 hO1 x0 x1
        go_wp2_with (fail)
        refine (l1Below_any B c ad len cap 20 _ (by decide) HD.out.cur).mono ?_
        rintro e W3 ⟨y, y0, y1, rfl, hC1, hO1⟩
        replace HD := hidIt (HD.out.call hC1 hO1 hlt)
        clear hC1 hO1 y0 y1
        have HDa := hidIt (HD.out.low ((Below.refl W3.heap.size W3).alloc (Nat.le_refl _) (.cells #[.int .i64 (i : Int), .int .i64 x, .int .i64 y] 46)))
        have HOw : Hid (World.ownsRow (W3.alloc (.cells #[.int .i64 (i : Int), .int .i64 x, .int .i64 y] 46)) w.heap.size 46 3 (.slice ao L.length co) L.length (rcells L)) := hidIt HDa.out.own
        have HFr := hidIt (fresh W3 ((i : Int), x, y) 46)
        go_wp2_with (first | (at_builtin; refine wpList_append_own _ rfl _ _ 24 rfl w.heap.size 46 i0 (.agg #[.int .i64 0, .int .i64 0, .int .i64 0]) 3 24 Try.underlying24 hi0 hz0 hz1 hz2 rfl (by decide) _ _ _ rfl HOw.out ⟨W3.heap.size, 0, none⟩ 1 1 [.int .i64 (i : Int), .int .i64 x, .int .i64 y] rfl rfl HFr.out (rcells_one [((i : Int), x, y)]) ?ca1 ?ca2 ?ca3 ?_) | fail)
        case ca1 => unfold maxLen; have := HL.out; omega
        case ca2 => have := HL.out; omega
        case ca3 => have := HDa.out.only.size; simpa using this
        intro v' w9 hown hgrow hnil
        have HD9 := hidIt (HDa.out.grown hlt (M := L ++ [((i : Int), x, y)]) (Own.more (L := L) (M := [((i : Int), x, y)]) hown) hgrow)
        clear hown hgrow hnil
        go_wp2_with (fail)
        exact ⟨⟨i + 1, _, by simp, by omega, hidIt (by have := HL.out; simp; omega), HD9⟩, by simp [intOf]; omega⟩
    · have hin' : ¬ (i : Int) < 4 := by omega
      have HL4 : Hid (L.length ≤ 4) := hidIt (by have := HL.out; omega)
      clear HL
      go_wp2_with (fail)
      refine (l1Once_any B c ad len cap 14 _ (by decide) HD.out.cur).mono ?_
      rintro e W1 ⟨b1, rfl, hC1, hO1⟩
      replace HD := hidIt (HD.out.call hC1 hO1 hlt)
      clear hC1 hO1
      cases b1 with
      | false =>
        go_wp2_with (fail)
        go_ret
        first | exact ⟨_, L, rfl, by have := HL4.out; omega, HD.out.own, HD.out.cur, HD.out.only⟩ | exact ⟨_, rfl, L, by have := HL4.out; omega, HD.out.own, HD.out.cur, HD.out.only⟩
      | true =>
        go_wp2_with (fail)
        refine (l1Below_any B c ad len cap 3 _ (by decide) HD.out.cur).mono ?_
        rintro e W2 ⟨t, t0, t1, rfl, hC1, hO1⟩
        replace HD := hidIt (HD.out.call hC1 hO1 hlt)
        clear hC1 hO1
        have ht : t = 0 ∨ t = 1 ∨ t = 2 := by omega
        clear t0 t1
        rcases ht with rfl | rfl | rfl
        · have HDl := hidIt (HD.out.low ((Below.refl W2.heap.size W2).alloc (Nat.le_refl _) (.cells #[.int .i64 (-1), .int .i64 99, .int .i64 100] 2)))
          have LB := hidIt (Bo.Box.new W2 #[.int .i64 (-1), .int .i64 99, .int .i64 100] 2)
          have hcl : c < W2.heap.size := HD.out.cur.lt
          go_wp2_with (fail)
          refine (l1Below_any B c ad len cap 3 _ (by decide) HDl.out.cur).mono ?_
          rintro e W3 ⟨z, z0, z1, rfl, hC1, hO1⟩
          have LB3 := hidIt (box_oth LB.out hO1 (by omega))
          replace HD := hidIt (HDl.out.call hC1 hO1 hlt)
          clear hC1 hO1 HDl LB
          obtain ⟨n, rfl⟩ := Int.eq_ofNat_of_zero_le z0
          have hn3 : (n : Int) < 3 := by omega
          obtain ⟨x, hx⟩ : ∃ x : Int, (#[.int .i64 (-1), .int .i64 99, .int .i64 100] : Array Value)[n]? = some (.int .i64 x) := by
            have hz : n = 0 ∨ n = 1 ∨ n = 2 := by omega
            rcases hz with rfl | rfl | rfl
            · exact ⟨-1, rfl⟩
            · exact ⟨99, rfl⟩
            · exact ⟨100, rfl⟩
          have ql := LB3.out.c n hx
          clear hx z0 z1
          have HDa := hidIt (HD.out.low ((Below.refl W3.heap.size W3).alloc (Nat.le_refl _) (.cells #[.int .i64 x, .int .i64 0, .int .i64 0] 46)))
          have HOw : Hid (World.ownsRow (W3.alloc (.cells #[.int .i64 x, .int .i64 0, .int .i64 0] 46)) w.heap.size 46 3 (.slice ao L.length co) L.length (rcells L)) := hidIt HDa.out.own
          have HFr := hidIt (fresh W3 (x, 0, 0) 46)
          go_wp2_with (first | (at_builtin; refine wpList_append_own _ rfl _ _ 24 rfl w.heap.size 46 i0 (.agg #[.int .i64 0, .int .i64 0, .int .i64 0]) 3 24 Try.underlying24 hi0 hz0 hz1 hz2 rfl (by decide) _ _ _ rfl HOw.out ⟨W3.heap.size, 0, none⟩ 1 1 [.int .i64 x, .int .i64 0, .int .i64 0] rfl rfl HFr.out (rcells_one [(x, 0, 0)]) ?ca1 ?ca2 ?ca3 ?_) | fail)
          case ca1 => unfold maxLen; have := HL4.out; omega
          case ca2 => have := HL4.out; omega
          case ca3 => have := HDa.out.only.size; simpa using this
          intro v' w9 hown hgrow hnil
          have HD9 := hidIt (HDa.out.grown hlt (M := L ++ [(x, 0, 0)]) (Own.more (L := L) (M := [(x, 0, 0)]) hown) hgrow)
          clear hown hgrow hnil
          go_wp2_with (fail)
          go_ret
          first | exact ⟨_, _, rfl, by have := HL4.out; simp; omega, HD9.out.own, HD9.out.cur, HD9.out.only⟩ | exact ⟨_, rfl, _, by have := HL4.out; simp; omega, HD9.out.own, HD9.out.cur, HD9.out.only⟩
        · go_wp2_with (fail)
          refine (l1From_any B c ad len cap _ HD.out.cur).mono ?_
          rintro e W3 ⟨x, x0, x1, rfl, hC1, hO1⟩
          replace HD := hidIt (HD.out.call hC1 hO1 hlt)
          clear hC1 hO1 x0 x1
          have HDa := hidIt (HD.out.low ((Below.refl W3.heap.size W3).alloc (Nat.le_refl _) (.cells #[.int .i64 50, .int .i64 x, .int .i64 0] 46)))
          have HOw : Hid (World.ownsRow (W3.alloc (.cells #[.int .i64 50, .int .i64 x, .int .i64 0] 46)) w.heap.size 46 3 (.slice ao L.length co) L.length (rcells L)) := hidIt HDa.out.own
          have HFr := hidIt (fresh W3 (50, x, 0) 46)
          go_wp2_with (first | (at_builtin; refine wpList_append_own _ rfl _ _ 24 rfl w.heap.size 46 i0 (.agg #[.int .i64 0, .int .i64 0, .int .i64 0]) 3 24 Try.underlying24 hi0 hz0 hz1 hz2 rfl (by decide) _ _ _ rfl HOw.out ⟨W3.heap.size, 0, none⟩ 1 1 [.int .i64 50, .int .i64 x, .int .i64 0] rfl rfl HFr.out (rcells_one [(50, x, 0)]) ?ca1 ?ca2 ?ca3 ?_) | fail)
          case ca1 => unfold maxLen; have := HL4.out; omega
          case ca2 => have := HL4.out; omega
          case ca3 => have := HDa.out.only.size; simpa using this
          intro v' w9 hown hgrow hnil
          have HD9 := hidIt (HDa.out.grown hlt (M := L ++ [(50, x, 0)]) (Own.more (L := L) (M := [(50, x, 0)]) hown) hgrow)
          clear hown hgrow hnil
          go_wp2_with (fail)
          go_ret
          first | exact ⟨_, _, rfl, by have := HL4.out; simp; omega, HD9.out.own, HD9.out.cur, HD9.out.only⟩ | exact ⟨_, rfl, _, by have := HL4.out; simp; omega, HD9.out.own, HD9.out.cur, HD9.out.only⟩
        · go_wp2_with (fail)
          go_loopw [3, 5] (fun s3 s5 wx => ∃ (j : Nat) (M : List Rw), s5 = .int .i64 (20 + (j : Int)) ∧ j ≤ 20 ∧ Hid (M.length ≤ 4 + j) ∧ Hid (Db B w wx c ad len cap s3 M)) (fun _ s5 _ => (40 - intOf s5).toNat)
          case atStart => exact ⟨0, L, rfl, by omega, hidIt (by have := HL4.out; omega), HD⟩
          case round =>
            clear HD
            obtain ⟨j, M, rfl, hj, HLM, HD⟩ := hrel
            clear ho1 ho2
            obtain ⟨ao, co, ev, hm1, hm2, _⟩ := HD.out.own.form
            subst ev
            by_cases hjn : j < 20
            · have hjn' : (20 : Int) + (j : Int) < 40 := by omega
              have HDa := hidIt (HD.out.low ((Below.refl wr.heap.size wr).alloc (Nat.le_refl _) (.cells #[.int .i64 (20 + (j : Int)), .int .i64 0, .int .i64 0] 46)))
              have HOw : Hid (World.ownsRow (wr.alloc (.cells #[.int .i64 (20 + (j : Int)), .int .i64 0, .int .i64 0] 46)) w.heap.size 46 3 (.slice ao M.length co) M.length (rcells M)) := hidIt HDa.out.own
              have HFr := hidIt (fresh wr ((20 + (j : Int)), 0, 0) 46)
              go_wp2_with (first | (at_builtin; refine wpList_append_own _ rfl _ _ 24 rfl w.heap.size 46 i0 (.agg #[.int .i64 0, .int .i64 0, .int .i64 0]) 3 24 Try.underlying24 hi0 hz0 hz1 hz2 rfl (by decide) _ _ _ rfl HOw.out ⟨wr.heap.size, 0, none⟩ 1 1 [.int .i64 (20 + (j : Int)), .int .i64 0, .int .i64 0] rfl rfl HFr.out (rcells_one [((20 + (j : Int)), 0, 0)]) ?ca1 ?ca2 ?ca3 ?_) | fail)
              case ca1 => unfold maxLen; have := HLM.out; omega
              case ca2 => have := HLM.out; omega
              case ca3 => have := HDa.out.only.size; simpa using this
              intro v' w9 hown hgrow hnil
              have HD9 := hidIt (HDa.out.grown hlt (M := M ++ [((20 + (j : Int)), 0, 0)]) (Own.more (L := M) (M := [((20 + (j : Int)), 0, 0)]) hown) hgrow)
              clear hown hgrow hnil
              go_wp2_with (fail)
              exact ⟨⟨j + 1, _, by simp; omega, by omega, hidIt (by have := HLM.out; simp; omega), HD9⟩, by simp [intOf]; omega⟩
            · have hjn' : ¬ (20 : Int) + (j : Int) < 40 := by omega
              go_wp2_with (fail)
              go_ret
              first | exact ⟨_, M, rfl, by have := HLM.out; omega, HD.out.own, HD.out.cur, HD.out.only⟩ | exact ⟨_, rfl, M, by have := HLM.out; omega, HD.out.own, HD.out.cur, HD.out.only⟩
/-- What holds while the region of two literals goes on, whatever has come up. -/
structure RD (B c len cap : Nat) (ad : Option Addr) (w : World) (v0 : Value) (L0 : List Rw) (s0 : Int) (L : Nat → Bool) (u2 u3 u4 u16 u17 u18 u19 u20 u21 u22 u23 u24 u25 u26 u27 : Value) (W : World) : Prop where
  d : Db B w W c ad len cap v0 L0
  k0 : L 0 = true → u16 = v0
  k1 : L 1 = true → u17 = .int .i64 s0
  k2 : L 2 = true → L 6 = false → ∃ bl : Nat, u18 = .slice (some ⟨bl, 0, none⟩) 4 4 ∧ Bo.Box W bl #[.int .i64 (-1), .int .i64 99, .int .i64 100, .int .i64 s0] ∧ c < bl
  k3 : L 3 = true → u19 = .pointer (some ⟨c, 0, none⟩)
  k4 : L 4 = true → ∃ n : Nat, n < 4 ∧ u20 = .int .i64 n
  k5 : L 5 = true → L 6 = false → ∃ bl n : Nat, n < 4 ∧ u21 = .pointer (some ⟨bl, n, none⟩) ∧ Bo.Box W bl #[.int .i64 (-1), .int .i64 99, .int .i64 100, .int .i64 s0] ∧ c < bl
  k6 : L 6 = true → ∃ x : Int, u22 = .int .i64 x
  k7 : L 7 = true → L 11 = false → ∃ bl : Nat, u23 = .slice (some ⟨bl, 0, none⟩) 4 4 ∧ Bo.Box W bl #[.int .i64 (-1), .int .i64 0, .int .i64 1000000, .int .i64 1000001] ∧ c < bl
  k8 : L 8 = true → u24 = .pointer (some ⟨c, 0, none⟩)
  k9 : L 9 = true → ∃ n : Nat, n < 4 ∧ u25 = .int .i64 n
  k10 : L 10 = true → L 11 = false → ∃ bl n : Nat, n < 4 ∧ u26 = .pointer (some ⟨bl, n, none⟩) ∧ Bo.Box W bl #[.int .i64 (-1), .int .i64 0, .int .i64 1000000, .int .i64 1000001] ∧ c < bl
  k11 : L 11 = true → ∃ x : Int, u27 = .int .i64 x
  k12 : L 12 = true → u2 = v0
  k13 : L 13 = true → ∃ x : Int, u3 = .int .i64 x
  k14 : L 14 = true → ∃ x : Int, u4 = .int .i64 x
  p6 : L 6 = true → L 5 = true
  p11 : L 11 = true → L 10 = true
theorem RD.alloc {B c len cap : Nat} {ad : Option Addr} {w : World} {v0 : Value} {L0 : List Rw} {s0 : Int} {L : Nat → Bool} {u2 u3 u4 u16 u17 u18 u19 u20 u21 u22 u23 u24 u25 u26 u27 : Value} {W : World} (h : RD B c len cap ad w v0 L0 s0 L u2 u3 u4 u16 u17 u18 u19 u20 u21 u22 u23 u24 u25 u26 u27 W) (ob : Obj) : RD B c len cap ad w v0 L0 s0 L u2 u3 u4 u16 u17 u18 u19 u20 u21 u22 u23 u24 u25 u26 u27 (W.alloc ob) :=
  ⟨(h.d.low ((Below.refl W.heap.size W).alloc (Nat.le_refl _) ob)), h.k0, h.k1, (fun q r => by obtain ⟨bl, e, x, y⟩ := h.k2 q r; exact ⟨bl, e, x.alloc ob, y⟩), h.k3, h.k4, (fun q r => by obtain ⟨bl, n, hn, e, x, y⟩ := h.k5 q r; exact ⟨bl, n, hn, e, x.alloc ob, y⟩), h.k6, (fun q r => by obtain ⟨bl, e, x, y⟩ := h.k7 q r; exact ⟨bl, e, x.alloc ob, y⟩), h.k8, h.k9, (fun q r => by obtain ⟨bl, n, hn, e, x, y⟩ := h.k10 q r; exact ⟨bl, n, hn, e, x.alloc ob, y⟩), h.k11, h.k12, h.k13, h.k14, h.p6, h.p11⟩
theorem RD.call {B c len cap : Nat} {ad : Option Addr} {w : World} {v0 : Value} {L0 : List Rw} {s0 : Int} {L : Nat → Bool} {u2 u3 u4 u16 u17 u18 u19 u20 u21 u22 u23 u24 u25 u26 u27 : Value} {W W' : World} (h : RD B c len cap ad w v0 L0 s0 L u2 u3 u4 u16 u17 u18 u19 u20 u21 u22 u23 u24 u25 u26 u27 W) (hC : Cur B W' c ad len cap) (k : Only c W W') (hc : c < w.heap.size) : RD B c len cap ad w v0 L0 s0 L u2 u3 u4 u16 u17 u18 u19 u20 u21 u22 u23 u24 u25 u26 u27 W' :=
  ⟨(h.d.call hC k hc), h.k0, h.k1, (fun q r => by obtain ⟨bl, e, x, y⟩ := h.k2 q r; exact ⟨bl, e, box_oth x k (by omega), y⟩), h.k3, h.k4, (fun q r => by obtain ⟨bl, n, hn, e, x, y⟩ := h.k5 q r; exact ⟨bl, n, hn, e, box_oth x k (by omega), y⟩), h.k6, (fun q r => by obtain ⟨bl, e, x, y⟩ := h.k7 q r; exact ⟨bl, e, box_oth x k (by omega), y⟩), h.k8, h.k9, (fun q r => by obtain ⟨bl, n, hn, e, x, y⟩ := h.k10 q r; exact ⟨bl, n, hn, e, box_oth x k (by omega), y⟩), h.k11, h.k12, h.k13, h.k14, h.p6, h.p11⟩
theorem RD.s0 {B c len cap : Nat} {ad : Option Addr} {w : World} {v0 : Value} {L0 : List Rw} {s0 : Int} {L : Nat → Bool} {u2 u3 u4 u16 u17 u18 u19 u20 u21 u22 u23 u24 u25 u26 u27 : Value} {v : Value} {W : World} (h : RD B c len cap ad w v0 L0 s0 L u2 u3 u4 u16 u17 u18 u19 u20 u21 u22 u23 u24 u25 u26 u27 W) (hv : v = v0) : RD B c len cap ad w v0 L0 s0 (upd L 0) u2 u3 u4 v u17 u18 u19 u20 u21 u22 u23 u24 u25 u26 u27 W :=
  ⟨h.d, (fun _ => hv), h.k1, h.k2, h.k3, h.k4, h.k5, h.k6, h.k7, h.k8, h.k9, h.k10, h.k11, h.k12, h.k13, h.k14, h.p6, h.p11⟩
theorem RD.s1 {B c len cap : Nat} {ad : Option Addr} {w : World} {v0 : Value} {L0 : List Rw} {s0 : Int} {L : Nat → Bool} {u2 u3 u4 u16 u17 u18 u19 u20 u21 u22 u23 u24 u25 u26 u27 : Value} {v : Value} {W : World} (h : RD B c len cap ad w v0 L0 s0 L u2 u3 u4 u16 u17 u18 u19 u20 u21 u22 u23 u24 u25 u26 u27 W) (hv : v = .int .i64 s0) : RD B c len cap ad w v0 L0 s0 (upd L 1) u2 u3 u4 u16 v u18 u19 u20 u21 u22 u23 u24 u25 u26 u27 W :=
  ⟨h.d, h.k0, (fun _ => hv), h.k2, h.k3, h.k4, h.k5, h.k6, h.k7, h.k8, h.k9, h.k10, h.k11, h.k12, h.k13, h.k14, h.p6, h.p11⟩
theorem RD.s2 {B c len cap : Nat} {ad : Option Addr} {w : World} {v0 : Value} {L0 : List Rw} {s0 : Int} {L : Nat → Bool} {u2 u3 u4 u16 u17 u18 u19 u20 u21 u22 u23 u24 u25 u26 u27 : Value} {v : Value} {W : World} (h : RD B c len cap ad w v0 L0 s0 L u2 u3 u4 u16 u17 u18 u19 u20 u21 u22 u23 u24 u25 u26 u27 W) (hv : L 6 = false → ∃ bl : Nat, v = .slice (some ⟨bl, 0, none⟩) 4 4 ∧ Bo.Box W bl #[.int .i64 (-1), .int .i64 99, .int .i64 100, .int .i64 s0] ∧ c < bl) : RD B c len cap ad w v0 L0 s0 (upd L 2) u2 u3 u4 u16 u17 v u19 u20 u21 u22 u23 u24 u25 u26 u27 W :=
  ⟨h.d, h.k0, h.k1, (fun _ => hv), h.k3, h.k4, h.k5, h.k6, h.k7, h.k8, h.k9, h.k10, h.k11, h.k12, h.k13, h.k14, h.p6, h.p11⟩
theorem RD.s3 {B c len cap : Nat} {ad : Option Addr} {w : World} {v0 : Value} {L0 : List Rw} {s0 : Int} {L : Nat → Bool} {u2 u3 u4 u16 u17 u18 u19 u20 u21 u22 u23 u24 u25 u26 u27 : Value} {v : Value} {W : World} (h : RD B c len cap ad w v0 L0 s0 L u2 u3 u4 u16 u17 u18 u19 u20 u21 u22 u23 u24 u25 u26 u27 W) (hv : v = .pointer (some ⟨c, 0, none⟩)) : RD B c len cap ad w v0 L0 s0 (upd L 3) u2 u3 u4 u16 u17 u18 v u20 u21 u22 u23 u24 u25 u26 u27 W :=
  ⟨h.d, h.k0, h.k1, h.k2, (fun _ => hv), h.k4, h.k5, h.k6, h.k7, h.k8, h.k9, h.k10, h.k11, h.k12, h.k13, h.k14, h.p6, h.p11⟩
theorem RD.s4 {B c len cap : Nat} {ad : Option Addr} {w : World} {v0 : Value} {L0 : List Rw} {s0 : Int} {L : Nat → Bool} {u2 u3 u4 u16 u17 u18 u19 u20 u21 u22 u23 u24 u25 u26 u27 : Value} {v : Value} {W : World} (h : RD B c len cap ad w v0 L0 s0 L u2 u3 u4 u16 u17 u18 u19 u20 u21 u22 u23 u24 u25 u26 u27 W) (hv : ∃ n : Nat, n < 4 ∧ v = .int .i64 n) : RD B c len cap ad w v0 L0 s0 (upd L 4) u2 u3 u4 u16 u17 u18 u19 v u21 u22 u23 u24 u25 u26 u27 W :=
  ⟨h.d, h.k0, h.k1, h.k2, h.k3, (fun _ => hv), h.k5, h.k6, h.k7, h.k8, h.k9, h.k10, h.k11, h.k12, h.k13, h.k14, h.p6, h.p11⟩
theorem RD.s5 {B c len cap : Nat} {ad : Option Addr} {w : World} {v0 : Value} {L0 : List Rw} {s0 : Int} {L : Nat → Bool} {u2 u3 u4 u16 u17 u18 u19 u20 u21 u22 u23 u24 u25 u26 u27 : Value} {v : Value} {W : World} (h : RD B c len cap ad w v0 L0 s0 L u2 u3 u4 u16 u17 u18 u19 u20 u21 u22 u23 u24 u25 u26 u27 W) (hv : L 6 = false → ∃ bl n : Nat, n < 4 ∧ v = .pointer (some ⟨bl, n, none⟩) ∧ Bo.Box W bl #[.int .i64 (-1), .int .i64 99, .int .i64 100, .int .i64 s0] ∧ c < bl) : RD B c len cap ad w v0 L0 s0 (upd L 5) u2 u3 u4 u16 u17 u18 u19 u20 v u22 u23 u24 u25 u26 u27 W :=
  ⟨h.d, h.k0, h.k1, h.k2, h.k3, h.k4, (fun _ => hv), h.k6, h.k7, h.k8, h.k9, h.k10, h.k11, h.k12, h.k13, h.k14, (fun _ => rfl), h.p11⟩
theorem RD.s6 {B c len cap : Nat} {ad : Option Addr} {w : World} {v0 : Value} {L0 : List Rw} {s0 : Int} {L : Nat → Bool} {u2 u3 u4 u16 u17 u18 u19 u20 u21 u22 u23 u24 u25 u26 u27 : Value} {v : Value} {W : World} (h : RD B c len cap ad w v0 L0 s0 L u2 u3 u4 u16 u17 u18 u19 u20 u21 u22 u23 u24 u25 u26 u27 W) (hp : L 5 = true) (hv : ∃ x : Int, v = .int .i64 x) : RD B c len cap ad w v0 L0 s0 (upd L 6) u2 u3 u4 u16 u17 u18 u19 u20 u21 v u23 u24 u25 u26 u27 W :=
  ⟨h.d, h.k0, h.k1, (fun _ q => by cases q), h.k3, h.k4, (fun _ q => by cases q), (fun _ => hv), h.k7, h.k8, h.k9, h.k10, h.k11, h.k12, h.k13, h.k14, (fun _ => hp), h.p11⟩
theorem RD.s7 {B c len cap : Nat} {ad : Option Addr} {w : World} {v0 : Value} {L0 : List Rw} {s0 : Int} {L : Nat → Bool} {u2 u3 u4 u16 u17 u18 u19 u20 u21 u22 u23 u24 u25 u26 u27 : Value} {v : Value} {W : World} (h : RD B c len cap ad w v0 L0 s0 L u2 u3 u4 u16 u17 u18 u19 u20 u21 u22 u23 u24 u25 u26 u27 W) (hv : L 11 = false → ∃ bl : Nat, v = .slice (some ⟨bl, 0, none⟩) 4 4 ∧ Bo.Box W bl #[.int .i64 (-1), .int .i64 0, .int .i64 1000000, .int .i64 1000001] ∧ c < bl) : RD B c len cap ad w v0 L0 s0 (upd L 7) u2 u3 u4 u16 u17 u18 u19 u20 u21 u22 v u24 u25 u26 u27 W :=
  ⟨h.d, h.k0, h.k1, h.k2, h.k3, h.k4, h.k5, h.k6, (fun _ => hv), h.k8, h.k9, h.k10, h.k11, h.k12, h.k13, h.k14, h.p6, h.p11⟩
theorem RD.s8 {B c len cap : Nat} {ad : Option Addr} {w : World} {v0 : Value} {L0 : List Rw} {s0 : Int} {L : Nat → Bool} {u2 u3 u4 u16 u17 u18 u19 u20 u21 u22 u23 u24 u25 u26 u27 : Value} {v : Value} {W : World} (h : RD B c len cap ad w v0 L0 s0 L u2 u3 u4 u16 u17 u18 u19 u20 u21 u22 u23 u24 u25 u26 u27 W) (hv : v = .pointer (some ⟨c, 0, none⟩)) : RD B c len cap ad w v0 L0 s0 (upd L 8) u2 u3 u4 u16 u17 u18 u19 u20 u21 u22 u23 v u25 u26 u27 W :=
  ⟨h.d, h.k0, h.k1, h.k2, h.k3, h.k4, h.k5, h.k6, h.k7, (fun _ => hv), h.k9, h.k10, h.k11, h.k12, h.k13, h.k14, h.p6, h.p11⟩
theorem RD.s9 {B c len cap : Nat} {ad : Option Addr} {w : World} {v0 : Value} {L0 : List Rw} {s0 : Int} {L : Nat → Bool} {u2 u3 u4 u16 u17 u18 u19 u20 u21 u22 u23 u24 u25 u26 u27 : Value} {v : Value} {W : World} (h : RD B c len cap ad w v0 L0 s0 L u2 u3 u4 u16 u17 u18 u19 u20 u21 u22 u23 u24 u25 u26 u27 W) (hv : ∃ n : Nat, n < 4 ∧ v = .int .i64 n) : RD B c len cap ad w v0 L0 s0 (upd L 9) u2 u3 u4 u16 u17 u18 u19 u20 u21 u22 u23 u24 v u26 u27 W :=
  ⟨h.d, h.k0, h.k1, h.k2, h.k3, h.k4, h.k5, h.k6, h.k7, h.k8, (fun _ => hv), h.k10, h.k11, h.k12, h.k13, h.k14, h.p6, h.p11⟩
theorem RD.s10 {B c len cap : Nat} {ad : Option Addr} {w : World} {v0 : Value} {L0 : List Rw} {s0 : Int} {L : Nat → Bool} {u2 u3 u4 u16 u17 u18 u19 u20 u21 u22 u23 u24 u25 u26 u27 : Value} {v : Value} {W : World} (h : RD B c len cap ad w v0 L0 s0 L u2 u3 u4 u16 u17 u18 u19 u20 u21 u22 u23 u24 u25 u26 u27 W) (hv : L 11 = false → ∃ bl n : Nat, n < 4 ∧ v = .pointer (some ⟨bl, n, none⟩) ∧ Bo.Box W bl #[.int .i64 (-1), .int .i64 0, .int .i64 1000000, .int .i64 1000001] ∧ c < bl) : RD B c len cap ad w v0 L0 s0 (upd L 10) u2 u3 u4 u16 u17 u18 u19 u20 u21 u22 u23 u24 u25 v u27 W :=
  ⟨h.d, h.k0, h.k1, h.k2, h.k3, h.k4, h.k5, h.k6, h.k7, h.k8, h.k9, (fun _ => hv), h.k11, h.k12, h.k13, h.k14, h.p6, (fun _ => rfl)⟩
theorem RD.s11 {B c len cap : Nat} {ad : Option Addr} {w : World} {v0 : Value} {L0 : List Rw} {s0 : Int} {L : Nat → Bool} {u2 u3 u4 u16 u17 u18 u19 u20 u21 u22 u23 u24 u25 u26 u27 : Value} {v : Value} {W : World} (h : RD B c len cap ad w v0 L0 s0 L u2 u3 u4 u16 u17 u18 u19 u20 u21 u22 u23 u24 u25 u26 u27 W) (hp : L 10 = true) (hv : ∃ x : Int, v = .int .i64 x) : RD B c len cap ad w v0 L0 s0 (upd L 11) u2 u3 u4 u16 u17 u18 u19 u20 u21 u22 u23 u24 u25 u26 v W :=
  ⟨h.d, h.k0, h.k1, h.k2, h.k3, h.k4, h.k5, h.k6, (fun _ q => by cases q), h.k8, h.k9, (fun _ q => by cases q), (fun _ => hv), h.k12, h.k13, h.k14, h.p6, (fun _ => hp)⟩
theorem RD.s12 {B c len cap : Nat} {ad : Option Addr} {w : World} {v0 : Value} {L0 : List Rw} {s0 : Int} {L : Nat → Bool} {u2 u3 u4 u16 u17 u18 u19 u20 u21 u22 u23 u24 u25 u26 u27 : Value} {v : Value} {W : World} (h : RD B c len cap ad w v0 L0 s0 L u2 u3 u4 u16 u17 u18 u19 u20 u21 u22 u23 u24 u25 u26 u27 W) (hv : v = v0) : RD B c len cap ad w v0 L0 s0 (upd L 12) v u3 u4 u16 u17 u18 u19 u20 u21 u22 u23 u24 u25 u26 u27 W :=
  ⟨h.d, h.k0, h.k1, h.k2, h.k3, h.k4, h.k5, h.k6, h.k7, h.k8, h.k9, h.k10, h.k11, (fun _ => hv), h.k13, h.k14, h.p6, h.p11⟩
theorem RD.s13 {B c len cap : Nat} {ad : Option Addr} {w : World} {v0 : Value} {L0 : List Rw} {s0 : Int} {L : Nat → Bool} {u2 u3 u4 u16 u17 u18 u19 u20 u21 u22 u23 u24 u25 u26 u27 : Value} {v : Value} {W : World} (h : RD B c len cap ad w v0 L0 s0 L u2 u3 u4 u16 u17 u18 u19 u20 u21 u22 u23 u24 u25 u26 u27 W) (hv : ∃ x : Int, v = .int .i64 x) : RD B c len cap ad w v0 L0 s0 (upd L 13) u2 v u4 u16 u17 u18 u19 u20 u21 u22 u23 u24 u25 u26 u27 W :=
  ⟨h.d, h.k0, h.k1, h.k2, h.k3, h.k4, h.k5, h.k6, h.k7, h.k8, h.k9, h.k10, h.k11, h.k12, (fun _ => hv), h.k14, h.p6, h.p11⟩
theorem RD.s14 {B c len cap : Nat} {ad : Option Addr} {w : World} {v0 : Value} {L0 : List Rw} {s0 : Int} {L : Nat → Bool} {u2 u3 u4 u16 u17 u18 u19 u20 u21 u22 u23 u24 u25 u26 u27 : Value} {v : Value} {W : World} (h : RD B c len cap ad w v0 L0 s0 L u2 u3 u4 u16 u17 u18 u19 u20 u21 u22 u23 u24 u25 u26 u27 W) (hv : ∃ x : Int, v = .int .i64 x) : RD B c len cap ad w v0 L0 s0 (upd L 14) u2 u3 v u16 u17 u18 u19 u20 u21 u22 u23 u24 u25 u26 u27 W :=
  ⟨h.d, h.k0, h.k1, h.k2, h.k3, h.k4, h.k5, h.k6, h.k7, h.k8, h.k9, h.k10, h.k11, h.k12, h.k13, (fun _ => hv), h.p6, h.p11⟩
def JD (B c len cap : Nat) (ad : Option Addr) (w : World) (v0 : Value) (L0 : List Rw) (s0 : Int) (y0 y1 y8 y9 y10 y11 y12 y13 y14 y15 y28 y29 y30 y31 : Value) (L : Nat → Bool) (a : Act) (W : World) : Prop := ∃ u2 u3 u4 u16 u17 u18 u19 u20 u21 u22 u23 u24 u25 u26 u27 : Value, a = ⟨(y0 :: y1 :: u2 :: u3 :: u4 :: .pointer (some ⟨c, 0, none⟩) :: v0 :: .int .i64 s0 :: y8 :: y9 :: y10 :: y11 :: y12 :: y13 :: y14 :: y15 :: u16 :: u17 :: u18 :: u19 :: u20 :: u21 :: u22 :: u23 :: u24 :: u25 :: u26 :: u27 :: y28 :: y29 :: y30 :: y31 :: []).toArray, []⟩ ∧ RD B c len cap ad w v0 L0 s0 L u2 u3 u4 u16 u17 u18 u19 u20 u21 u22 u23 u24 u25 u26 u27 W
set_option maxRecDepth 100000 in
set_option maxHeartbeats 4000000 in
theorem DrawDrawn_any (a : Option Addr) (len cap : Nat) (w : World) (hc : Dr.Code w.heap.size w a len) (hl : len ≤ 4096) :
    Calls Try.prog 8 #[.slice a len cap] w fun e w' => ∃ v s now L, e = .returned (.tuple #[v, .int .i64 s, .int .i64 now]) ∧ L.length ≤ 30 ∧ Own w' w.heap.size v L ∧ Below w.heap.size w w' := by
  have HC := hidIt hc
  clear hc
  go_enter Try.func8, Try.ntmps8
  go_wp2_with (fail)
  refine (l1New_any _ a len cap _ (Nat.le_refl _) HC.out hl).mono ?_
  rintro e w1 ⟨c, rfl, hC1, k1⟩
  have HC1 := hidIt hC1
  have HB := hidIt k1
  clear hC1 k1
  have hlt := HC1.out.lt
  go_wp2_with (fail)
  refine (l15DrawList_any _ c a len cap _ HC1.out).mono ?_
  rintro e w2 ⟨v, L, rfl, t2, o2, hC2, hO2⟩
  have HT := hidIt t2
  have HD := hidIt (Db.mk o2 hC2 hO2)
  clear t2 o2 hC2 hO2
  obtain ⟨z0, zc, ez, _⟩ := HD.out.own.form
  subst ez
  go_wp2_with (fail)
  refine (l1Below_any _ c a len cap 5 _ (by decide) HD.out.cur).mono ?_
  rintro e w3 ⟨s0, q0, q1, rfl, hC3, hO3⟩
  replace HD := hidIt (HD.out.call hC3 hO3 hlt)
  clear hC3 hO3 q0 q1
  go_wp2_with (fail)
  refine (l1Once_any _ c a len cap 12 _ (by decide) HD.out.cur).mono ?_
  rintro e w4 ⟨b, rfl, hC4, hO4⟩
  replace HD := hidIt (HD.out.call hC4 hO4 hlt)
  clear hC4 hO4
  generalize hLN : L.length = LN at *
  cases b with
  | true =>
    go_wp2_with (fail)
    refine wp_region_inv (by kernel_rfl) (by kernel_rfl) (JD _ c len cap a w1 (.slice z0 LN zc) L s0 _ _ _ _ _ _ _ _ _ _ _ _ _ _) ⟨_, _, _, _, _, _, _, _, _, _, _, _, _, _, _, rfl, ⟨HD.out.low ((Below.refl _ _).drew), (fun q => by cases q), (fun q => by cases q), (fun q => by cases q), (fun q => by cases q), (fun q => by cases q), (fun q => by cases q), (fun q => by cases q), (fun q => by cases q), (fun q => by cases q), (fun q => by cases q), (fun q => by cases q), (fun q => by cases q), (fun q => by cases q), (fun q => by cases q), (fun q => by cases q), (fun q => by cases q), (fun q => by cases q)⟩⟩ ?_ ?_
    case refine_1 =>
      clear HD
      intro Lb a' W i hi hI hL hD
      have hcases : i = 0 ∨ i = 1 ∨ i = 2 ∨ i = 3 ∨ i = 4 ∨ i = 5 ∨ i = 6 ∨ i = 7 ∨ i = 8 ∨ i = 9 ∨ i = 10 ∨ i = 11 ∨ i = 12 ∨ i = 13 ∨ i = 14 := by simp at hi; omega
      clear hi
      obtain ⟨u2, u3, u4, u16, u17, u18, u19, u20, u21, u22, u23, u24, u25, u26, u27, rfl, h⟩ := hI
      have hcw := h.d.cur.lt
      rcases hcases with rfl | rfl | rfl | rfl | rfl | rfl | rfl | rfl | rfl | rfl | rfl | rfl | rfl | rfl | rfl
      · skip
        refine op_at rfl (fun K hK => ?_)
        go_simp
        refine hK _ _ ?_
        exact ⟨_, _, _, _, _, _, _, _, _, _, _, _, _, _, _, rfl, h.s0 rfl⟩
      · skip
        refine op_at rfl (fun K hK => ?_)
        go_simp
        refine hK _ _ ?_
        exact ⟨_, _, _, _, _, _, _, _, _, _, _, _, _, _, _, rfl, h.s1 rfl⟩
      · skip
        have e := h.k1 (hD 1 (by kernel_rfl))
        subst e
        refine op_at rfl (fun K hK => ?_)
        go_simp
        refine hK _ _ ?_
        exact ⟨_, _, _, _, _, _, _, _, _, _, _, _, _, _, _, rfl, (h.alloc _).s2 (fun _ => ⟨_, rfl, Bo.Box.new W #[.int .i64 (-1), .int .i64 99, .int .i64 100, .int .i64 s0] 2, hcw⟩)⟩
      · skip
        refine op_at rfl (fun K hK => ?_)
        go_simp
        refine hK _ _ ?_
        exact ⟨_, _, _, _, _, _, _, _, _, _, _, _, _, _, _, rfl, h.s3 rfl⟩
      · skip
        have e := h.k3 (hD 3 (by kernel_rfl))
        subst e
        refine op_at rfl (fun K hK => ?_)
        go_simp
        refine (l1Below_any _ c a len cap 4 _ (by decide) h.d.cur).mono ?_
        rintro e W1 ⟨x, x0, x1, rfl, hC, hO⟩
        go_simp
        refine hK _ _ ?_
        exact ⟨_, _, _, _, _, _, _, _, _, _, _, _, _, _, _, rfl, (h.call hC hO hlt).s4 ⟨x.toNat, by omega, by rw [Int.toNat_of_nonneg x0]⟩⟩
      · skip
        obtain ⟨n, hn, e2⟩ := h.k4 (hD 4 (by kernel_rfl))
        have hf : Lb 6 = false := by
          cases q : Lb 6 with
          | false => rfl
          | true => have z := h.p6 q; rw [hL] at z; cases z
        obtain ⟨bl, e, hb, hcb⟩ := h.k2 (hD 2 (by kernel_rfl)) hf
        subst e e2
        have hn1 : (n : Int) < 4 := by omega
        refine op_at rfl (fun K hK => ?_)
        go_simp
        refine hK _ _ ?_
        exact ⟨_, _, _, _, _, _, _, _, _, _, _, _, _, _, _, rfl, h.s5 (fun _ => ⟨bl, n, hn, rfl, hb, hcb⟩)⟩
      · skip
        obtain ⟨bl, n, hn, e, hb, hcb⟩ := h.k5 (hD 5 (by kernel_rfl)) hL
        subst e
        obtain ⟨x, hx⟩ := four_int (i := n) hn (a := -1) (b := 99) (c := 100) (d := s0)
        have hc1 := hb.c n hx
        clear hx
        refine op_at rfl (fun K hK => ?_)
        go_simp
        refine hK _ _ ?_
        exact ⟨_, _, _, _, _, _, _, _, _, _, _, _, _, _, _, rfl, h.s6 (hD 5 (by kernel_rfl)) ⟨x, rfl⟩⟩
      · skip
        refine op_at rfl (fun K hK => ?_)
        go_simp
        refine hK _ _ ?_
        exact ⟨_, _, _, _, _, _, _, _, _, _, _, _, _, _, _, rfl, (h.alloc _).s7 (fun _ => ⟨_, rfl, Bo.Box.new W #[.int .i64 (-1), .int .i64 0, .int .i64 1000000, .int .i64 1000001] 2, hcw⟩)⟩
      · skip
        refine op_at rfl (fun K hK => ?_)
        go_simp
        refine hK _ _ ?_
        exact ⟨_, _, _, _, _, _, _, _, _, _, _, _, _, _, _, rfl, h.s8 rfl⟩
      · skip
        have e := h.k8 (hD 8 (by kernel_rfl))
        subst e
        refine op_at rfl (fun K hK => ?_)
        go_simp
        refine (l1Below_any _ c a len cap 4 _ (by decide) h.d.cur).mono ?_
        rintro e W1 ⟨x, x0, x1, rfl, hC, hO⟩
        go_simp
        refine hK _ _ ?_
        exact ⟨_, _, _, _, _, _, _, _, _, _, _, _, _, _, _, rfl, (h.call hC hO hlt).s9 ⟨x.toNat, by omega, by rw [Int.toNat_of_nonneg x0]⟩⟩
      · skip
        obtain ⟨n, hn, e2⟩ := h.k9 (hD 9 (by kernel_rfl))
        have hf : Lb 11 = false := by
          cases q : Lb 11 with
          | false => rfl
          | true => have z := h.p11 q; rw [hL] at z; cases z
        obtain ⟨bl, e, hb, hcb⟩ := h.k7 (hD 7 (by kernel_rfl)) hf
        subst e e2
        have hn1 : (n : Int) < 4 := by omega
        refine op_at rfl (fun K hK => ?_)
        go_simp
        refine hK _ _ ?_
        exact ⟨_, _, _, _, _, _, _, _, _, _, _, _, _, _, _, rfl, h.s10 (fun _ => ⟨bl, n, hn, rfl, hb, hcb⟩)⟩
      · skip
        obtain ⟨bl, n, hn, e, hb, hcb⟩ := h.k10 (hD 10 (by kernel_rfl)) hL
        subst e
        obtain ⟨x, hx⟩ := four_int (i := n) hn (a := -1) (b := 0) (c := 1000000) (d := 1000001)
        have hc1 := hb.c n hx
        clear hx
        refine op_at rfl (fun K hK => ?_)
        go_simp
        refine hK _ _ ?_
        exact ⟨_, _, _, _, _, _, _, _, _, _, _, _, _, _, _, rfl, h.s11 (hD 10 (by kernel_rfl)) ⟨x, rfl⟩⟩
      · skip
        have e := h.k0 (hD 0 (by kernel_rfl))
        subst e
        refine op_at rfl (fun K hK => ?_)
        go_simp
        refine hK _ _ ?_
        exact ⟨_, _, _, _, _, _, _, _, _, _, _, _, _, _, _, rfl, h.s12 rfl⟩
      · skip
        obtain ⟨x, e⟩ := h.k6 (hD 6 (by kernel_rfl))
        subst e
        refine op_at rfl (fun K hK => ?_)
        go_simp
        refine hK _ _ ?_
        exact ⟨_, _, _, _, _, _, _, _, _, _, _, _, _, _, _, rfl, h.s13 ⟨x, rfl⟩⟩
      · skip
        obtain ⟨x, e⟩ := h.k11 (hD 11 (by kernel_rfl))
        subst e
        refine op_at rfl (fun K hK => ?_)
        go_simp
        refine hK _ _ ?_
        exact ⟨_, _, _, _, _, _, _, _, _, _, _, _, _, _, _, rfl, h.s14 ⟨x, rfl⟩⟩
    case refine_2 =>
      clear HD
      intro Lb a' W hI hall
      obtain ⟨u2, u3, u4, u16, u17, u18, u19, u20, u21, u22, u23, u24, u25, u26, u27, rfl, h⟩ := hI
      have e2 := h.k12 (hall 12)
      obtain ⟨x3, e3⟩ := h.k13 (hall 13)
      obtain ⟨x4, e4⟩ := h.k14 (hall 14)
      have hd := h.d
      subst e2 e3 e4
      have HO9 := hidIt (hd.own.mono HB.out.size)
      have HB9 := hidIt (HB.out.trans (hd.only.below (B := w.heap.size) HC1.out.here HB.out.size))
      clear h hall hd
      go_wp2_with (fail)
      refine bodyPost_ret (v := .tuple #[(.slice z0 LN zc), .int .i64 x3, .int .i64 x4]) (by simp [results, Try.results8, go_sem]) rfl ⟨_, x3, x4, L, rfl, by rw [hLN]; exact HT.out, HO9.out, HB9.out⟩
  | false =>
    go_wp2_with (fail)
    refine (l1Below_any _ c a len cap 30 _ (by decide) HD.out.cur).mono ?_
    rintro e w5 ⟨x, x0, x1, rfl, hC5, hO5⟩
    replace HD := hidIt (HD.out.call hC5 hO5 hlt)
    clear hC5 hO5 x0 x1
    have HO9 := hidIt (HD.out.own.mono HB.out.size)
    have HB9 := hidIt (HB.out.trans (HD.out.only.below (B := w.heap.size) HC1.out.here HB.out.size))
    clear HD
    go_wp2_with (fail)
    refine bodyPost_ret (v := .tuple #[(.slice z0 LN zc), .int .i64 s0, .int .i64 x]) (by simp [results, Try.results8, go_sem]) rfl ⟨_, s0, x, L, rfl, by rw [hLN]; exact HT.out, HO9.out, HB9.out⟩
end Go.Proofs.Ytiakongbiajlhaa.Bu
