/-
  What l11DrawAny and the Draws of chapter 11 answer, whatever the bytes.
-/
import Derived.Test.YtmhfaeddfibohaaBokF
namespace Go.Proofs.Ytmhfaeddfibohaa.En
open Go.ChangeShapes Go.WideShapes Go.ChangeAt Go.RowKit
open Dr
set_option linter.unusedVariables false
theorem fresh_at {w : World} {k : Nat} (h : w.heap.size = k) (x : Rw) (T : TypeId) : ∀ j u, (rcells [x])[j]? = some u → (w.alloc (.cells (rc x) T)).cell? ((⟨k, 0, none⟩ : Addr).add j) = some u := by subst h; exact fresh w x T
/-- Where l11DrawAny stands. -/
structure Da (B : Nat) (w wx : World) (c : Nat) (ad : Option Addr) (len cap : Nat) (v : Value) (L : List Rw) : Prop where
  tame : Tame L
  own : Own wx w.heap.size v L
  cur : Cur B wx c ad len cap
  only : Only c w wx
theorem Da.call {B c len cap : Nat} {w wx w' : World} {ad : Option Addr} {v : Value} {L : List Rw} (h : Da B w wx c ad len cap v L) (hC : Cur B w' c ad len cap) (k : Only c wx w') (hc : c < w.heap.size) : Da B w w' c ad len cap v L :=
  ⟨h.tame, own_fr h.own k hc, hC, h.only.trans k⟩
theorem Da.low {B c len cap : Nat} {w wx w' : World} {ad : Option Addr} {v : Value} {L : List Rw} (h : Da B w wx c ad len cap v L) (k : Below wx.heap.size wx w') : Da B w w' c ad len cap v L :=
  ⟨h.tame, h.own.kept k, h.cur.kept (k.mono (by have := h.cur.lt; omega)), h.only.trans (Only.of_below k)⟩
/-- An append has been carried out. -/
theorem Da.grown {B c len cap : Nat} {w wx w' : World} {ad : Option Addr} {v v' : Value} {L M : List Rw} (h : Da B w wx c ad len cap v L) (hc : c < w.heap.size) (o : Own w' w.heap.size v' M) (g : wx.grownBy w' v.ownBlock) (t : Tame M) : Da B w w' c ad len cap v' M := by
  have kk := grown_below h.own g (Nat.le_refl _) h.only.size
  exact ⟨t, o, h.cur.kept (kk.mono (by omega)), ⟨kk.os.trans h.only.os, kk.tape.trans h.only.tape, kk.output.trans h.only.output, Nat.le_trans h.only.size kk.size, fun i hi hne => (kk.block i hi).trans (h.only.block i hi hne)⟩⟩
theorem Da.fresh {B c len cap : Nat} {w wx : World} {ad : Option Addr} {v : Value} {L : List Rw} (h : Da B w wx c ad len cap v L) : Da B w (wx.alloc (.cells #[] 30)) c ad len cap (.slice (some ⟨wx.heap.size, 0, none⟩) 0 0) [] :=
  have k := (Below.refl wx.heap.size wx).alloc (Nat.le_refl _) (.cells #[] 30)
  ⟨Tame.nil, (Own.new wx).mono h.only.size, h.cur.kept (k.mono (by have := h.cur.lt; omega)), h.only.trans (Only.of_below k)⟩
set_option maxRecDepth 100000 in
set_option maxHeartbeats 8000000 in
theorem l11DrawAny_any (B c : Nat) (ad : Option Addr) (len cap : Nat) (w : World) (hC : Cur B w c ad len cap) :
    Calls Try.prog 40 #[.pointer (some ⟨c, 0, none⟩)] w fun e w' => ∃ v L, e = .returned v ∧ Tame L ∧ Own w' w.heap.size v L ∧ Cur B w' c ad len cap ∧ Only c w w' := by
  obtain ⟨i0, hi0, hz0, hz1, hz2⟩ := info_parts infoRw
  have hlt := hC.lt
  have HC0 := hidIt hC
  clear hC
  go_enter Try.func40, Try.ntmps40
  go_wp2_with (fail)
  refine (l11Draw_any B c ad len cap _ HC0.out).mono ?_
  rintro e w1 ⟨v, L, rfl, t1, l1, o1, hC1, hO1⟩
  have HD : Hid (Da B w w1 c ad len cap v L) := hidIt ⟨t1, o1, hC1, hO1⟩
  have HL : Hid (L.length ≤ 6) := hidIt l1
  clear t1 l1 o1 hC1 hO1 HC0
  go_upto_if 8 with (go_at_call 56; refine (l1Once_any B c ad len cap 14 _ (by decide) HD.out.cur).mono ?_; rintro e W1 ⟨b1, rfl, hC1, hO1⟩; replace HD := hidIt (HD.out.call hC1 hO1 hlt); clear hC1 hO1)
  go_cut [3] from 9 to 13 (fun s3 wq => ∃ L, Hid (Da B w wq c ad len cap s3 L))
  case first =>
    cases b1 with
    | false =>
      go_wp2_with (fail)
      go_meet
      case rel => exact ⟨_, HD⟩
    | true =>
      obtain ⟨a, cp, ez, _⟩ := HD.out.own.form
      subst ez
      generalize hll : L.length = ll at *
      have HLL := hidIt hll
      clear hll
      go_wp2_with (fail)
      refine (l11DrawEntry_any B c ad len cap _ HD.out.cur).mono ?_
      rintro e W2 ⟨x, rfl, s1, s2, hC2, hO2⟩
      replace HD := hidIt (HD.out.call hC2 hO2 hlt)
      clear hC2 hO2
      obtain ⟨xk, xv, xt, xn, xg⟩ := x
      simp only at s1 s2
      have HDa := hidIt (HD.out.low ((Below.refl W2.heap.size W2).alloc (Nat.le_refl _) (.cells #[.string xk, .string xv, .int .i64 xt, .int .i64 xn, .bool xg] 30)))
      have HOw : Hid (World.ownsRow (W2.alloc (.cells #[.string xk, .string xv, .int .i64 xt, .int .i64 xn, .bool xg] 30)) w.heap.size 30 5 (.slice a ll cp) ll (rcells L)) := hidIt (by have := HDa.out.own; unfold Own at this; rw [HLL.out] at this; exact this)
      go_wp2_with (first | (at_builtin; refine wpList_append_own _ rfl _ _ 24 rfl w.heap.size 30 i0 (.agg #[.string ByteArray.empty, .string ByteArray.empty, .int .i64 0, .int .i64 0, .bool false]) 5 56 Try.underlying24 hi0 hz0 hz1 hz2 rfl (by decide) _ _ _ rfl HOw.out ⟨W2.heap.size, 0, none⟩ 1 1 [.string xk, .string xv, .int .i64 xt, .int .i64 xn, .bool xg] rfl rfl (fresh W2 (xk, xv, xt, xn, xg) 30) (rcells_one [(xk, xv, xt, xn, xg)]) ?ca1 ?ca2 ?ca3 ?_))
      case ca1 => unfold maxLen; have := HL.out; omega
      case ca2 => have := HL.out; omega
      case ca3 => exact HDa.out.only.size
      intro v' w9 hown hgrow _
      have HD9 := hidIt (HDa.out.grown hlt (M := L ++ [(xk, xv, xt, xn, xg)]) (Own.more (L := L) (M := [(xk, xv, xt, xn, xg)]) (by rw [HLL.out]; exact hown)) hgrow (HDa.out.tame.more (by have := HL.out; have := HLL.out; omega) s1 s2))
      clear hown hgrow
      go_wp2_with (fail)
      go_meet
      case rel => exact ⟨_, HD9⟩
  case rest =>
    obtain ⟨L, HD⟩ := hcut
    clear HL
    go_upto_if 15 with (go_at_call 56; refine (l1Once_any B c ad len cap 40 _ (by decide) HD.out.cur).mono ?_; rintro e W1 ⟨b1, rfl, hC1, hO1⟩; replace HD := hidIt (HD.out.call hC1 hO1 hlt); clear hC1 hO1)
    cases b1 with
    | false =>
      go_wp2_with (fail)
      go_ret
      exact ⟨_, L, rfl, HD.out.tame, HD.out.own, HD.out.cur, HD.out.only⟩
    | true =>
      have HDf := hidIt HD.out.fresh
      clear HD
      go_wp2_with (fail)
      go_loopw [3, 4] (fun s3 s4 wx => ∃ (i : Nat) (L : List Rw), s4 = .int .i64 i ∧ i ≤ 80 ∧ Hid (L.length = i) ∧ Hid (Da B w wx c ad len cap s3 L)) (fun _ s4 _ => (80 - intOf s4).toNat)
      case atStart => exact ⟨0, [], rfl, by omega, hidIt rfl, HDf⟩
      case round =>
        obtain ⟨i, L, rfl, hi, HL, HD⟩ := hrel
        clear HDf
        obtain ⟨a, cp, ez, _⟩ := HD.out.own.form
        subst ez
        by_cases hlt80 : i < 80
        · have hi1 : (i : Int) < 80 := by omega
          have hi2 : (0 : Int) ≤ (i : Int) := by omega
          have hcv := Nm.cv1 (48 + i) (by omega) wr
          rw [show ((48 + i : Nat) : Int) = 48 + (i : Int) by omega] at hcv
          obtain ⟨kt, ekt, hkt⟩ : ∃ kt : ByteArray, (⟨#[UInt8.ofNat (48 + i)]⟩ : ByteArray) = kt ∧ kt.size ≤ 41 := ⟨_, rfl, (show (1 : Nat) ≤ 41 by decide)⟩
          rw [ekt] at hcv
          clear ekt
          have HDb := hidIt (HD.out.low (((Below.refl wr.heap.size wr).alloc (Nat.le_refl _) (.cells #[.int .u8 (48 + (i : Int))] 5)).alloc (by simp) (.cells #[.string kt, .string ⟨#[]⟩, .int .i64 1, .int .i64 0, .bool false] 30)))
          generalize hll : L.length = ll at *
          have HLL := hidIt hll
          clear hll
          have HOw : Hid (World.ownsRow ((wr.alloc (.cells #[.int .u8 (48 + (i : Int))] 5)).alloc (.cells #[.string kt, .string ⟨#[]⟩, .int .i64 1, .int .i64 0, .bool false] 30)) w.heap.size 30 5 (.slice a ll cp) ll (rcells L)) := hidIt (by have := HDb.out.own; unfold Own at this; rw [HLL.out] at this; exact this)
          go_wp2_with (first | (at_builtin; refine wpList_append_own _ rfl _ _ 24 rfl w.heap.size 30 i0 (.agg #[.string ByteArray.empty, .string ByteArray.empty, .int .i64 0, .int .i64 0, .bool false]) 5 56 Try.underlying24 hi0 hz0 hz1 hz2 rfl (by decide) _ _ _ rfl HOw.out ⟨wr.heap.size + 1, 0, none⟩ 1 1 [.string kt, .string ⟨#[]⟩, .int .i64 1, .int .i64 0, .bool false] rfl rfl (fresh_at (w := wr.alloc (.cells #[.int .u8 (48 + (i : Int))] 5)) (by simp) (kt, ⟨#[]⟩, 1, 0, false) 30) (rcells_one [(kt, ⟨#[]⟩, 1, 0, false)]) ?cb1 ?cb2 ?cb3 ?_))
          case cb1 => unfold maxLen; have := HL.out; omega
          case cb2 => have := HL.out; omega
          case cb3 => exact HDb.out.only.size
          intro v' w9 hown hgrow _
          have HD9 := hidIt (HDb.out.grown hlt (M := L ++ [(kt, ⟨#[]⟩, 1, 0, false)]) (Own.more (L := L) (M := [(kt, ⟨#[]⟩, 1, 0, false)]) (by rw [HLL.out]; exact hown)) hgrow (HDb.out.tame.more (x := (kt, ⟨#[]⟩, 1, 0, false)) (by have := HL.out; have := HLL.out; omega) hkt (show (0 : Nat) ≤ 41 by decide)))
          have HL9 : Hid ((L ++ [((kt, ⟨#[]⟩, 1, 0, false) : Rw)]).length = i + 1) := hidIt (by have := HL.out; have := HLL.out; simp; omega)
          clear hown hgrow hcv
          go_wp2_with (fail)
          exact ⟨⟨i + 1, _, by simp, by omega, HL9, HD9⟩, by simp [intOf]; omega⟩
        · have hi1 : ¬ (i : Int) < 80 := by omega
          go_wp2_with (fail)
          go_ret
          first | exact ⟨_, L, rfl, HD.out.tame, HD.out.own, HD.out.cur, HD.out.only⟩ | exact ⟨_, rfl, L, HD.out.tame, HD.out.own, HD.out.cur, HD.out.only⟩
end Go.Proofs.Ytmhfaeddfibohaa.En
