/-
  What the drawing functions of chapter 3 answer, whatever the bytes: a text of at most 6 bytes; they write into their own cursor alone.
-/
import Derived.Test.YtciikondckoboaaDoorDraw
import Derived.Test.YtciikondckoboaaDoorSignN
import Derived.OwnWalk
import Derived.Laws.AppendOwn
import Derived.Laws.IdiomStrings
import Derived.Laws.BytesArg
import Derived.Lib.SmallJoins
namespace Go.Proofs.YtciikondckoboaaDoor.Sg
open Go.ChangeShapes Go.WideShapes Go.ChangeAt Go.RowKit
open Dr
/-- The slice v owns the bytes l in a row of the call's own. -/
def Bs (w : World) (base : Nat) (v : Value) (l : List UInt8) : Prop := w.ownsRow base 5 1 v l.length (l.map fun b => Value.int .u8 (b.toNat : Int))
theorem Bs.far {w : World} {base c : Nat} {v : Value} {l : List UInt8} (h : Bs w base v l) (hc : c < base) : v.ownBlock = none ∨ v.ownBlock ≠ some c := by
  cases hv : v.ownBlock with
  | none => exact .inl rfl
  | some k => exact .inr (fun e => by have := (World.ownsRow.lt h k hv).1; cases e; omega)
theorem Bs.only {w w' : World} {base c : Nat} {v : Value} {l : List UInt8} (h : Bs w base v l) (k : Only c w w') (hc : c < base) : Bs w' base v l :=
  World.ownsRow.kept h ⟨k.os, k.tape, k.output, k.size, fun i hi hne => k.block i hi (fun e => hne (by rw [e]))⟩ (h.far hc)
theorem Bs.alloc {w : World} {base : Nat} {v : Value} {l : List UInt8} (h : Bs w base v l) (o : Obj) : Bs (w.alloc o) base v l := World.ownsRow.alloc h o
theorem Bs.new (w : World) : Bs (w.alloc (.cells #[] 5)) w.heap.size (.slice (some ⟨w.heap.size, 0, none⟩) 0 0) [] :=
  World.ownsRow_made w #[] 0 (Nat.le_refl _) (by decide) rfl
theorem grown_below {w w' : World} {base B : Nat} {v : Value} {l : List UInt8} (h : Bs w base v l) (g : w.grownBy w' v.ownBlock) (hB : B ≤ base) (hs : B ≤ w.heap.size) : Below B w w' :=
  ⟨g.os, g.tape, g.output, g.size, fun k hk => g.block k (by omega) (fun e => by have := (World.ownsRow.lt h k e.symm).1; omega)⟩
theorem grown_only {w0 w w' : World} {base c : Nat} {v : Value} {l : List UInt8} (o : Only c w0 w) (h : Bs w base v l) (g : w.grownBy w' v.ownBlock) (hb : w0.heap.size ≤ base) : Only c w0 w' :=
  ⟨g.os.trans o.os, g.tape.trans o.tape, g.output.trans o.output, Nat.le_trans o.size g.size, fun k hk hc => (g.block k (Nat.lt_of_lt_of_le hk o.size) (fun e => by have := (World.ownsRow.lt h k e.symm).1; omega)).trans (o.block k hk hc)⟩
theorem Bs.more {w : World} {base : Nat} {v : Value} {l : List UInt8} {x : Nat} (hx : x < 256) (h : w.ownsRow base 5 1 v (l.length + 1) (l.map (fun b => Value.int .u8 (b.toNat : Int)) ++ [.int .u8 (x : Int)])) : Bs w base v (l ++ [UInt8.ofNat x]) := by
  unfold Bs
  have e : (UInt8.ofNat x).toNat = x := by simp; omega
  rw [List.length_append, List.map_append, List.map_cons, List.map_nil, e]
  exact h
theorem Bs.back {w : World} {base : Nat} {v : Value} {l : List UInt8} (h : Bs w base v l) : (convert 22 9 v).run Tryd.prog w = .ok (.string ⟨l.toArray⟩) w := by
  rcases h.2 with ⟨rfl, h0⟩ | ⟨g, cap, cur, rfl, hb, hg, rest⟩
  · have hl : l = [] := List.eq_nil_of_length_eq_zero h0
    subst hl
    exact run_convert_bytes_nil (P := Tryd.prog) w 22 5 Tryd.underlying22 Tryd.underlying5 0 0 9 Tryd.underlying9
  · refine run_convert_bytes_back _ _ _ 5 ⟨g, 0, none⟩ cap l Tryd.underlying22 Tryd.underlying5 Tryd.underlying9 (fun j hj => ?_)
    exact World.ownsRow.cells h (g := g) rfl j _ (by simp [List.getElem?_eq_getElem hj])
theorem Bs.set0 {w : World} {base g cap n : Nat} {b : UInt8} {l : List UInt8} {x : Nat} (hx : x < 256) (h : Bs w base (.slice (some ⟨g, 0, none⟩) n cap) (b :: l)) :
    w.cell? ⟨g, 0, none⟩ = some (.int .u8 (b.toNat : Int)) ∧ w.frozen? ⟨g, 0, none⟩ = false ∧ base ≤ g ∧ n = l.length + 1 ∧ Bs (w.setCell ⟨g, 0, none⟩ (.int .u8 (x : Int))) base (.slice (some ⟨g, 0, none⟩) n cap) (UInt8.ofNat x :: l) := by
  rcases h.2 with ⟨e, _⟩ | ⟨g', cap', cur, e, hb, hg, hn, hm, hz, ht⟩
  · cases e
  · cases e
    have e : (UInt8.ofNat x).toNat = x := by simp; omega
    have c0 := World.ownsRow.cells h (g := g) rfl 0 (.int .u8 (b.toNat : Int)) rfl
    refine ⟨by simpa [Addr.add] using c0, Joins.unfrozen_of_block hg 0, hb, rfl, ?_, .inr ⟨g, cap, _, rfl, hb, Joins.block_setCell hg _, hn, hm, by simpa using hz, ?_⟩⟩
    · simp
    · rw [Array.toList_setIfInBounds, List.take_set]
      change (List.take ((b :: l).length * 1) cur.toList).set 0 _ = _
      rw [ht, List.map_cons, List.map_cons, e]
      rfl
theorem info8 : (Tryd.prog.info? 5).map (fun i => (i.zero, i.size, i.bytes)) = some (some (.int .u8 0), 1, 1) := by kernel_rfl
set_option maxRecDepth 100000 in
set_option maxHeartbeats 4000000 in
theorem l3DrawText_any (B c : Nat) (a : Option Addr) (len cap : Nat) (w : World) (hC : Cur B w c a len cap) :
    Calls Tryd.prog 20 #[.pointer (some ⟨c, 0, none⟩)] w fun e w' => ∃ s : ByteArray, s.size ≤ 6 ∧ e = .returned (.string s) ∧ Cur B w' c a len cap ∧ Only c w w' := by
  have hlt := hC.lt
  have HC := hidIt hC
  clear hC
  obtain ⟨i0, hi, hz0, hz1, hz2⟩ := info_parts info8
  go_enter Tryd.func20, Tryd.ntmps20
  go_wp2_with (fail)
  refine (l1Below_any B c a len cap 7 _ (by decide) (HC.out.kept ((Below.refl (c + 1) w).alloc (by omega) _))).mono ?_
  rintro e w1 ⟨x, x0, x1, rfl, hC1, hO1⟩
  obtain ⟨xn, rfl⟩ := Int.eq_ofNat_of_zero_le x0
  have S1 := hidIt ((Bs.new w).only hO1 hlt)
  have C1 := hidIt hC1
  have O1 := hidIt (((Only.refl c w).alloc _).trans hO1)
  clear hC1 hO1 HC
  go_wp2_with (fail)
  go_loopw [3, 4] (fun y z wx => ∃ (n : Nat) (l : List UInt8), z = .int .i64 n ∧ n + l.length ≤ 6 ∧ Bs wx w.heap.size y l ∧ Cur B wx c a len cap ∧ Only c w wx) (fun _ z _ => (intOf z).toNat)
  case atStart => exact ⟨xn, [], rfl, by simp; omega, S1.out, C1.out, O1.out⟩
  case round =>
    obtain ⟨n, l, rfl, hn, hS, hCr, hOr⟩ := hrel
    have HS := hidIt hS
    have HCr := hidIt hCr
    have HOr := hidIt hOr
    clear hS hCr hOr S1 C1 O1
    by_cases h0 : 0 < n
    · have h0' : (0 : Int) < n := by omega
      have h0'' : (n : Int) ≤ 6 := by omega
      go_wp2_with (fail)
      refine (l1Below_any B c a len cap 4 _ (by decide) HCr.out).mono ?_
      rintro e w2 ⟨y2, y0, y1, rfl, hC2, hO2⟩
      obtain ⟨yn, rfl⟩ := Int.eq_ofNat_of_zero_le y0
      have S2 := hidIt (HS.out.only hO2 hlt)
      have C2 := hidIt hC2
      have O2 := hidIt (HOr.out.trans hO2)
      have q0 : (yn : Int) < 4 := y1
      clear hC2 hO2
      go_wp2_with (first
        | (at_builtin; refine wpList_append_own _ rfl _ _ 22 rfl w.heap.size 5 i0 (.int .u8 0) 1 1 Tryd.underlying22 hi hz0 hz1 hz2 rfl (by decide) _ _ _ rfl (World.ownsRow.alloc S2.out _) ⟨w2.heap.size, 0, none⟩ 1 1 [.int .u8 (97 + (yn : Int))] rfl rfl ?c1 ?c2 ?c3 ?c4 ?c5 ?_)
        | fail)
      case c1 =>
        intro j u hj
        match j, hj with
        | 0, hj => simp at hj; subst hj; simp [Addr.add]
      case c2 => intro u hu; simp at hu; subst hu; rfl
      case c3 => unfold maxLen; omega
      case c4 => omega
      case c5 => have := O2.out.size; simp; omega
      · intro v' w3 hown' hgrow _
        have S3 := hidIt (Bs.more (x := 97 + yn) (by omega) (by rw [show ((97 + yn : Nat) : Int) = 97 + (yn : Int) from by omega]; exact hown'))
        have C3 := hidIt ((C2.out.kept ((Below.refl (c + 1) w2).alloc (by have := C2.out.lt; omega) _)).kept (grown_below (S2.out.alloc _) hgrow (by omega) (by have := C2.out.lt; simp; omega)))
        have O3 := hidIt (grown_only (O2.out.alloc _) (S2.out.alloc _) hgrow (Nat.le_refl _))
        clear hown' hgrow
        go_wp2_with (fail)
        refine ⟨⟨n - 1, l ++ [UInt8.ofNat (97 + yn)], ?_, by simp; omega, S3.out, C3.out, O3.out⟩, by simp [intOf]; omega⟩
        congr 1
        omega
    · have h0' : ¬ (0 : Int) < n := by omega
      go_wp2_with (fail)
      refine (l1Once_any B c a len cap 8 _ (by decide) HCr.out).mono ?_
      rintro e w4 ⟨bx, rfl, hC4, hO4⟩
      have S4 := hidIt (HS.out.only hO4 hlt)
      have C4 := hidIt hC4
      have O4 := hidIt (HOr.out.trans hO4)
      clear hC4 hO4 HS HCr HOr
      have hform : (∃ a' n' c', u3 = .slice a' n' c' ∧ n' = l.length) := by
        rcases S4.out.2 with ⟨e, h0⟩ | ⟨g, cp, cur, e, _⟩
        · exact ⟨none, 0, 0, e, h0.symm⟩
        · exact ⟨_, _, _, e, rfl⟩
      obtain ⟨a', n', c', rfl, hn'⟩ := hform
      have HN := hidIt hn'
      clear hn'
      have hcv := S4.out.back
      have hsz : (⟨l.toArray⟩ : ByteArray).size ≤ 6 := by show l.toArray.size ≤ 6; simp; omega
      cases bx with
      | false =>
        go_wp2_with (fail)
        go_ret
        exact ⟨_, hsz, rfl, C4.out, O4.out⟩
      | true =>
        by_cases hl : l = []
        · have hn0 : ¬ (0 : Int) < (n' : Int) := by have hn' := HN.out; subst hl; simp at hn'; omega
          clear hl
          go_wp2_with (fail)
          go_ret
          exact ⟨_, hsz, rfl, C4.out, O4.out⟩
        · obtain ⟨b0, l', rfl⟩ := List.exists_cons_of_ne_nil hl
          have hn0 : (0 : Int) < (n' : Int) := by have hn' := HN.out; simp at hn'; omega
          clear hcv hsz
          obtain ⟨g, rfl⟩ : ∃ g, a' = some ⟨g, 0, none⟩ := by
            rcases S4.out.2 with ⟨e, h0⟩ | ⟨g, cp, cur, e, _⟩
            · cases e; have hn' := HN.out; simp at hn'
            · cases e; exact ⟨g, rfl⟩
          go_wp2_with (fail)
          refine (l1Byte_any B c a len cap _ C4.out).mono ?_
          rintro e w5 ⟨x, x0, x1, rfl, hC5, hO5⟩
          obtain ⟨xm, rfl⟩ := Int.eq_ofNat_of_zero_le x0
          have hx2 : xm < 256 := by omega
          obtain ⟨k0, k1, k2, k3, k4⟩ := Bs.set0 hx2 (S4.out.only hO5 hlt)
          have C5 := hidIt hC5
          have O5 := hidIt (O4.out.trans hO5)
          have hcv := k4.back
          have hsz : (⟨(UInt8.ofNat xm :: l').toArray⟩ : ByteArray).size ≤ 6 := by show (UInt8.ofNat xm :: l').toArray.size ≤ 6; have hn' := HN.out; simp at hn' ⊢; simp at hn; omega
          clear hC5 hO5 k4 k3
          generalize (⟨(UInt8.ofNat xm :: l').toArray⟩ : ByteArray) = st at hcv hsz
          go_wp2_with (fail)
          go_ret
          exact ⟨_, hsz, rfl, C5.out.kept ((Below.refl (c + 1) w5).setCell (by simp; omega) _), O5.out.setNew (by simpa using k2) _⟩
end Go.Proofs.YtciikondckoboaaDoor.Sg
