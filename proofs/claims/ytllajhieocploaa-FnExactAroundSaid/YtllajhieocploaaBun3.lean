/-
  What the laws do with one Replica and with a list of them: the measure, the copy, whether two are alike.
  A list of Replicas that came in.
  What the laws do with Replicas: the copy of one and of a list; whether two are alike.
  What the laws do with Replicas: whether two are alike; marks, and whether they hold.
  What several books come to, in whatever order they are told: no program in sight.
-/
import Derived.Test.YtllajhieocploaaBun2
import Derived.Test.YtllajhieocploaaEntL
import Derived.Test.YtllajhieocploaaMem2L
import Derived.Test.YtllajhieocploaaBoxM
import Derived.Deep.SlicePairs
import Derived.Test.YtllajhieocploaaEntN
import Derived.Test.YtllajhieocploaaMem2N
import Derived.Test.YtllajhieocploaaBokP
namespace Go.Proofs.Ytllajhieocploaa.Rp
open Go.ChangeShapes Go.WideShapes Go.ChangeAt Go.RowKit
open Go.Proofs.Ytllajhieocploaa.Vv (Sl sv hidIt)
open Go.Proofs.Ytllajhieocploaa.Rc (BelowBy BelowBy.one wp_region_below calls_below calls_same)
set_option linter.unusedVariables false
/-- How many Entries and Members a Replica has, and a list of them. -/
def bulk : List Rep → Nat
  | [] => 0
  | r :: L => bulk1 r + bulk L
theorem bulk_app (L M : List Rep) : bulk (L ++ M) = bulk L + bulk M := by
  induction L with
  | nil => simp [bulk]
  | cons r L ih => simp only [List.cons_append, bulk, ih]; omega
theorem bulk_take {L : List Rep} {i : Nat} (h : i < L.length) : bulk (L.take (i + 1)) = bulk (L.take i) + bulk1 (rat L i) := by
  rw [take_rat h, bulk_app]
  simp [bulk]
theorem bulk_take_le (L : List Rep) (i : Nat) : bulk (L.take i) ≤ bulk L := by
  have := bulk_app (L.take i) (L.drop i)
  rw [List.take_append_drop] at this
  omega
theorem bulk_one {L : List Rep} {i : Nat} (h : i < L.length) : bulk1 (rat L i) ≤ bulk L := by
  have h1 := bulk_take h
  have h2 := bulk_take_le L (i + 1)
  omega
/-- The texts of all its Entries are no longer than a text may be. -/
def Short (L : List Rep) : Prop := ∀ i, i < L.length → ∀ j, j < (rat L i).1.length → (En.rat (rat L i).1 j).1.size ≤ 9223372036854775807 ∧ (En.rat (rat L i).1 j).2.1.size ≤ 9223372036854775807
set_option maxRecDepth 100000 in
set_option maxHeartbeats 4000000 in
theorem szS_any (a : Option Addr) (cap : Nat) (L : List Rep) (l : Int) (w : World) (h : Rd w a L) (hl : L.length ≤ 9223372036854775807) (hs : Short L) (h0 : 0 ≤ l) (h1 : l ≤ 1048576) :
    Calls Try.prog 6 #[.slice a L.length cap, .int .i64 l] w fun e w' => ∃ q : Int, e = .returned (.int .i64 q) ∧ En.Le2 q l (L.length + bulk L) ∧ Below w.heap.size w w' := by
  have HT := hidIt (fun i (hi : i < L.length) => bulk_take hi)
  have HE : Hid (bulk (L.take L.length) = bulk L) := hidIt (by rw [List.take_length])
  generalize hn : L.length = m at *
  have HR := hidIt h
  have HN := hidIt hn
  have HS := hidIt hs
  clear h hn hs
  have h2 : -9223372036854775808 ≤ l - (m : Int) := by omega
  have h3 : l - (m : Int) ≤ 9223372036854775807 := by omega
  by_cases hs2 : l - (m : Int) < 0
  · go_enter Try.func6, Try.ntmps6
    go_wp2
    go_ret
    first | exact ⟨-1, rfl, ⟨by omega, fun h => by omega⟩, Below.refl _ _⟩ | exact ⟨⟨by omega, fun h => by omega⟩, Below.refl _ _⟩
  · have hn2 : m ≤ 1048576 := by omega
    go_enter Try.func6, Try.ntmps6
    go_wp2_with (fail)
    go_loopw [1, 5] (fun z y wx => ∃ (i : Nat) (r : Int), y = .int .i64 i ∧ z = .int .i64 r ∧ 0 ≤ r ∧ r ≤ 1048576 ∧ Hid (r + (m : Int) + (bulk (L.take i) : Int) ≤ l) ∧ i ≤ m ∧ Hid (Below w.heap.size w wx)) (fun _ y _ => (m - intOf y).toNat)
    case atStart => exact ⟨0, _, rfl, rfl, by omega, by omega, hidIt (by first | (simp [bulk]; done) | (simp [bulk]; omega)), by omega, hidIt (Below.refl _ _)⟩
    case round =>
      obtain ⟨i, r, rfl, rfl, r0, r1, HL, hi, HB⟩ := hrel
      by_cases hin : i < m
      · have hin' : (i : Int) < (m : Int) := by omega
        obtain ⟨b, off, s, t, rfl, c0, c1, hE, hM⟩ := (HR.out.kept HB.out).one (i := i) (by rw [HN.out]; exact hin)
        have HC := hidIt (sz_any s t (rat L i) r wr hE hM (HS.out i (by rw [HN.out]; exact hin)) r0 r1)
        clear hE hM
        obtain ⟨s0, s1, s2⟩ := s
        obtain ⟨t0, t1, t2⟩ := t
        simp only [sv] at c0 c1 HC
        go_wp2_with (fail)
        refine HC.out.mono ?_
        rintro e w1 ⟨q, rfl, hq, hb1⟩
        have HB1 := hidIt (on HB.out hb1)
        have HQ := hidIt hq
        have q1 := hq.le
        clear hb1 HB HC hq
        by_cases hneg : q < 0
        · go_wp2_with (fail)
          go_ret
          have := HL.out
          first | exact ⟨-1, rfl, ⟨by omega, fun h => by omega⟩, HB1.out⟩ | exact ⟨⟨by omega, fun h => by omega⟩, HB1.out⟩
        · go_wp2_with (fail)
          refine ⟨⟨i + 1, q, by simp, rfl, by omega, by omega, hidIt ?_, by omega, HB1⟩, by simp [intOf]; omega⟩
          have e1 := HL.out
          have e2 := HQ.out.sum (by omega)
          have e3 := HT.out i hin
          rw [e3]
          omega
      · have hin' : ¬ (i : Int) < (m : Int) := by omega
        obtain rfl : i = m := by omega
        go_wp2_with (fail)
        go_ret
        have e1 := HL.out
        rw [HE.out] at e1
        first | exact ⟨r, rfl, ⟨by omega, fun _ => by omega⟩, HB.out⟩ | exact ⟨⟨by omega, fun _ => by omega⟩, HB.out⟩
end Go.Proofs.Ytllajhieocploaa.Rp
namespace Go.Proofs.Ytllajhieocploaa.Rp
open Go.ChangeShapes Go.WideShapes Go.ChangeAt Go.RowKit
open Go.Proofs.Ytllajhieocploaa.Vv (Sl sv hidIt)
set_option linter.unusedVariables false
/-- The slice at a, of capacity cap, that came in reads as the Replicas L. -/
structure In (w : World) (a : Option Addr) (cap : Nat) (L : List Rep) : Prop where
  rd : Rd w a L
  na : a = none → cap = 0
  le : L.length ≤ cap
  cap : cap ≤ 9223372036854775807
  short : Short L
theorem rat_map (m : Nat) (f : Nat → Rep) (i : Nat) (hi : i < m) : rat ((List.range m).map f) i = f i := by
  unfold rat
  rw [List.getD_eq_getElem?_getD, List.getElem?_map, List.getElem?_range hi]
  rfl
set_option maxRecDepth 100000 in
theorem open_reps {H : Type} {enc : TypeId × Value → H} {w : World} {r : Reach} {b0 base : Nat} {spare : Nat → Bool} {held : Bool} {v : Value} {d : DataW H} {p : List MemPlace}
    (hv : Value.okWide Try.prog w r b0 22 v) (h : DataW.Trod enc Try.prog w base spare held 22 v d p) : ∃ (a : Option Addr) (cap : Nat) (L : List Rep), v = .slice a L.length cap ∧ In w a cap L := by
  obtain ⟨a, len, cap, rfl⟩ := okWide_slice Try.underlying22 hv
  obtain ⟨fuel, hf⟩ := h
  have hf' : DataW.trod enc Try.prog w base spare held fuel 22 [.slice a len cap] = some (d, p) := by simpa [Value.cells] using hf
  rcases Go.Deep.open_slice_pairs Try.underlying22 Try.underlying52 (by kernel_rfl) rfl rfl (by kernel_rfl) (by kernel_rfl) hf' with ⟨hcs, _⟩ | ⟨x, len', cap', m, n, V0, V1, D0, D1, P0, P1, hcs, _, hl, hc, hm, _, hx⟩
  · simp at hcs
    obtain ⟨rfl, rfl, rfl⟩ := hcs
    exact ⟨none, 0, [], rfl, Rd.nil _ _, fun _ => rfl, Nat.zero_le _, by decide, fun i hi => by simp at hi⟩
  · simp at hcs
    obtain ⟨rfl, rfl, rfl⟩ := hcs
    have hlm : len ≤ m := by rw [hm]; split <;> omega
    have each : ∀ i, i < len → ∃ y : Vv.Rw × Rep, w.cell? (x.add (i * 2)) = some (sv y.1.1) ∧ w.cell? (x.add (i * 2 + 1)) = some (sv y.1.2) ∧ RdE w y.1.1 y.2.1 ∧ RdM w y.1.2 y.2.2 ∧ (∀ j, j < y.2.1.length → (En.rat y.2.1 j).1.size ≤ 9223372036854775807 ∧ (En.rat y.2.1 j).2.1.size ≤ 9223372036854775807) := by
      intro i hi
      obtain ⟨c0, c1, g0, g1⟩ := hx i (by omega)
      obtain ⟨a0, k0, L0, e0, I0⟩ := En.open_cells Try.underlying49 Try.underlying98 (by kernel_rfl) rfl rfl rfl rfl rfl (by kernel_rfl) (by kernel_rfl) (by kernel_rfl) (by kernel_rfl) (by kernel_rfl) Try.underlying9 Try.underlying9 Try.underlying2 Try.underlying2 Try.underlying4 g0
      obtain ⟨a1, k1, L1, e1, I1⟩ := Mm.open_cells Try.underlying50 Try.underlying105 (by kernel_rfl) rfl rfl rfl (by kernel_rfl) (by kernel_rfl) (by kernel_rfl) Try.underlying2 Try.underlying2 Try.underlying2 g1
      rw [e0] at c0
      rw [e1] at c1
      exact ⟨(((a0, L0.length, k0), (a1, L1.length, k1)), (L0, L1)), c0, c1, ⟨rfl, I0.rd, I0.na, I0.le, I0.cap⟩, ⟨rfl, I1.rd, I1.na, I1.le, I1.cap⟩, I0.short⟩
    haveI : Inhabited (Vv.Rw × Rep) := ⟨(((none, 0, 0), (none, 0, 0)), ([], []))⟩
    obtain ⟨f, hf''⟩ := Go.Deep.choose_lt each
    refine ⟨some x, cap, (List.range len).map (fun i => (f i).2), by simp, ⟨(List.range len).map (fun i => (f i).1), by simp, ⟨fun i hi => ?_⟩, fun i hi => ?_, fun i hi => ?_⟩, (fun e => by cases e), by simpa using hl, hc, fun i hi => ?_⟩
    · have hi' : i < len := by simpa using hi
      have z0 := (hf'' 0 (by omega)).1
      obtain ⟨b, off, spot⟩ := x
      have hspot : spot = none := by simpa [Addr.add] using World.cell?_spot z0
      subst hspot
      refine ⟨b, off, rfl, fun j hj => ?_⟩
      obtain ⟨d0, d1, _⟩ := hf'' i hi'
      rw [Go.WideShapes.add_plain] at d0 d1
      rw [Vv.rat_map _ _ _ hi']
      match j, hj with
      | 0, _ => exact d0
      | 1, _ => exact d1
    · have hi' : i < len := by simpa using hi
      rw [Vv.rat_map _ _ _ hi', rat_map _ _ _ hi']
      exact (hf'' i hi').2.2.1
    · have hi' : i < len := by simpa using hi
      rw [Vv.rat_map _ _ _ hi', rat_map _ _ _ hi']
      exact (hf'' i hi').2.2.2.1
    · have hi' : i < len := by simpa using hi
      rw [rat_map _ _ _ hi']
      exact (hf'' i hi').2.2.2.2
end Go.Proofs.Ytllajhieocploaa.Rp
namespace Go.Proofs.Ytllajhieocploaa.Rp
open Go.ChangeShapes Go.WideShapes Go.ChangeAt Go.RowKit
open Go.Proofs.Ytllajhieocploaa.Vv (Sl sv hidIt)
open Go.Proofs.Ytllajhieocploaa.Rc (BelowBy BelowBy.one wp_region_below calls_below calls_same)
set_option linter.unusedVariables false
/-- A list of Replicas of the call's own comes back. -/
def LstP (w : World) (L : List Rep) (e : Ending) (w' : World) : Prop := ∃ v, e = .returned v ∧ Own w' w.heap.size w'.heap.size v L ∧ Below w.heap.size w w'
theorem LstP.of {w w' : World} {L : List Rep} {e : Ending} {v : Value} (h : e = .returned v) (h1 : Own w' w.heap.size w'.heap.size v L) (h2 : Below w.heap.size w w') : LstP w L e w' := ⟨v, h, h1, h2⟩
theorem LstP.out {w w' : World} {L : List Rep} {e : Ending} (h : LstP w L e w') : ∃ v, e = .returned v ∧ Own w' w.heap.size w'.heap.size v L ∧ Below w.heap.size w w' := h
theorem pcells_zero (m : Nat) : Vv.rcells (List.replicate m ((none, 0, 0), (none, 0, 0))) = (madeCells #[.slice none 0 0, .slice none 0 0] (m * 2)).toList := by
  apply List.ext_getElem?
  intro x
  by_cases hx : x < m * 2
  · have e : x = x / 2 * 2 + x % 2 := by omega
    have h1 := Vv.rcells_get (List.replicate m ((none, 0, 0), (none, 0, 0))) (x / 2) (x % 2) (by rw [List.length_replicate]; omega) (by omega)
    rw [← e] at h1
    have h2 : Vv.rat (List.replicate m ((none, 0, 0), (none, 0, 0))) (x / 2) = ((none, 0, 0), (none, 0, 0)) := by
      rw [Vv.rat_at (by rw [List.length_replicate]; omega), List.getElem_replicate]
    rw [h1, h2]
    have h3 : x % 2 = 0 ∨ x % 2 = 1 := by omega
    rcases h3 with h | h <;> simp [madeCells, hx, h, Vv.rcell]
  · rw [List.getElem?_eq_none (by rw [Vv.rcells_length, List.length_replicate]; omega), List.getElem?_eq_none (by simp [madeCells]; omega)]
set_option maxRecDepth 100000 in
set_option maxHeartbeats 8000000 in
theorem toS_any (a : Option Addr) (cap : Nat) (L : List Rep) (w : World) (h : Rd w a L) (hl : L.length ≤ 1048576) (hb : bulk L ≤ 1048576) :
    Calls Try.prog 8 #[.slice a L.length cap] w fun e w' => LstP w L e w' := by
  have HBk := hidIt (fun i (hi : i < L.length) => bulk_one hi)
  generalize hn : L.length = m at *
  obtain ⟨i0, hi, hz0, hz1, hz2⟩ := info_parts Vv.infoRw
  have HR := hidIt h
  have HN := hidIt hn
  clear h hn
  go_enter Try.func8, Try.ntmps8
  go_wp2_with (first
    | (at_make; refine wpList_make_full _ rfl _ _ 24 rfl w.heap.size 36 i0 (.agg #[.slice none 0 0, .slice none 0 0]) 2 Try.underlying24 hi hz0 hz1 _ _ _ _ m rfl rfl (by omega) (by omega) (by rw [hz2]; omega) (by unfold maxLen; omega) (Nat.le_refl _) ?_)
    | fail)
  intro w1 hown hgrow
  have HV : Vv.Own w1 w.heap.size (.slice (some ⟨w.heap.size, 0, none⟩) m m) (List.replicate m ((none, 0, 0), (none, 0, 0))) := by
    unfold Vv.Own
    rw [List.length_replicate, pcells_zero]
    exact hown
  have HB := hidIt ((Below.refl w.heap.size w).grown hgrow (Nat.le_refl _) (fun k hk => by cases hk))
  have HO := hidIt (Own.made HV HB.out.size)
  clear hown hgrow HV
  go_wp2_with (fail)
  go_loopw [4] (fun y wx => ∃ (i : Nat) (M : List Rep), y = .int .i64 i ∧ i ≤ m ∧ M.length = m ∧ Hid (∀ j, j < i → rat M j = rat L j) ∧ Hid (Own wx w.heap.size wx.heap.size (.slice (some ⟨w.heap.size, 0, none⟩) m m) M) ∧ Hid (Below w.heap.size w wx)) (fun y _ => (m - intOf y).toNat)
  case atStart => exact ⟨0, _, rfl, by omega, by simp, hidIt (fun j hj => by omega), HO, HB⟩
  case round =>
    obtain ⟨i, M, rfl, hin0, hM, hE, HOx, HBx⟩ := hrel
    have HM := hidIt hM
    clear HO HB hM
    by_cases hin : i < m
    · have hin' : (i : Int) < (m : Int) := by omega
      obtain ⟨b, off, s, t, rfl, c0, c1, rE, rM⟩ := (HR.out.kept HBx.out).one (i := i) (by rw [HN.out]; exact hin)
      have hbk := HBk.out i hin
      have HC := hidIt (to_any s t (rat L i) wr rE rM (by unfold bulk1 at hbk; omega) (by unfold bulk1 at hbk; omega))
      clear rE rM hbk
      obtain ⟨s0, s1, s2⟩ := s
      obtain ⟨t0, t1, t2⟩ := t
      simp only [sv] at c0 c1 HC
      go_wp2_with (fail)
      refine HC.out.mono ?_
      intro e w2 hz
      obtain ⟨⟨x0, x1, x2⟩, ⟨y0, y1, y2⟩, rfl, oE, oM, hb2⟩ := hz.out
      have hiM : i < M.length := by rw [HM.out]; exact hin
      have HB2 := hidIt (on HBx.out hb2)
      have HO2 := hidIt (HOx.out.kept hb2)
      have HO3 := hidIt (HO2.out.put hiM oE oM)
      obtain ⟨p, q, z0, z1, g0, g1, _, _⟩ := HO2.out.cells hiM
      have HB3 := hidIt ((HB2.out.setCell (p := ⟨w.heap.size, i * 2, none⟩) (Nat.le_refl _) (.slice x0 x1 x2)).setCell (p := ⟨w.heap.size, i * 2 + 1, none⟩) (Nat.le_refl _) (.slice y0 y1 y2))
      have HO4 := hidIt HO3.out.grow
      clear hz oE oM hb2 HC HO2 HB2 HOx HBx HO3
      obtain ⟨p0, p1, p2⟩ := p
      obtain ⟨q0, q1, q2⟩ := q
      simp only [sv] at z0 z1 HO4
      go_wp2_with (fail)
      refine ⟨⟨i + 1, M.set i (rat L i), by simp, by omega, by rw [List.length_set]; exact HM.out, hidIt (fun j hj => ?_), HO4, HB3⟩, by simp [intOf]; omega⟩
      rw [rat_set hiM]
      split
      · rename_i e; rw [e]
      · exact hE.out j (by omega)
    · have hin' : ¬ (i : Int) < (m : Int) := by omega
      have eM : M = L := ext_rat (by rw [HM.out, HN.out]) (fun j hj => hE.out j (by rw [HM.out] at hj; omega))
      subst eM
      go_wp2_with (fail)
      go_ret
      exact LstP.of rfl HOx.out HBx.out
end Go.Proofs.Ytllajhieocploaa.Rp
namespace Go.Proofs.Ytllajhieocploaa.Rp
open Go.ChangeShapes Go.WideShapes Go.ChangeAt Go.RowKit
open Go.Proofs.Ytllajhieocploaa.Vv (Sl sv hidIt)
open Go.Proofs.Ytllajhieocploaa.Rc (BelowBy BelowBy.one wp_region_below calls_below calls_same)
set_option linter.unusedVariables false
set_option maxRecDepth 100000 in
set_option maxHeartbeats 8000000 in
theorem eqS_same (a a' : Option Addr) (cap cap' : Nat) (L : List Rep) (w : World) (h : Rd w a L) (h' : Rd w a' L) (hl : L.length ≤ 9223372036854775807) :
    Calls Try.prog 10 #[.slice a L.length cap, .slice a' L.length cap'] w fun e w' => e = .returned (.bool true) ∧ Below w.heap.size w w' := by
  generalize hn : L.length = m at *
  have HR := hidIt h
  have HR' := hidIt h'
  have HN := hidIt hn
  clear h h' hn
  have hq : ((m : Int) != (m : Int)) = false := by simp
  go_enter Try.func10, Try.ntmps10
  go_wp2_with (fail)
  go_loopw [5] (fun y wx => ∃ (i : Nat), y = .int .i64 i ∧ i ≤ m ∧ Hid (Below w.heap.size w wx)) (fun y _ => (m - intOf y).toNat)
  case atStart => exact ⟨0, rfl, by omega, hidIt (Below.refl _ _)⟩
  case round =>
    obtain ⟨i, rfl, hi, HB⟩ := hrel
    by_cases hin : i < m
    · have hin' : (i : Int) < (m : Int) := by omega
      have hi0 : (0 : Int) ≤ (i : Int) := by omega
      obtain ⟨b, off, s, t, rfl, c0, c1, rE, rM⟩ := (HR.out.kept HB.out).one (i := i) (by rw [HN.out]; exact hin)
      obtain ⟨b', off', s', t', rfl, d0, d1, rE', rM'⟩ := (HR'.out.kept HB.out).one (i := i) (by rw [HN.out]; exact hin)
      have CE := hidIt (fun W (k : Below wr.heap.size wr W) => eq_same s t s' t' (rat L i) W (rE.kept k) (rM.kept k) (rE'.kept k) (rM'.kept k))
      clear rE rM rE' rM'
      obtain ⟨s0, s1, s2⟩ := s
      obtain ⟨t0, t1, t2⟩ := t
      obtain ⟨p0, p1, p2⟩ := s'
      obtain ⟨q0, q1, q2⟩ := t'
      simp only [sv] at c0 c1 d0 d1 CE
      haveI := BelowBy.one wr
      have f0 := fun p : BelowBy wr => p.cell c0
      have f1 := fun p : BelowBy wr => p.cell c1
      have g0 := fun p : BelowBy wr => p.cell d0
      have g1 := fun p : BelowBy wr => p.cell d1
      clear c0 c1 d0 d1
      go_wp2_with (fail)
      refine wp_region_below (by kernel_rfl) (by kernel_rfl) ?_
      repeat (go_big_quiet_step (first | (go_at_call 28; refine calls_below (CE.out _ (BelowBy.h _)))))
      refine wpQuiet_nil ?_
      intro _ hw'
      obtain ⟨pq, rfl⟩ := hw'
      have HB1 := hidIt (on HB.out pq.h)
      generalize pq.world = w2 at HB1 ⊢
      clear f0 f1 g0 g1
      go_wp2_with (fail)
      exact ⟨⟨i + 1, by simp, by omega, HB1⟩, by simp [intOf]; omega⟩
    · have hin' : ¬ (i : Int) < (m : Int) := by omega
      go_wp2_with (fail)
      go_ret
      exact ⟨rfl, HB.out⟩
/-- Marks, one after the other, from k on. -/
def mark1 (k : Nat) (r : Rep) : Rep := (En.markX k r.1.length, Mm.markX (k + 5 * r.1.length) r.2.length)
def cost1 (r : Rep) : Nat := 5 * r.1.length + 3 * r.2.length
def cost : List Rep → Nat
  | [] => 0
  | r :: L => cost1 r + cost L
def markR : Nat → List Rep → List Rep
  | _, [] => []
  | k, r :: L => mark1 k r :: markR (k + cost1 r) L
theorem markR_length : ∀ (L : List Rep) (k : Nat), (markR k L).length = L.length
  | [], _ => rfl
  | r :: L, k => by simp only [markR, List.length_cons, markR_length L]
theorem cost_app (L M : List Rep) : cost (L ++ M) = cost L + cost M := by
  induction L with
  | nil => simp [cost]
  | cons r L ih => simp only [List.cons_append, cost, ih]; omega
theorem cost_take {L : List Rep} {i : Nat} (h : i < L.length) : cost (L.take (i + 1)) = cost (L.take i) + cost1 (rat L i) := by
  rw [take_rat h, cost_app]
  simp [cost]
theorem cost_le (L : List Rep) : cost L ≤ 5 * bulk L := by
  induction L with
  | nil => simp [cost]
  | cons r L ih => simp only [cost, bulk, cost1, bulk1]; omega
theorem cost_take_le (L : List Rep) (i : Nat) : cost (L.take i) ≤ cost L := by
  have := cost_app (L.take i) (L.drop i)
  rw [List.take_append_drop] at this
  omega
theorem rat_markR : ∀ (L : List Rep) (k i : Nat), i < L.length → rat (markR k L) i = mark1 (k + cost (L.take i)) (rat L i)
  | [], _, i, h => absurd h (Nat.not_lt_zero _)
  | r :: L, k, 0, _ => by simp [markR, rat, cost]
  | r :: L, k, i + 1, h => by
    have := rat_markR L (k + cost1 r) i (by simpa using h)
    have e1 : rat (markR k (r :: L)) (i + 1) = rat (markR (k + cost1 r) L) i := by simp [markR, rat]
    have e2 : rat (r :: L) (i + 1) = rat L i := by simp [rat]
    rw [e1, e2, this, List.take_succ_cons]
    simp only [cost]
    rw [Nat.add_assoc]
theorem mark1_len (k : Nat) (r : Rep) : (mark1 k r).1.length = r.1.length ∧ (mark1 k r).2.length = r.2.length := ⟨En.markX_length _ _, Mm.markX_length _ _⟩
theorem ob_in {lo hi : Nat} {w w' : World} {b e s n : Nat} {v : Value} {xs : List Value} (hv : w.ownsRow b e s v n xs) (Y : Only (v.ownBlock.getD w.heap.size) w w') (hb : lo ≤ b) (hh : ∀ g, v.ownBlock = some g → g < hi) : OnlyIn lo hi w w' := by
  refine OnlyIn.of_only Y ?_
  cases hvb : v.ownBlock with
  | none => exact .inl (by simp)
  | some g => exact .inr ⟨Nat.le_trans hb (World.ownsRow.lt hv g hvb).1, hh g hvb⟩
/-- One book marked: all else stays. -/
theorem OwnC.markE {w w' : World} {lo hi i : Nat} {v : Value} {C : List Vv.Rw} {L : List Rep} (h : OwnC w lo hi v C L) (hi' : i < L.length) {M : List En.Rw} (o : En.Own w' lo (sv (Vv.rat C i).1) M) (Y : Only (En.ob w (sv (Vv.rat C i).1)) w w') : OwnC w' lo hi v C (L.set i (M, (rat L i).2)) := by
  have Hb := h.bk i hi'
  refine ⟨by rw [List.length_set]; exact h.len, row_other h.row Hb Y (own_apart h.row Hb (by decide)), h.blk, fun j hj => ?_, fun j hj => h.bb j (by rw [List.length_set] at hj; exact hj), fun j hj => ?_, fun j hj => h.bm j (by rw [List.length_set] at hj; exact hj), fun j k hj hk => h.db j k (by rw [List.length_set] at hj; exact hj) (by rw [List.length_set] at hk; exact hk), fun j k hj hk => h.dm j k (by rw [List.length_set] at hj; exact hj) (by rw [List.length_set] at hk; exact hk), Nat.le_trans h.hi' Y.size, h.lo'⟩
  · rw [List.length_set] at hj
    rw [rat_set hi']
    by_cases e : i = j
    · subst e
      rw [if_pos rfl]
      exact o
    · rw [if_neg e]
      exact row_other (h.bk j hj) Hb Y (h.db j i hj hi' (fun q => e q.symm))
  · rw [List.length_set] at hj
    rw [rat_set hi']
    have : Mm.Own w' lo (sv (Vv.rat C j).2) (rat L j).2 := row_other (h.mb j hj) Hb Y (own_apart (h.mb j hj) Hb (by decide))
    by_cases e : i = j
    · subst e
      rw [if_pos rfl]
      exact this
    · rw [if_neg e]
      exact this
theorem OwnC.markM {w w' : World} {lo hi i : Nat} {v : Value} {C : List Vv.Rw} {L : List Rep} (h : OwnC w lo hi v C L) (hi' : i < L.length) {M : List Mm.Rw} (o : Mm.Own w' lo (sv (Vv.rat C i).2) M) (Y : Only (Mm.ob w (sv (Vv.rat C i).2)) w w') : OwnC w' lo hi v C (L.set i ((rat L i).1, M)) := by
  have Hb := h.mb i hi'
  refine ⟨by rw [List.length_set]; exact h.len, row_other h.row Hb Y (own_apart h.row Hb (by decide)), h.blk, fun j hj => ?_, fun j hj => h.bb j (by rw [List.length_set] at hj; exact hj), fun j hj => ?_, fun j hj => h.bm j (by rw [List.length_set] at hj; exact hj), fun j k hj hk => h.db j k (by rw [List.length_set] at hj; exact hj) (by rw [List.length_set] at hk; exact hk), fun j k hj hk => h.dm j k (by rw [List.length_set] at hj; exact hj) (by rw [List.length_set] at hk; exact hk), Nat.le_trans h.hi' Y.size, h.lo'⟩
  · rw [List.length_set] at hj
    rw [rat_set hi']
    have : En.Own w' lo (sv (Vv.rat C j).1) (rat L j).1 := row_other (h.bk j hj) Hb Y (own_apart (h.bk j hj) Hb (by decide))
    by_cases e : i = j
    · subst e
      rw [if_pos rfl]
      exact this
    · rw [if_neg e]
      exact this
  · rw [List.length_set] at hj
    rw [rat_set hi']
    by_cases e : i = j
    · subst e
      rw [if_pos rfl]
      exact o
    · rw [if_neg e]
      exact row_other (h.mb j hj) Hb Y (h.dm j i hj hi' (fun q => e q.symm))
/-- What marks come to. -/
def MkP (lo hi : Nat) (v : Value) (L : List Rep) (k : Nat) (w : World) (e : Ending) (w' : World) : Prop := e = .returned (.int .i64 ((k + cost L : Nat) : Int)) ∧ Own w' lo hi v (markR k L) ∧ OnlyIn lo hi w w'
theorem MkP.of {lo hi : Nat} {v : Value} {L : List Rep} {k : Nat} {w w' : World} {e : Ending} (h : e = .returned (.int .i64 ((k + cost L : Nat) : Int))) (h1 : Own w' lo hi v (markR k L)) (h2 : OnlyIn lo hi w w') : MkP lo hi v L k w e w' := ⟨h, h1, h2⟩
theorem MkP.out {lo hi : Nat} {v : Value} {L : List Rep} {k : Nat} {w w' : World} {e : Ending} (h : MkP lo hi v L k w e w') : e = .returned (.int .i64 ((k + cost L : Nat) : Int)) ∧ Own w' lo hi v (markR k L) ∧ OnlyIn lo hi w w' := h
set_option maxRecDepth 100000 in
set_option maxHeartbeats 8000000 in
theorem markS_any (lo hi : Nat) (v : Value) (L : List Rep) (k : Nat) (w : World) (h : Own w lo hi v L) (h1 : 1 ≤ k) (h2 : k + 5 * bulk L ≤ 1099511627776) (hl : L.length ≤ 1048576) :
    Calls Try.prog 11 #[v, .int .i64 k] w fun e w' => MkP lo hi v L k w e w' := by
  obtain ⟨C, h⟩ := h
  obtain ⟨a, cap, ev, hcap, hcm, hna⟩ := Own.form ⟨C, h⟩
  have HT := hidIt (fun i (hi : i < L.length) => cost_take hi)
  have HTL := hidIt (fun i => cost_take_le L i)
  have HE : Hid (cost (L.take L.length) = cost L) := hidIt (by rw [List.take_length])
  have hcl := cost_le L
  have HML := hidIt (markR_length L k)
  have HRM := hidIt (fun i (hi : i < L.length) => rat_markR L k i hi)
  subst ev
  generalize hn : L.length = m at *
  have HN := hidIt hn
  have HO := hidIt h
  clear hn h
  go_enter Try.func11, Try.ntmps11
  go_wp2_with (fail)
  go_loopw [1, 5] (fun z y wx => ∃ (i : Nat) (M : List Rep), y = .int .i64 i ∧ z = .int .i64 ((k + cost (L.take i) : Nat) : Int) ∧ i ≤ m ∧ M.length = m ∧ Hid (∀ j, j < i → rat M j = rat (markR k L) j) ∧ Hid (∀ j, i ≤ j → rat M j = rat L j) ∧ Hid (OwnC wx lo hi (.slice a m cap) C M) ∧ Hid (OnlyIn lo hi w wx)) (fun _ y _ => (m - intOf y).toNat)
  case atStart => exact ⟨0, L, rfl, by simp [cost], by omega, HN.out, hidIt (fun j hj => by omega), hidIt (fun j _ => rfl), HO, hidIt (OnlyIn.refl _ _ _)⟩
  case round =>
    obtain ⟨i, M, rfl, rfl, him, hM, HD, HU, HOx, HY⟩ := hrel
    have HM := hidIt hM
    clear hM HO
    by_cases hin : i < m
    · have hin' : (i : Int) < (m : Int) := by omega
      have hiM : i < M.length := by rw [HM.out]; exact hin
      have hiL : i < L.length := by rw [HN.out]; exact hin
      have hct := HT.out i hin
      have hle := HTL.out (i + 1)
      have hr := HU.out i (Nat.le_refl _)
      have oE := HOx.out.bk i hiM
      have oM := HOx.out.mb i hiM
      rw [hr] at oE oM
      obtain ⟨b, off, ea, c0, c1⟩ := (HOx.out.rd rfl).row.all (i := i) (by rw [HOx.out.len]; exact hiM)
      subst ea
      have hc1 : cost1 (rat L i) = 5 * (rat L i).1.length + 3 * (rat L i).2.length := rfl
      have HRi := hidIt (show rat (markR k L) i = (En.markX (k + cost (L.take i)) (rat L i).1.length, Mm.markX (k + cost (L.take i) + 5 * (rat L i).1.length) (rat L i).2.length) from HRM.out i hin)
      generalize hkx : k + cost (L.take i) = kx at *
      have C1 := hidIt (En.markS_any lo (sv (Vv.rat C i).1) (rat L i).1 kx wr oE (by omega) (by omega))
      have C2 := hidIt (fun W (o : Mm.Own W lo (sv (Vv.rat C i).2) (rat L i).2) => Mm.markS_any lo (sv (Vv.rat C i).2) (rat L i).2 (kx + 5 * (rat L i).1.length) W o (by omega) (by omega))
      have HmE := hidIt (fun W (N : List En.Rw) (o : En.Own W lo (sv (Vv.rat C i).1) N) (Y : Only (En.ob wr (sv (Vv.rat C i).1)) wr W) => HOx.out.markE hiM o Y)
      have HmM := hidIt (fun (W W' : World) (N : List En.Rw) (h : OwnC W lo hi (.slice (some ⟨b, off, none⟩) m cap) C (M.set i (N, (rat M i).2))) (N' : List Mm.Rw) (o : Mm.Own W' lo (sv (Vv.rat C i).2) N') (Y : Only (Mm.ob W (sv (Vv.rat C i).2)) W W') => h.markM (i := i) (by rw [List.length_set]; exact hiM) o Y)
      have HYE := hidIt (fun W (Y : Only (En.ob wr (sv (Vv.rat C i).1)) wr W) => ob_in (lo := lo) (hi := hi) oE Y (Nat.le_refl _) (HOx.out.bb i hiM))
      have HYM := hidIt (fun W W' (o : Mm.Own W lo (sv (Vv.rat C i).2) (rat L i).2) (Y : Only (Mm.ob W (sv (Vv.rat C i).2)) W W') => ob_in (lo := lo) (hi := hi) o Y (Nat.le_refl _) (HOx.out.bm i hiM))
      have HMb := hidIt (fun W (Y : Only (En.ob wr (sv (Vv.rat C i).1)) wr W) => (row_other oM oE Y (own_apart oM oE (by decide)) : Mm.Own W lo (sv (Vv.rat C i).2) (rat L i).2))
      have HCx := hidIt (fun (W : World) (Y : Only (En.ob wr (sv (Vv.rat C i).1)) wr W) => (row_other HOx.out.row oE Y (own_apart HOx.out.row oE (by decide)) : Vv.Own W lo (.slice (some ⟨b, off, none⟩) m cap) C))
      have hiC : i < C.length := by rw [HOx.out.len]; exact hiM
      have hoff : off = 0 := by
        obtain ⟨a', c', e', _, _, _, _, hs⟩ := HOx.out.row.form
        obtain ⟨g, eg, _⟩ := hs _ (Value.slice.inj e').1.symm
        cases eg
        rfl
      subst hoff
      have HCc := hidIt (fun (W : World) (o : Vv.Own W lo (.slice (some ⟨b, 0, none⟩) m cap) C) => o.at hiC (j := 1) (by omega))
      generalize hcp : Vv.rat C i = cp at *
      have HCP := hidIt hcp
      clear hcp oE oM hr
      obtain ⟨⟨s0, s1, s2⟩, ⟨t0, t1, t2⟩⟩ := cp
      simp only [sv, Nat.zero_add] at c0 c1 C1 C2
      go_wp2_with (fail)
      refine C1.out.mono ?_
      rintro e w1 ⟨rfl, oE1, Y1⟩
      have HOE1 := hidIt (HmE.out w1 _ oE1 Y1)
      have HY1 := hidIt (HY.out.trans (HYE.out w1 Y1))
      have HM1 := hidIt (HMb.out w1 Y1)
      have c1' := HCc.out w1 (HCx.out w1 Y1)
      simp only [Vv.rcell, sv] at c1'
      clear oE1 Y1 c0 c1 C1 HOx HY HmE HYE HMb HCx HCc
      go_wp2_with (fail)
      refine (C2.out _ HM1.out).mono ?_
      rintro e w2 ⟨rfl, oM2, Y2⟩
      have HOM2 := hidIt (HmM.out w1 w2 _ HOE1.out _ oM2 Y2)
      have HY2 := hidIt (HY1.out.trans (HYM.out w1 w2 HM1.out Y2))
      clear oM2 Y2 HOE1 HY1 HM1 C2 HmM HYM
      rw [List.set_set, rat_set hiM, if_pos rfl] at HOM2
      have hkk : k + cost (L.take (i + 1)) = kx + 5 * (rat L i).1.length + 3 * (rat L i).2.length := by omega
      generalize (rat L i).1.length = n1 at *
      generalize (rat L i).2.length = n2 at *
      go_wp2_with (fail)
      refine ⟨⟨i + 1, _, by simp, by rw [hkk]; first | rfl | (congr 1; omega), by omega, ?_, hidIt (fun j hj => ?_), hidIt (fun j hj => ?_), HOM2, HY2⟩, by simp [intOf]; omega⟩
      · rw [List.length_set]; exact HM.out
      · rw [rat_set hiM]
        split
        · rename_i e
          subst e
          exact HRi.out.symm
        · rename_i e
          exact HD.out j (by omega)
      · rw [rat_set hiM, if_neg (by omega)]
        exact HU.out j (by omega)
    · have hin' : ¬ (i : Int) < (m : Int) := by omega
      obtain rfl : i = m := by omega
      have eM : M = markR k L := ext_rat (by rw [HM.out, HML.out]) (fun j hj => HD.out j (by rw [HM.out] at hj; omega))
      subst eM
      rw [HE.out]
      go_wp2_with (fail)
      go_ret
      exact MkP.of rfl ⟨C, HOx.out⟩ HY.out
set_option maxRecDepth 100000 in
set_option maxHeartbeats 8000000 in
theorem heldS_any (a : Option Addr) (cap : Nat) (L : List Rep) (k : Nat) (w : World) (h : Rd w a (markR k L)) (h1 : 1 ≤ k) (h2 : k + 5 * bulk L ≤ 1099511627776) (hl : L.length ≤ 1048576) :
    Calls Try.prog 12 #[.slice a L.length cap, .int .i64 k] w fun e w' => e = .returned (.int .i64 ((k + cost L : Nat) : Int)) ∧ Below w.heap.size w w' := by
  have HT := hidIt (fun i (hi : i < L.length) => cost_take hi)
  have HTL := hidIt (fun i => cost_take_le L i)
  have HE : Hid (cost (L.take L.length) = cost L) := hidIt (by rw [List.take_length])
  have hcl := cost_le L
  have HML := hidIt (markR_length L k)
  have HRM := hidIt (fun i (hi : i < L.length) => rat_markR L k i hi)
  have HR := hidIt h
  clear h
  generalize hn : L.length = m at *
  have HN := hidIt hn
  clear hn
  go_enter Try.func12, Try.ntmps12
  go_wp2_with (fail)
  go_loopw [1, 5] (fun z y wx => ∃ (i : Nat), y = .int .i64 i ∧ z = .int .i64 ((k + cost (L.take i) : Nat) : Int) ∧ i ≤ m ∧ Hid (Below w.heap.size w wx)) (fun _ y _ => (m - intOf y).toNat)
  case atStart => exact ⟨0, rfl, by simp [cost], by omega, hidIt (Below.refl _ _)⟩
  case round =>
    obtain ⟨i, rfl, rfl, him, HB⟩ := hrel
    by_cases hin : i < m
    · have hin' : (i : Int) < (m : Int) := by omega
      have hct := HT.out i hin
      have hle := HTL.out (i + 1)
      obtain ⟨b, off, s, t, ea, c0, c1, rE, rM⟩ := (HR.out.kept HB.out).one (i := i) (by rw [HML.out]; exact hin)
      subst ea
      have hr := HRM.out i hin
      rw [hr] at rE rM
      have hc1 : cost1 (rat L i) = 5 * (rat L i).1.length + 3 * (rat L i).2.length := rfl
      generalize hkx : k + cost (L.take i) = kx at *
      have l1 : s.2.1 = (rat L i).1.length := rE.len.trans (mark1_len _ _).1
      have l2 : t.2.1 = (rat L i).2.length := rM.len.trans (mark1_len _ _).2
      have C1 := hidIt (fun W (r : En.Rd W s.1 (En.markX kx (rat L i).1.length)) => En.heldS_any s.1 s.2.2 (rat L i).1.length kx W r (by omega) (by omega))
      have C2 := hidIt (fun W (r : Mm.Rd W t.1 (Mm.markX (kx + 5 * (rat L i).1.length) (rat L i).2.length)) => Mm.heldS_any t.1 t.2.2 (rat L i).2.length (kx + 5 * (rat L i).1.length) W r (by omega) (by omega))
      have H1 : Hid (En.Rd wr s.1 (En.markX kx (rat L i).1.length)) := hidIt rE.rd
      have H2 : Hid (Mm.Rd wr t.1 (Mm.markX (kx + 5 * (rat L i).1.length) (rat L i).2.length)) := hidIt rM.rd
      clear rE rM hr
      obtain ⟨s0, s1, s2⟩ := s
      obtain ⟨t0, t1, t2⟩ := t
      simp only [sv] at c0 c1 l1 l2 C1 C2 H1 H2
      subst l1 l2
      have hkk : k + cost (L.take (i + 1)) = kx + 5 * (rat L i).1.length + 3 * (rat L i).2.length := by omega
      generalize (rat L i).1.length = n1 at *
      generalize (rat L i).2.length = n2 at *
      have hp1 : ¬ ((kx : Int) + 5 * (n1 : Int)) < 0 := by omega
      have hp2 : ¬ ((kx : Int) + 5 * (n1 : Int) + 3 * (n2 : Int)) < 0 := by omega
      go_wp2_with (fail)
      refine (C1.out _ H1.out).mono ?_
      rintro e w1 ⟨rfl, k1⟩
      have c1' : w1.cell? ⟨b, off + i * 2 + 1, none⟩ = some (.slice t0 n2 t2) := by rw [k1.cell (by simpa using World.block_lt_of_cell? _ _ c1)]; exact c1
      have HB1 := hidIt (on HB.out k1)
      have H3 := hidIt (H2.out.kept k1)
      clear k1 c0 c1
      go_wp2_with (fail)
      refine (C2.out _ H3.out).mono ?_
      rintro e w2 ⟨rfl, k2⟩
      have HB2 := hidIt (on HB1.out k2)
      clear k2
      go_wp2_with (fail)
      exact ⟨⟨i + 1, by simp, by rw [hkk]; first | rfl | (congr 1; omega), by omega, HB2⟩, by simp [intOf]; omega⟩
    · have hin' : ¬ (i : Int) < (m : Int) := by omega
      obtain rfl : i = m := by omega
      rw [HE.out]
      go_wp2_with (fail)
      go_ret
      first | exact ⟨rfl, HB.out⟩ | exact ⟨by simp, HB.out⟩
end Go.Proofs.Ytllajhieocploaa.Rp
namespace Go.Proofs.Ytllajhieocploaa.Bk
set_option linter.unusedVariables false
/-- All of them joined, one after the other. -/
def whole (G : List (List En)) : List En := G.foldl mergeE []
def AllRis (G : List (List En)) : Prop := ∀ b ∈ G, Ris b
theorem pick_or (x y : Option En) : pickE x y = x ∨ pickE x y = y := by
  cases x with
  | none => exact .inr rfl
  | some a =>
    cases y with
    | none => exact .inl rfl
    | some b =>
      show some _ = some a ∨ some _ = some b
      cases newB b a
      · exact .inl rfl
      · exact .inr rfl
theorem merge_ris {A B : List En} (hA : Ris A) (hB : Ris B) : Ris (mergeE A B) := (merge_join A B hA hB).ris
theorem merge_look {A B : List En} (hA : Ris A) (hB : Ris B) (k : Bytes) : look (mergeE A B) k = pickE (look A k) (look B k) := (merge_join A B hA hB).at' k
/-- m is the Newest of all under the Key k. -/
structure Top (k : Bytes) (G : List (List En)) (m : Option En) : Prop where
  key : KeyAt k m
  ub : ∀ b ∈ G, pickE (look b k) m = m
  mem : m = none ∨ ∃ b ∈ G, look b k = m
theorem Top.none_of {k : Bytes} {G : List (List En)} (h : Top k G none) {b : List En} (hb : b ∈ G) : look b k = none := by
  have := h.ub b hb
  rw [pick_none_right] at this
  exact this
theorem Top.unique {k : Bytes} {G : List (List En)} {m m' : Option En} (h : Top k G m) (h' : Top k G m') : m = m' := by
  rcases h.mem with e | ⟨b, hb, e⟩
  · subst e
    rcases h'.mem with e' | ⟨b', hb', e'⟩
    · exact e'.symm
    · rw [← e', h.none_of hb']
  · rcases h'.mem with e' | ⟨b', hb', e'⟩
    · subst e'
      rw [← e, h'.none_of hb]
    · have h1 := h'.ub b hb
      have h2 := h.ub b' hb'
      rw [e] at h1
      rw [e'] at h2
      rw [← h2, ← pick_comm h.key h'.key, h1]
theorem pick_absorb {k : Bytes} {x y m : Option En} (hx : KeyAt k x) (hy : KeyAt k y) (hm : KeyAt k m) (h : pickE (pickE x y) m = m) : pickE x m = m ∧ pickE y m = m := by
  constructor
  · have e := h
    rw [pick_assoc hx hy hm] at e
    rw [← e, ← pick_assoc hx hx (pick_at hy hm), pick_self]
  · have e := h
    rw [pick_comm hx hy, pick_assoc hy hx hm] at e
    rw [← e, ← pick_assoc hy hy (pick_at hx hm), pick_self]
theorem fold_ris : ∀ (G : List (List En)) (A : List En), Ris A → AllRis G → Ris (G.foldl mergeE A)
  | [], A, hA, _ => hA
  | b :: G, A, hA, hG => fold_ris G (mergeE A b) (merge_ris hA (hG b (List.mem_cons_self ..))) (fun c hc => hG c (List.mem_cons_of_mem _ hc))
theorem fold_top (k : Bytes) : ∀ (G : List (List En)) (A : List En), Ris A → AllRis G → Top k (A :: G) (look (G.foldl mergeE A) k)
  | [], A, hA, _ => ⟨look_at _ _, fun b hb => by rw [List.mem_singleton.1 hb]; exact pick_self _, .inr ⟨A, List.mem_singleton.2 rfl, rfl⟩⟩
  | b :: G, A, hA, hG => by
    have hb := hG b (List.mem_cons_self ..)
    have ih := fold_top k G (mergeE A b) (merge_ris hA hb) (fun c hc => hG c (List.mem_cons_of_mem _ hc))
    have hu := ih.ub _ (List.mem_cons_self ..)
    rw [merge_look hA hb] at hu
    obtain ⟨u1, u2⟩ := pick_absorb (look_at A k) (look_at b k) ih.key hu
    refine ⟨ih.key, fun c hc => ?_, ?_⟩
    · rcases List.mem_cons.1 hc with rfl | hc
      · exact u1
      · rcases List.mem_cons.1 hc with rfl | hc
        · exact u2
        · exact ih.ub c (List.mem_cons_of_mem _ hc)
    · rcases ih.mem with e | ⟨c, hc, e⟩
      · exact .inl e
      · rcases List.mem_cons.1 hc with rfl | hc
        · rw [merge_look hA hb] at e
          rcases pick_or (look A k) (look b k) with q | q
          · exact .inr ⟨A, List.mem_cons_self .., q.symm.trans e⟩
          · exact .inr ⟨b, List.mem_cons_of_mem _ (List.mem_cons_self ..), q.symm.trans e⟩
        · exact .inr ⟨c, List.mem_cons_of_mem _ (List.mem_cons_of_mem _ hc), e⟩
theorem ris_nil : Ris [] := List.Pairwise.nil
theorem whole_ris {G : List (List En)} (h : AllRis G) : Ris (whole G) := fold_ris G [] ris_nil h
theorem whole_top {G : List (List En)} (h : AllRis G) (k : Bytes) : Top k G (look (whole G) k) := by
  have t := fold_top k G [] ris_nil h
  refine ⟨t.key, fun b hb => t.ub b (List.mem_cons_of_mem _ hb), ?_⟩
  rcases t.mem with e | ⟨b, hb, e⟩
  · exact .inl e
  · rcases List.mem_cons.1 hb with rfl | hb
    · exact .inl e.symm
    · exact .inr ⟨b, hb, e⟩
theorem whole_of {G : List (List En)} {W : List En} (h : AllRis G) (hW : Ris W) (t : ∀ k, Top k G (look W k)) : whole G = W :=
  ris_ext (whole_ris h) hW (fun k => (whole_top h k).unique (t k))
theorem whole_snoc (G : List (List En)) (b : List En) : whole (G ++ [b]) = mergeE (whole G) b := by
  unfold whole
  rw [List.foldl_append]
  rfl
theorem whole_one (b : List En) : whole [b] = b := mergeE_nil b
theorem merge_comm {A B : List En} (hA : Ris A) (hB : Ris B) : mergeE A B = mergeE B A := (merge_join A B hA hB).unique (merge_join B A hB hA).comm
theorem merge_of_le {A B : List En} (hA : Ris A) (hB : Ris B) (h : ∀ k, pickE (look A k) (look B k) = look B k) : mergeE A B = B :=
  (merge_join A B hA hB).unique ⟨hB, fun k => (h k).symm⟩
theorem merge_self {A : List En} (hA : Ris A) : mergeE A A = A := merge_of_le hA hA (fun k => pick_self _)
theorem merge_whole {G : List (List En)} (h : AllRis G) {b : List En} (hb : b ∈ G) : mergeE b (whole G) = whole G := merge_of_le (h b hb) (whole_ris h) (fun k => (whole_top h k).ub b hb)
/-- No more Keys, no longer. -/
theorem sub_len : ∀ (A B : List En), Ris A → Ris B → (∀ k, look B k = none → look A k = none) → A.length ≤ B.length
  | [], _, _, _, _ => Nat.zero_le _
  | a :: A, [], hA, _, h => by
    have := h a.key (look_nil _)
    rw [look_cons, if_pos rfl] at this
    cases this
  | a :: A, b :: B, hA, hB, h => by
    obtain ⟨a1, a2⟩ := ris_cons.1 hA
    obtain ⟨b1, b2⟩ := ris_cons.1 hB
    by_cases e : b.key = a.key
    · have := sub_len A B a2 b2 (fun k hk => by
        by_cases q : a.key = k
        · exact look_none_of (fun x hx e' => by have := a1 x hx; rw [e', q] at this; exact List.lt_irrefl _ this)
        · have h2 := h k (by rw [look_cons, if_neg (by rw [e]; exact q)]; exact hk)
          rw [look_cons, if_neg q] at h2
          exact h2)
      simp only [List.length_cons]
      omega
    · by_cases l : b.key < a.key
      · have := sub_len (a :: A) B hA b2 (fun k hk => by
          by_cases q : b.key = k
          · refine look_none_of (fun x hx e' => ?_)
            rcases List.mem_cons.1 hx with rfl | hx
            · rw [e', q] at l; exact List.lt_irrefl _ l
            · have := List.lt_trans l (a1 x hx)
              rw [e', q] at this
              exact List.lt_irrefl _ this
          · exact h k (by rw [look_cons, if_neg q]; exact hk))
        simp only [List.length_cons] at this ⊢
        omega
      · exfalso
        have := h a.key (look_none_of (fun x hx e' => by
          rcases List.mem_cons.1 hx with rfl | hx
          · exact e e'
          · have := b1 x hx; rw [e'] at this; exact l this))
        rw [look_cons, if_pos rfl] at this
        cases this
theorem len_whole {G : List (List En)} (h : AllRis G) {b : List En} (hb : b ∈ G) : b.length ≤ (whole G).length :=
  sub_len b _ (h b hb) (whole_ris h) (fun k hk => by have t := whole_top h k; rw [hk] at t; exact t.none_of hb)
theorem whole_mem {G : List (List En)} (h : AllRis G) {e : En} (he : e ∈ whole G) : ∃ b ∈ G, e ∈ b := by
  have hl := look_mem (whole_ris h) he
  rcases (whole_top h e.key).mem with q | ⟨b, hb, q⟩
  · rw [hl] at q; cases q
  · rw [hl] at q
    exact ⟨b, hb, (look_some q).1⟩
/-- One is told by another. -/
def at0 (G : List (List En)) (i : Nat) : List En := G.getD i []
theorem at0_mem {G : List (List En)} {i : Nat} (h : i < G.length) : at0 G i ∈ G := by
  unfold at0
  rw [List.getD_eq_getElem?_getD, List.getElem?_eq_getElem h]
  exact List.getElem_mem h
theorem at0_get {G : List (List En)} {i : Nat} (h : i < G.length) : at0 G i = G[i] := by
  unfold at0
  rw [List.getD_eq_getElem?_getD, List.getElem?_eq_getElem h]
  rfl
theorem at0_set {G : List (List En)} {i j : Nat} {x : List En} (h : i < G.length) : at0 (G.set i x) j = if i = j then x else at0 G j := by
  unfold at0
  rw [List.getD_eq_getElem?_getD, List.getD_eq_getElem?_getD, List.getElem?_set]
  by_cases e : i = j
  · subst e; simp [h]
  · simp [e]
def tell (G : List (List En)) (f t : Nat) : List (List En) := G.set t (mergeE (at0 G t) (at0 G f))
theorem tell_length (G : List (List En)) (f t : Nat) : (tell G f t).length = G.length := List.length_set ..
theorem tell_at {G : List (List En)} {f t i : Nat} (ht : t < G.length) : at0 (tell G f t) i = if t = i then mergeE (at0 G t) (at0 G f) else at0 G i := at0_set ht
theorem setAll_ris {G : List (List En)} {i : Nat} {x : List En} (h : AllRis G) (hx : Ris x) : AllRis (G.set i x) := by
  intro b hb
  rcases List.mem_or_eq_of_mem_set hb with q | q
  · exact h b q
  · rw [q]; exact hx
theorem tell_ris {G : List (List En)} {f t : Nat} (h : AllRis G) (hf : f < G.length) (ht : t < G.length) : AllRis (tell G f t) := setAll_ris h (merge_ris (h _ (at0_mem ht)) (h _ (at0_mem hf)))
/-- Told or not, together they know the same. -/
theorem tell_whole {G : List (List En)} {f t : Nat} (h : AllRis G) (hf : f < G.length) (ht : t < G.length) : whole (tell G f t) = whole G := by
  refine whole_of (tell_ris h hf ht) (whole_ris h) (fun k => ?_)
  have T := whole_top h k
  have rt := h _ (at0_mem ht)
  have rf := h _ (at0_mem hf)
  have ej := merge_look rt rf k
  have ut := T.ub _ (at0_mem ht)
  have uf := T.ub _ (at0_mem hf)
  refine ⟨T.key, fun b hb => ?_, ?_⟩
  · rcases List.mem_or_eq_of_mem_set hb with q | q
    · exact T.ub b q
    · rw [q, ej, pick_assoc (look_at _ k) (look_at _ k) T.key, uf, ut]
  · rcases T.mem with e | ⟨b, hb, e⟩
    · exact .inl e
    · obtain ⟨j, hj, rfl⟩ := List.mem_iff_getElem.1 hb
      by_cases q : t = j
      · subst q
        refine .inr ⟨mergeE (at0 G t) (at0 G f), ?_, ?_⟩
        · exact List.mem_iff_getElem.2 ⟨t, by rw [tell_length]; exact hj, by unfold tell; rw [List.getElem_set_self]⟩
        · rw [ej, at0_get hj, e, pick_comm T.key (look_at _ k)]
          exact uf
      · refine .inr ⟨G[j], ?_, e⟩
        exact List.mem_iff_getElem.2 ⟨j, by rw [tell_length]; exact hj, by unfold tell; rw [List.getElem_set_ne q]⟩
/-- From 0 to 1, from 1 to 2, and so on up to m. -/
def pass (G : List (List En)) (m : Nat) : List (List En) := (List.range m).foldl (fun G i => tell G i (i + 1)) G
theorem pass_succ (G : List (List En)) (m : Nat) : pass G (m + 1) = tell (pass G m) m (m + 1) := by
  unfold pass
  rw [List.range_succ, List.foldl_append]
  rfl
theorem pass_length (G : List (List En)) : ∀ m, (pass G m).length = G.length
  | 0 => rfl
  | m + 1 => by rw [pass_succ, tell_length, pass_length G m]
theorem pass_ris {G : List (List En)} (h : AllRis G) : ∀ m, m < G.length → AllRis (pass G m)
  | 0, _ => h
  | m + 1, hm => by rw [pass_succ]; exact tell_ris (pass_ris h m (by omega)) (by rw [pass_length]; omega) (by rw [pass_length]; exact hm)
theorem pass_whole {G : List (List En)} (h : AllRis G) : ∀ m, m < G.length → whole (pass G m) = whole G
  | 0, _ => rfl
  | m + 1, hm => by rw [pass_succ, tell_whole (pass_ris h m (by omega)) (by rw [pass_length]; omega) (by rw [pass_length]; exact hm), pass_whole h m (by omega)]
theorem take_ris {G : List (List En)} (h : AllRis G) (j : Nat) : AllRis (G.take j) := fun b hb => h b (List.mem_of_mem_take hb)
theorem take_whole {G : List (List En)} {j : Nat} (hj : j < G.length) : whole (G.take (j + 1)) = mergeE (whole (G.take j)) (at0 G j) := by
  rw [List.take_add_one, List.getElem?_eq_getElem hj, at0_get hj]
  exact whole_snoc _ _
theorem pass_at {G : List (List En)} (h : AllRis G) : ∀ m, m < G.length → ∀ j, at0 (pass G m) j = if j ≤ m then (if j < G.length then whole (G.take (j + 1)) else at0 G j) else at0 G j
  | 0, hm, j => by
    by_cases q : j ≤ 0
    · have : j = 0 := by omega
      subst this
      rw [if_pos (Nat.le_refl _), if_pos hm, take_whole hm, List.take_zero]
      exact (mergeE_nil _).symm
    · rw [if_neg q]
      rfl
  | m + 1, hm, j => by
    rw [pass_succ, tell_at (by rw [pass_length]; exact hm)]
    by_cases q : m + 1 = j
    · subst q
      rw [if_pos rfl, if_pos (Nat.le_refl _), if_pos hm, pass_at h m (by omega) (m + 1), if_neg (by omega), pass_at h m (by omega) m, if_pos (Nat.le_refl _), if_pos (by omega), take_whole hm]
      exact merge_comm (h _ (at0_mem hm)) (whole_ris (take_ris h _))
    · rw [if_neg q, pass_at h m (by omega) j]
      by_cases q2 : j ≤ m
      · rw [if_pos q2, if_pos (show j < G.length by omega), if_pos (show j ≤ m + 1 by omega)]
      · rw [if_neg q2, if_neg (show ¬ j ≤ m + 1 by omega)]
/-- Once around, and once more up to the last one. -/
def round1 (G : List (List En)) : List (List En) := if 1 < G.length then tell (pass G (G.length - 1)) (G.length - 1) 0 else pass G (G.length - 1)
def around (G : List (List En)) : List (List En) := pass (round1 G) (G.length - 1)
theorem round1_length (G : List (List En)) : (round1 G).length = G.length := by
  unfold round1
  split
  · rw [tell_length, pass_length]
  · rw [pass_length]
theorem around_length (G : List (List En)) : (around G).length = G.length := by
  unfold around
  rw [pass_length, round1_length]
theorem round1_ris {G : List (List En)} (h : AllRis G) (hn : 0 < G.length) : AllRis (round1 G) := by
  unfold round1
  split
  · exact tell_ris (pass_ris h _ (by omega)) (by rw [pass_length]; omega) (by rw [pass_length]; omega)
  · exact pass_ris h _ (by omega)
theorem round1_whole {G : List (List En)} (h : AllRis G) (hn : 0 < G.length) : whole (round1 G) = whole G := by
  unfold round1
  split
  · rw [tell_whole (pass_ris h _ (by omega)) (by rw [pass_length]; omega) (by rw [pass_length]; omega), pass_whole h _ (by omega)]
  · exact pass_whole h _ (by omega)
theorem round1_first {G : List (List En)} (h : AllRis G) (hn : 0 < G.length) : at0 (round1 G) 0 = whole G := by
  have et : G.take (G.length - 1 + 1) = G := by rw [show G.length - 1 + 1 = G.length by omega, List.take_length]
  unfold round1
  split
  · rename_i h1
    rw [tell_at (by rw [pass_length]; omega), if_pos rfl, pass_at h _ (by omega), if_pos (Nat.zero_le _), if_pos hn, pass_at h _ (by omega), if_pos (Nat.le_refl _), if_pos (by omega), et, take_whole hn, List.take_zero]
    show mergeE (mergeE [] (at0 G 0)) _ = _
    rw [mergeE_nil]
    exact merge_whole h (at0_mem hn)
  · rename_i h1
    have e1 : G.length = 1 := by omega
    rw [pass_at h _ (by omega), if_pos (Nat.zero_le _), if_pos hn]
    rw [show G.length - 1 = 0 by omega] at et
    rw [et]
/-- In the end all know what all knew together. -/
theorem around_at {G : List (List En)} (h : AllRis G) {j : Nat} (hj : j < G.length) : at0 (around G) j = whole G := by
  have hn : 0 < G.length := by omega
  have h1 := round1_ris h hn
  unfold around
  rw [pass_at h1 _ (by rw [round1_length]; omega), if_pos (by omega), if_pos (by rw [round1_length]; exact hj)]
  refine whole_of (take_ris h1 _) (whole_ris h) (fun k => ?_)
  have T := whole_top h1 k
  rw [round1_whole h hn] at T
  refine ⟨T.key, fun b hb => T.ub b (List.mem_of_mem_take hb), .inr ⟨at0 (round1 G) 0, ?_, by rw [round1_first h hn]⟩⟩
  rw [at0_get (by rw [round1_length]; exact hn)]
  exact List.mem_iff_getElem.2 ⟨0, by rw [List.length_take, round1_length]; omega, List.getElem_take⟩
theorem around_ris {G : List (List En)} (h : AllRis G) (hn : 0 < G.length) : AllRis (around G) := pass_ris (round1_ris h hn) _ (by rw [round1_length]; omega)
theorem around_eq {G : List (List En)} (h : AllRis G) : around G = List.replicate G.length (whole G) := by
  refine List.ext_getElem (by rw [around_length, List.length_replicate]) (fun j h1 h2 => ?_)
  rw [List.getElem_replicate, ← at0_get h1]
  rw [around_length] at h1
  exact around_at h h1
theorem rep_whole {n : Nat} {W : List En} (hW : Ris W) (hn : 0 < n) : whole (List.replicate n W) = W := by
  refine whole_of (fun b hb => by rw [(List.mem_replicate.1 hb).2]; exact hW) hW (fun k => ⟨look_at _ _, fun b hb => by rw [(List.mem_replicate.1 hb).2]; exact pick_self _, .inr ⟨W, List.mem_replicate.2 ⟨by omega, rfl⟩, rfl⟩⟩)
theorem around_whole {G : List (List En)} (h : AllRis G) (hn : 0 < G.length) : whole (around G) = whole G := by
  rw [around_eq h]
  exact rep_whole (whole_ris h) hn
theorem around_again {G : List (List En)} (h : AllRis G) (hn : 0 < G.length) : around (around G) = around G := by
  rw [around_eq (around_ris h hn), around_whole h hn, around_length, around_eq h]
end Go.Proofs.Ytllajhieocploaa.Bk
