/-
  Members as rows; Stronger of the specification.
  One Member more put into what two lists come to. (Written out of BokQ by wip/mkMem.py.)
  l12Merge of the specification. (Written out of BokJ by wip/mkMem.py.)
  MembersOk of the specification.
  Merged of the specification; what two lists of Members come to.
-/
import Derived.Test.YtllajhieocploaaGreatDoorBun1
import Derived.Test.YtllajhieocploaaGreatDoorMem2M
import Derived.Test.YtllajhieocploaaGreatDoorQuiet
import Derived.Handy
import Derived.Deep.RegionHeld3
import Derived.Laws.AppendOwnNone
import Derived.Deep.RegionWith
import Derived.Deep.Cut
import Derived.Deep.CutRange
import Derived.Test.YtllajhieocploaaGreatDoorBoxM
namespace Go.Proofs.YtllajhieocploaaGreatDoor.Mm
open Go.ChangeShapes Go.WideShapes Go.ChangeAt Go.RowKit
open Go.Proofs.YtllajhieocploaaGreatDoor.Rc (BelowBy BelowBy.one wp_region_below calls_below calls_same)
open Go.Proofs.YtllajhieocploaaGreatDoor.Mk (okE newB okBk look Ris)
set_option linter.unusedVariables false
def toE (x : Rw) : Mk.En := ⟨x.1, [], x.2.1, x.2.2, false⟩
theorem toE_inj {x y : Rw} (h : toE x = toE y) : x = y := by
  obtain ⟨a, b, c⟩ := x
  obtain ⟨a', b', c'⟩ := y
  simp only [toE, Mk.En.mk.injEq] at h
  obtain ⟨rfl, _, rfl, rfl, _⟩ := h
  rfl
abbrev toB (L : List Rw) : List Mk.En := L.map toE
theorem toB_inj {L M : List Rw} (h : toB L = toB M) : L = M := by
  induction L generalizing M with
  | nil => cases M with
    | nil => rfl
    | cons y M => cases h
  | cons x L ih => cases M with
    | nil => cases h
    | cons y M =>
      simp only [toB, List.map_cons, List.cons.injEq] at h
      rw [toE_inj h.1, ih h.2]
abbrev kat (L : List Rw) (i : Nat) : Int := (rat L i).1
theorem new_str (x y : Rw) : newB (toE x) (toE y) = (decide (y.2.1 < x.2.1) || (decide (x.2.1 = y.2.1) && decide (y.2.2 < x.2.2))) := by
  obtain ⟨a, b, c⟩ := x
  obtain ⟨a', b', c'⟩ := y
  unfold newB toE
  simp only
  by_cases h : b = b'
  · subst h
    rw [if_neg (by simp)]
    by_cases k : c = c'
    · subst k; simp
    · rw [if_pos k]; simp
  · rw [if_pos h]
    simp [h]
theorem ris_of {L : List Rw} (h : ∀ i, i + 1 < L.length → kat L i < kat L (i + 1)) : Ris (toB L) := by
  unfold Ris
  rw [List.pairwise_iff_getElem]
  have far : ∀ d i, i + d + 1 < L.length → kat L i < kat L (i + d + 1) := by
    intro d
    induction d with
    | zero => intro i hi; exact h i hi
    | succ d ih => intro i hi; exact Int.lt_trans (ih i (by omega)) (h (i + d + 1) hi)
  intro i j hi hj hij
  rw [List.length_map] at hi hj
  have := far (j - i - 1) i (by omega)
  rw [show i + (j - i - 1) + 1 = j by omega] at this
  unfold kat at this
  rw [rat_at hi, rat_at hj] at this
  rw [List.getElem_map, List.getElem_map]
  exact this
theorem ris_to {L : List Rw} (h : Ris (toB L)) (i : Nat) (hi : i + 1 < L.length) : kat L i < kat L (i + 1) := by
  unfold Ris at h
  rw [List.pairwise_iff_getElem] at h
  have := h i (i + 1) (by rw [List.length_map]; omega) (by rw [List.length_map]; exact hi) (by omega)
  rw [List.getElem_map, List.getElem_map] at this
  unfold kat
  rw [rat_at (by omega), rat_at hi]
  exact this
theorem book_yes {L : List Rw} (h1 : L.length ≤ 8) (h2 : ∀ i, i < L.length → okE (toE (rat L i)) = true) (h3 : ∀ i, i + 1 < L.length → kat L i < kat L (i + 1)) : okBk (toB L) = true := by
  refine Mk.ok_mk (by rw [List.length_map]; exact h1) (fun e he => ?_) (ris_of h3)
  obtain ⟨x, hx, rfl⟩ := List.mem_map.1 he
  obtain ⟨i, hi, rfl⟩ := List.mem_iff_getElem.1 hx
  have := h2 i hi
  rwa [rat_at hi] at this
theorem book_no1 {L : List Rw} (h : ¬ L.length ≤ 8) : okBk (toB L) = false := by
  cases e : okBk (toB L) with
  | false => rfl
  | true => exact absurd (by have := Mk.ok_len e; rwa [List.length_map] at this) h
theorem book_no2 {L : List Rw} {i : Nat} (hi : i < L.length) (h : okE (toE (rat L i)) = false) : okBk (toB L) = false := by
  cases e : okBk (toB L) with
  | false => rfl
  | true =>
    have := Mk.ok_all e (List.mem_map.2 ⟨_, rat_mem hi, rfl⟩)
    rw [h] at this
    cases this
theorem book_no3 {L : List Rw} {i : Nat} (hi : i + 1 < L.length) (h : ¬ kat L i < kat L (i + 1)) : okBk (toB L) = false := by
  cases e : okBk (toB L) with
  | false => rfl
  | true => exact absurd (ris_to (Mk.ok_ris e) i hi) h
end Go.Proofs.YtllajhieocploaaGreatDoor.Mm
namespace Go.Proofs.YtllajhieocploaaGreatDoor.Mk
set_option linter.unusedVariables false
theorem look_append (X Y : List En) (k : Int) : look (X ++ Y) k = (look X k).or (look Y k) := by
  unfold look
  rw [List.find?_append]
theorem join_more {A B J J' : List En} {b : En} (h : IsJoin A B J) (hb : look B b.key = none) (r : Ris J') (e : ∀ x, look J' x = if x = b.key then pickE (look J x) (some b) else look J x) : IsJoin A (B ++ [b]) J' := by
  refine ⟨r, fun x => ?_⟩
  rw [e x, h.at', look_append, look_cons, look_nil]
  by_cases hx : x = b.key
  · subst hx
    rw [if_pos rfl, if_pos rfl, hb, pick_none_right]
    rfl
  · rw [if_neg hx, if_neg (fun e => hx e.symm)]
    cases look B x <;> rfl
/-- The Key is there: the one than which the other is not Newer. -/
theorem set_ris {X Y : List En} {c b : En} (h : Ris (X ++ c :: Y)) (hk : c.key = b.key) : Ris (X ++ b :: Y) := by
  unfold Ris at h ⊢
  rw [List.pairwise_append, List.pairwise_cons] at h ⊢
  refine ⟨h.1, ⟨fun y hy => hk ▸ h.2.1.1 y hy, h.2.1.2⟩, fun x hx y hy => ?_⟩
  rcases List.mem_cons.1 hy with rfl | hy
  · rw [← hk]; exact h.2.2 x hx c (List.mem_cons_self ..)
  · exact h.2.2 x hx y (List.mem_cons_of_mem _ hy)
theorem mid_look {X Y : List En} {c : En} (h : Ris (X ++ c :: Y)) (x : Int) : look (X ++ c :: Y) x = if x = c.key then some c else look (X ++ Y) x := by
  unfold Ris at h
  rw [List.pairwise_append, List.pairwise_cons] at h
  rw [look_append, look_append, look_cons]
  by_cases hx : x = c.key
  · subst hx
    rw [if_pos rfl, if_pos rfl, look_none_of (fun e he e' => by have := h.2.2 e he c (List.mem_cons_self ..); rw [e'] at this; exact Int.lt_irrefl _ this)]
    rfl
  · rw [if_neg hx, if_neg (fun e => hx e.symm)]
theorem mid_none {X Y : List En} {c : En} (h : Ris (X ++ c :: Y)) : look (X ++ Y) c.key = none := by
  unfold Ris at h
  rw [List.pairwise_append, List.pairwise_cons] at h
  refine look_none_of (fun e he e' => ?_)
  rcases List.mem_append.1 he with he | he
  · have := h.2.2 e he c (List.mem_cons_self ..); rw [e'] at this; exact Int.lt_irrefl _ this
  · have := h.2.1.1 e he; rw [e'] at this; exact Int.lt_irrefl _ this
theorem join_set {A B X Y : List En} {c b : En} (h : IsJoin A B (X ++ c :: Y)) (hb : look B b.key = none) (hk : c.key = b.key) (hn : newB b c = true) : IsJoin A (B ++ [b]) (X ++ b :: Y) := by
  have r := set_ris h.ris hk
  refine join_more h hb r (fun x => ?_)
  rw [mid_look r, mid_look h.ris]
  by_cases hx : x = b.key
  · rw [if_pos hx, if_pos hx, if_pos (hx.trans hk.symm)]
    show _ = some (if newB b c = true then b else c)
    rw [if_pos hn]
  · rw [if_neg hx, if_neg hx, if_neg (fun e => hx (e.trans hk))]
theorem join_keep {A B X Y : List En} {c b : En} (h : IsJoin A B (X ++ c :: Y)) (hb : look B b.key = none) (hk : c.key = b.key) (hn : newB b c = false) : IsJoin A (B ++ [b]) (X ++ c :: Y) := by
  refine join_more h hb h.ris (fun x => ?_)
  rw [mid_look h.ris]
  by_cases hx : x = b.key
  · rw [if_pos (hx.trans hk.symm), if_pos hx]
    show _ = some (if newB b c = true then b else c)
    rw [hn, if_neg (by decide)]
  · rw [if_neg (fun e => hx (e.trans hk)), if_neg hx]
theorem join_ins {A B X Y : List En} {b : En} (h : IsJoin A B (X ++ Y)) (hb : look B b.key = none) (hX : ∀ e ∈ X, e.key < b.key) (hY : ∀ e ∈ Y, b.key < e.key) : IsJoin A (B ++ [b]) (X ++ b :: Y) := by
  have r : Ris (X ++ b :: Y) := by
    have := h.ris
    unfold Ris at this ⊢
    rw [List.pairwise_append] at this ⊢
    refine ⟨this.1, List.pairwise_cons.2 ⟨hY, this.2.1⟩, fun x hx y hy => ?_⟩
    rcases List.mem_cons.1 hy with rfl | hy
    · exact hX x hx
    · exact this.2.2 x hx y hy
  refine join_more h hb r (fun x => ?_)
  rw [mid_look r]
  by_cases hx : x = b.key
  · subst hx
    rw [if_pos rfl, if_pos rfl, mid_none r]
    rfl
  · rw [if_neg hx, if_neg hx]
theorem take_none {B : List En} (h : Ris B) {i : Nat} (hi : i < B.length) : look (B.take i) (B[i]).key = none := by
  refine look_none_of (fun e he e' => ?_)
  obtain ⟨j, hj, rfl⟩ := List.mem_iff_getElem.1 he
  rw [List.length_take] at hj
  unfold Ris at h
  rw [List.pairwise_iff_getElem] at h
  have := h j i (by omega) hi (by omega)
  rw [List.getElem_take] at e'
  rw [e'] at this
  exact Int.lt_irrefl _ this
theorem join_start {A : List En} (h : Ris A) : IsJoin A [] A := ⟨h, fun k => by rw [look_nil, pick_none_right]⟩
end Go.Proofs.YtllajhieocploaaGreatDoor.Mk
namespace Go.Proofs.YtllajhieocploaaGreatDoor.Mm
open Go.Proofs.YtllajhieocploaaGreatDoor.Mk (okE newB okBk look Ris IsJoin)
set_option linter.unusedVariables false
theorem toB_length (L : List Rw) : (toB L).length = L.length := List.length_map ..
theorem toB_at {L : List Rw} {i : Nat} (h : i < L.length) : (toB L)[i]'(by rw [toB_length]; exact h) = toE (rat L i) := by rw [rat_at h]; exact List.getElem_map ..
theorem split_at {M : List Rw} {k : Nat} (h : k < M.length) : M = M.take k ++ rat M k :: M.drop (k + 1) := by
  rw [rat_at h, List.getElem_cons_drop, List.take_append_drop]
/-- What l11Join has behind i Entries of the second book: one more. -/
theorem join_step {A B M : List Rw} {i k : Nat} (hB : Ris (toB B)) (hi : i < B.length) (h : IsJoin (toB A) ((toB B).take i) (toB M)) (hk : k ≤ M.length) (h1 : ∀ j, j < k → kat M j < kat B i) (h2 : k < M.length → ¬ kat M k < kat B i) :
    (∀ hk' : k < M.length, kat M k = kat B i → newB (toE (rat B i)) (toE (rat M k)) = true → IsJoin (toB A) ((toB B).take (i + 1)) (toB (M.set k (rat B i)))) ∧
    (∀ hk' : k < M.length, kat M k = kat B i → newB (toE (rat B i)) (toE (rat M k)) = false → IsJoin (toB A) ((toB B).take (i + 1)) (toB M)) ∧
    ((k < M.length → kat M k ≠ kat B i) → IsJoin (toB A) ((toB B).take (i + 1)) (toB (M.take k ++ rat B i :: M.drop k))) := by
  have hi' : i < (toB B).length := by rw [toB_length]; exact hi
  have hn := Mk.take_none hB hi'
  have et : (toB B).take (i + 1) = (toB B).take i ++ [toE (rat B i)] := by rw [List.take_add_one, List.getElem?_eq_getElem hi', toB_at hi]; rfl
  rw [toB_at hi] at hn
  rw [et]
  refine ⟨fun hk' e hnew => ?_, fun hk' e hnew => ?_, fun e => ?_⟩
  · rw [split_at hk'] at h
    simp only [toB, List.map_append, List.map_cons] at h ⊢
    rw [List.set_eq_take_append_cons_drop, if_pos hk']
    simp only [List.map_append, List.map_cons]
    exact Mk.join_set h hn e hnew
  · have h' := h
    rw [split_at hk'] at h'
    simp only [toB, List.map_append, List.map_cons] at h'
    have := Mk.join_keep h' hn e hnew
    rw [split_at hk']
    simp only [toB, List.map_append, List.map_cons]
    exact this
  · simp only [toB, List.map_append, List.map_cons]
    have hj : IsJoin (toB A) ((toB B).take i) ((M.take k).map toE ++ (M.drop k).map toE) := by rw [← List.map_append, List.take_append_drop]; exact h
    refine Mk.join_ins hj hn (fun x hx => ?_) (fun x hx => ?_)
    · obtain ⟨y, hy, rfl⟩ := List.mem_map.1 hx
      obtain ⟨j, hj, rfl⟩ := List.mem_iff_getElem.1 hy
      rw [List.length_take] at hj
      have := h1 j (by omega)
      unfold kat at this
      rw [rat_at (by omega)] at this
      rw [List.getElem_take]
      exact this
    · obtain ⟨y, hy, rfl⟩ := List.mem_map.1 hx
      obtain ⟨j, hj', rfl⟩ := List.mem_iff_getElem.1 hy
      rw [List.length_drop] at hj'
      have hk' : k < M.length := by omega
      have hlt : kat B i < kat M k := by
        rcases Classical.em (kat B i < kat M k) with h | h
        · exact h
        · exact absurd (Int.le_antisymm (Int.not_lt.1 h) (Int.not_lt.1 (h2 hk'))) (e hk')
      rw [List.getElem_drop]
      rcases Nat.eq_zero_or_pos j with hz | hp
      · subst hz
        unfold kat at hlt
        rw [rat_at hk'] at hlt
        exact hlt
      · have r := h.ris
        unfold Ris at r
        rw [List.pairwise_iff_getElem] at r
        have := r k (k + j) (by rw [toB_length]; exact hk') (by rw [toB_length]; omega) (by omega)
        rw [List.getElem_map, List.getElem_map] at this
        unfold kat at hlt
        rw [rat_at hk'] at hlt
        exact Int.lt_trans hlt this
end Go.Proofs.YtllajhieocploaaGreatDoor.Mm
namespace Go.Proofs.YtllajhieocploaaGreatDoor.Mm
open Go.ChangeShapes Go.WideShapes Go.ChangeAt Go.RowKit
open Go.Proofs.YtllajhieocploaaGreatDoor.Rc (BelowBy BelowBy.one wp_region_below calls_below calls_same)
open Go.Proofs.YtllajhieocploaaGreatDoor.Mk (okE newB okBk look Ris IsJoin)
set_option linter.unusedVariables false
/-- The three cells of a Member from place o of block b on. -/
abbrev five (w : World) (b o : Nat) (s u q : Int) : Prop := w.cell? ⟨b, o, none⟩ = some (.int .i64 s) ∧ w.cell? ⟨b, o + 1, none⟩ = some (.int .i64 u) ∧ w.cell? ⟨b, o + 2, none⟩ = some (.int .i64 q)
theorem five_kept {W w' : World} {b o : Nat} {s u q : Int} (k : Below W.heap.size W w') (h : five W b o s u q) : five w' b o s u q := by
  obtain ⟨h0, h1, h2⟩ := h
  exact ⟨by rw [k.cell (by simpa using cell_block h0)]; exact h0, by rw [k.cell (by simpa using cell_block h1)]; exact h1, by rw [k.cell (by simpa using cell_block h2)]; exact h2⟩
theorem five_rd {w : World} {b : Nat} {s u q : Int} (h : five w b 0 s u q) : Rd w (some ⟨b, 0, none⟩) [(s, u, q)] :=
  ⟨fun i hi => by
    have hi0 : i = 0 := by simp at hi; omega
    subst hi0
    refine ⟨b, 0, rfl, fun j hj => ?_⟩
    obtain ⟨h0, h1, h2⟩ := h
    match j, hj with
    | 0, _ => exact h0
    | 1, _ => exact h1
    | 2, _ => exact h2⟩
theorem five_grown {w w' : World} {r : Option Nat} {b o : Nat} {s u q : Int} (k : w.grownBy w' r) (h : five w b o s u q) (hr : some b ≠ r) : five w' b o s u q :=
  ⟨grown_cell1 k h.1 hr, grown_cell1 k h.2.1 hr, grown_cell1 k h.2.2 hr⟩
end Go.Proofs.YtllajhieocploaaGreatDoor.Mm
namespace Go.Proofs.YtllajhieocploaaGreatDoor.Mm
open Go.ChangeShapes Go.WideShapes Go.ChangeAt Go.RowKit
open Go.Proofs.YtllajhieocploaaGreatDoor.Rc (BelowBy BelowBy.one wp_region_below calls_below calls_same)
open Go.Proofs.YtllajhieocploaaGreatDoor.Mk (okE newB okBk look Ris)
set_option linter.unusedVariables false
def inB (n lo hi : Int) : Bool := decide (lo ≤ n) && decide (n ≤ hi)
theorem okE_eq (x : Rw) : okE (toE x) = (inB x.1 0 7 && (inB x.2.1 0 1000000 && inB x.2.2 0 2)) := by
  obtain ⟨a, b, c⟩ := x
  simp only [okE, toE, inB, Bool.and_assoc]
  rfl
set_option maxHeartbeats 2000000 in
theorem spec_l1In (n lo hi : Int) (w : World) : Calls Tryz.prog 55 #[.int .i64 n, .int .i64 lo, .int .i64 hi] w fun e w' => e = .returned (.bool (inB n lo hi)) ∧ w' = w := by
  unfold inB
  by_cases h : lo ≤ n
  · have h' : decide (lo ≤ n) = true := decide_eq_true h
    rw [h', Bool.true_and]
    go_enter Tryz.func55, Tryz.ntmps55
    go_wp2
    go_ret
    exact ⟨rfl, rfl⟩
  · have h' : decide (lo ≤ n) = false := decide_eq_false h
    rw [h', Bool.false_and]
    go_enter Tryz.func55, Tryz.ntmps55
    go_wp2
    go_ret
    exact ⟨rfl, rfl⟩
set_option maxHeartbeats 2000000 in
theorem spec_l9Time (n : Int) (w : World) : Calls Tryz.prog 38 #[.int .i64 n] w fun e w' => e = .returned (.bool (inB n 0 1000000)) ∧ w' = w := by
  have C := hidIt (fun W => spec_l1In n 0 1000000 W)
  go_enter Tryz.func38, Tryz.ntmps38
  go_wp2_with (fail)
  refine (C.out _).mono ?_
  rintro e w1 ⟨rfl, rfl⟩
  go_wp2_with (fail)
  go_ret
  exact ⟨rfl, rfl⟩
set_option maxRecDepth 100000 in
set_option maxHeartbeats 4000000 in
theorem spec_MembersOk (a : Option Addr) (cap : Nat) (L : List Rw) (w : World) (h : Rd w a L) (hl : L.length ≤ 9223372036854775807) :
    Calls Tryz.prog 20 #[.slice a L.length cap] w fun e w' => e = .returned (.bool (okBk (toB L))) ∧ Below w.heap.size w w' := by
  have N1 : Hid (¬ L.length ≤ 8 → okBk (toB L) = false) := hidIt book_no1
  have N2 : Hid (∀ i, i < L.length → okE (toE (rat L i)) = false → okBk (toB L) = false) := hidIt (fun i hi h => book_no2 hi h)
  have N3 : Hid (∀ i, i + 1 < L.length → ¬ kat L i < kat L (i + 1) → okBk (toB L) = false) := hidIt (fun i hi h => book_no3 hi h)
  have N4 : Hid (L.length ≤ 8 → (∀ i, i < L.length → okE (toE (rat L i)) = true) → (∀ i, i + 1 < L.length → kat L i < kat L (i + 1)) → okBk (toB L) = true) := hidIt book_yes
  generalize okBk (toB L) = r at N1 N2 N3 N4 ⊢
  have HR := hidIt h
  clear h
  generalize hn : L.length = m at *
  have HN := hidIt hn
  clear hn
  by_cases h80 : m ≤ 8
  · have h80' : ¬ (8 : Int) < (m : Int) := by omega
    go_enter Tryz.func20, Tryz.ntmps20
    go_wp2_with (fail)
    go_loopw [3] (fun y wx => ∃ i : Nat, y = .int .i64 i ∧ i ≤ m ∧ Hid (∀ j, j < i → okE (toE (rat L j)) = true) ∧ Hid (∀ j, j + 1 < i → kat L j < kat L (j + 1)) ∧ Hid (Below w.heap.size w wx)) (fun y _ => (m - intOf y).toNat)
    case atStart => exact ⟨0, rfl, by omega, hidIt (fun j hj => by omega), hidIt (fun j hj => by omega), hidIt (Below.refl _ _)⟩
    case round =>
      obtain ⟨i, rfl, hi, HO, HK, HB⟩ := hrel
      by_cases hin : i < m
      · have hin' : (i : Int) < (m : Int) := by omega
        have HRx := hidIt (HR.out.kept HB.out)
        obtain ⟨b, off, ea, c0, c1, c2⟩ := HRx.out.all (i := i) (by rw [HN.out]; exact hin)
        subst ea
        obtain ⟨ok, hok⟩ : ∃ ok, okE (toE (rat L i)) = ok := ⟨_, rfl⟩
        have HOK := hidIt hok
        rw [okE_eq] at hok
        have hkey : Hid (kat L i = (rat L i).1) := hidIt rfl
        generalize rat L i = x at c0 c1 c2 hok hkey
        obtain ⟨xi, xt, xs⟩ := x
        simp only at c0 c1 c2 hok hkey
        have C1 := hidIt (fun n lo hi W => spec_l1In n lo hi W)
        have C2 := hidIt (fun n W => spec_l9Time n W)
        obtain ⟨k1, e1⟩ : ∃ k, inB xi 0 7 = k := ⟨_, rfl⟩
        obtain ⟨k2, e2⟩ : ∃ k, inB xt 0 1000000 = k := ⟨_, rfl⟩
        obtain ⟨k3, e3⟩ : ∃ k, inB xs 0 2 = k := ⟨_, rfl⟩
        rw [e1, e2, e3] at hok
        have BX := hidIt (Bo.Box.new wr #[.int .i64 xi, .int .i64 xt, .int .i64 xs] 100)
        have HBz := hidIt (HB.out.alloc HB.out.size (.cells #[.int .i64 xi, .int .i64 xt, .int .i64 xs] 100))
        have HRz := hidIt (HRx.out.alloc (.cells #[.int .i64 xi, .int .i64 xt, .int .i64 xs] 100))
        cases ok with
        | false =>
          have er := N2.out i hin HOK.out
          subst er
          go_wp2_with (fail)
          generalize wr.alloc (.cells #[.int .i64 xi, .int .i64 xt, .int .i64 xs] 100) = wz at BX HBz HRz ⊢
          haveI := BelowBy.one wz
          have g0 := fun p : BelowBy wz => p.cell (BX.out.c 0 rfl)
          have g1 := fun p : BelowBy wz => p.cell (BX.out.c 1 rfl)
          have g2 := fun p : BelowBy wz => p.cell (BX.out.c 2 rfl)
          cases k1 <;> cases k2 <;> cases k3 <;> simp only [Bool.and_true, Bool.and_false, Bool.true_eq_false] at hok
          all_goals
            refine wp_region_below (by kernel_rfl) (by kernel_rfl) ?_
            repeat (go_big_quiet_step (first | (go_at_call 55; refine calls_same (C1.out _ _ _ _)) | (go_at_call 38; refine calls_same (C2.out _ _))))
            refine wpQuiet_nil ?_
            intro _ hw'
            obtain ⟨pq, rfl⟩ := hw'
            have HB1 := hidIt (HBz.out.trans (pq.h.mono HBz.out.size))
            generalize pq.world = w2 at HB1 ⊢
            clear g0 g1 g2
            go_wp2_with (fail)
            go_ret
            exact ⟨rfl, HB1.out⟩
        | true =>
          obtain ⟨rfl, rfl, rfl⟩ : k1 = true ∧ k2 = true ∧ k3 = true := by cases k1 <;> cases k2 <;> cases k3 <;> simp_all
          have HO' : Hid (∀ j, j < i + 1 → okE (toE (rat L j)) = true) := hidIt (fun j hj => by
            rcases Nat.lt_succ_iff_lt_or_eq.1 hj with h | h
            · exact HO.out j h
            · subst h; exact HOK.out)
          clear hok
          rcases Nat.eq_zero_or_pos i with hz | hp
          · subst hz
            simp only [Nat.zero_mul, Nat.add_zero] at c0 c1 c2
            go_wp2_with (fail)
            generalize wr.alloc (.cells #[.int .i64 xi, .int .i64 xt, .int .i64 xs] 100) = wz at BX HBz HRz ⊢
            haveI := BelowBy.one wz
            have g0 := fun p : BelowBy wz => p.cell (BX.out.c 0 rfl)
            have g1 := fun p : BelowBy wz => p.cell (BX.out.c 1 rfl)
            have g2 := fun p : BelowBy wz => p.cell (BX.out.c 2 rfl)
            refine wp_region_below (by kernel_rfl) (by kernel_rfl) ?_
            repeat (go_big_quiet_step (first | (go_at_call 55; refine calls_same (C1.out _ _ _ _)) | (go_at_call 38; refine calls_same (C2.out _ _))))
            refine wpQuiet_nil ?_
            intro _ hw'
            obtain ⟨pq, rfl⟩ := hw'
            have HB1 := hidIt (HBz.out.trans (pq.h.mono HBz.out.size))
            generalize pq.world = w2 at HB1 ⊢
            clear g0 g1 g2
            go_wp2_with (fail)
            exact ⟨⟨1, by simp, by omega, HO', hidIt (fun j hj => by omega), HB1⟩, by simp [intOf]; omega⟩
          · obtain ⟨j, rfl⟩ : ∃ j, i = j + 1 := ⟨i - 1, by omega⟩
            have hpos : (0 : Int) < ((j : Int) + 1) := by omega
            have hj8 : (j : Int) ≤ 8 := by omega
            have hj0 : (0 : Int) ≤ (j : Int) := by omega
            obtain ⟨pk, epk⟩ : ∃ pk, (rat L j).1 = pk := ⟨_, rfl⟩
            have hkj : Hid (kat L j = pk) := hidIt epk
            have EPK := hidIt epk
            clear epk
            go_wp2_with (fail)
            generalize wr.alloc (.cells #[.int .i64 xi, .int .i64 xt, .int .i64 xs] 100) = wz at BX HBz HRz ⊢
            haveI := BelowBy.one wz
            have g0 := fun p : BelowBy wz => p.cell (BX.out.c 0 rfl)
            have g1 := fun p : BelowBy wz => p.cell (BX.out.c 1 rfl)
            have g2 := fun p : BelowBy wz => p.cell (BX.out.c 2 rfl)
            obtain ⟨b', off', ea2, q0, _⟩ := HRz.out.all (i := j) (by rw [HN.out]; omega)
            cases ea2
            rw [EPK.out] at q0
            have k0 := fun p : BelowBy wz => p.cell q0
            clear q0
            by_cases hlt : pk < xi
            · have hd : decide (xi ≤ pk) = false := decide_eq_false (by omega)
              have HK' : Hid (∀ q, q + 1 < j + 1 + 1 → kat L q < kat L (q + 1)) := hidIt (fun q hq => by
                rcases Nat.lt_succ_iff_lt_or_eq.1 (show q + 1 < j + 1 + 1 from hq) with h | h
                · exact HK.out q h
                · have : q = j := by omega
                  subst this
                  rw [hkj.out, hkey.out]
                  exact hlt)
              clear hlt
              refine wp_region_below (by kernel_rfl) (by kernel_rfl) ?_
              repeat (go_big_quiet_step (first | (go_at_call 55; refine calls_same (C1.out _ _ _ _)) | (go_at_call 38; refine calls_same (C2.out _ _))))
              refine wpQuiet_nil ?_
              intro _ hw'
              obtain ⟨pq, rfl⟩ := hw'
              have HB1 := hidIt (HBz.out.trans (pq.h.mono HBz.out.size))
              generalize pq.world = w2 at HB1 ⊢
              clear g0 g1 g2 k0
              go_wp2_with (fail)
              exact ⟨⟨j + 1 + 1, by simp, by omega, HO', HK', HB1⟩, by simp [intOf]; omega⟩
            · have er := N3.out j (by omega) (by rw [hkj.out, hkey.out]; omega)
              have hd : decide (xi ≤ pk) = true := decide_eq_true (by omega)
              subst er
              clear hlt
              refine wp_region_below (by kernel_rfl) (by kernel_rfl) ?_
              repeat (go_big_quiet_step (first | (go_at_call 55; refine calls_same (C1.out _ _ _ _)) | (go_at_call 38; refine calls_same (C2.out _ _))))
              refine wpQuiet_nil ?_
              intro _ hw'
              obtain ⟨pq, rfl⟩ := hw'
              have HB1 := hidIt (HBz.out.trans (pq.h.mono HBz.out.size))
              generalize pq.world = w2 at HB1 ⊢
              clear g0 g1 g2 k0
              go_wp2_with (fail)
              go_ret
              exact ⟨rfl, HB1.out⟩
      · have hin' : ¬ (i : Int) < (m : Int) := by omega
        have HI : Hid (i = m) := hidIt (by omega)
        have er := N4.out h80 (fun j hj => HO.out j (by have := HI.out; omega)) (fun j hj => HK.out j (by have := HI.out; omega))
        subst er
        go_wp2_with (fail)
        go_ret
        exact ⟨rfl, HB.out⟩
  · have h80' : (8 : Int) < (m : Int) := by omega
    have er := N1.out h80
    subst er
    go_enter Tryz.func20, Tryz.ntmps20
    go_wp2
    go_ret
    exact ⟨rfl, Below.refl _ _⟩
end Go.Proofs.YtllajhieocploaaGreatDoor.Mm
namespace Go.Proofs.YtllajhieocploaaGreatDoor.Mk
set_option linter.unusedVariables false
theorem ris_short : ∀ (L : List En) (lo : Int), Ris L → (∀ e ∈ L, lo ≤ e.key ∧ e.key ≤ 7) → L.length ≤ (8 - lo).toNat
  | [], lo, _, _ => by simp
  | a :: L, lo, h, k => by
    obtain ⟨h1, h2⟩ := ris_cons.1 h
    have ha := k a (List.mem_cons_self ..)
    have := ris_short L (a.key + 1) h2 (fun e he => ⟨by have := h1 e he; omega, (k e (List.mem_cons_of_mem _ he)).2⟩)
    simp only [List.length_cons]
    omega
theorem okE_key {e : En} (h : okE e = true) : 0 ≤ e.key ∧ e.key ≤ 7 := by
  unfold okE at h
  simp only [Bool.and_eq_true, decide_eq_true_eq] at h
  exact ⟨h.1.1.1.1.1, h.1.1.1.1.2⟩
/-- What Merged answers. -/
def mergeB (A B : List En) : List En := if okBk A = true ∧ okBk B = true then mergeE A B else []
theorem merge_no {A B : List En} (h : ¬ (okBk A = true ∧ okBk B = true)) : mergeB A B = [] := if_neg h
theorem merge_of {A B J : List En} (hA : okBk A = true) (hB : okBk B = true) (h : IsJoin A B J) : mergeB A B = J := by
  unfold mergeB
  rw [if_pos ⟨hA, hB⟩]
  exact (merge_join A B (ok_ris hA) (ok_ris hB)).unique h
theorem merge_is {A B : List En} (hA : okBk A = true) (hB : okBk B = true) : IsJoin A B (mergeB A B) := by
  unfold mergeB
  rw [if_pos ⟨hA, hB⟩]
  exact merge_join A B (ok_ris hA) (ok_ris hB)
/-- What is merged is right. -/
theorem merge_ok {A B J : List En} (hA : okBk A = true) (hB : okBk B = true) (h : IsJoin A B J) : okBk J = true := by
  have hall : ∀ e ∈ J, okE e = true := fun e he => by
    rcases h.mem he with q | q
    · exact ok_all hA q
    · exact ok_all hB q
  exact ok_mk (ris_short J 0 h.ris (fun e he => okE_key (hall e he))) hall h.ris
theorem mergeB_ok (A B : List En) : okBk (mergeB A B) = true := by
  by_cases h : okBk A = true ∧ okBk B = true
  · exact merge_ok h.1 h.2 (merge_is h.1 h.2)
  · rw [merge_no h]; rfl
end Go.Proofs.YtllajhieocploaaGreatDoor.Mk
namespace Go.Proofs.YtllajhieocploaaGreatDoor.Mm
open Go.ChangeShapes Go.WideShapes Go.ChangeAt Go.RowKit
open Go.Proofs.YtllajhieocploaaGreatDoor.Mk (okE newB okBk look Ris IsJoin mergeB)
set_option linter.unusedVariables false
theorem merged_rows (A B : List Rw) : ∃ J : List Rw, toB J = mergeB (toB A) (toB B) := by
  by_cases h : okBk (toB A) = true ∧ okBk (toB B) = true
  · have j := Mk.merge_is h.1 h.2
    have all : ∀ M : List Mk.En, (∀ e ∈ M, e ∈ mergeB (toB A) (toB B)) → ∃ J : List Rw, toB J = M := by
      intro M
      induction M with
      | nil => intro _; exact ⟨[], rfl⟩
      | cons e M ih =>
        intro hM
        obtain ⟨J, hJ⟩ := ih (fun x hx => hM x (List.mem_cons_of_mem _ hx))
        obtain ⟨x, hx⟩ : ∃ x : Rw, toE x = e := by
          rcases j.mem (hM e (List.mem_cons_self ..)) with q | q
          · obtain ⟨x, _, hx⟩ := List.mem_map.1 q; exact ⟨x, hx⟩
          · obtain ⟨x, _, hx⟩ := List.mem_map.1 q; exact ⟨x, hx⟩
        exact ⟨x :: J, by rw [← hJ, ← hx]; rfl⟩
    exact all _ (fun e he => he)
  · exact ⟨[], by rw [Mk.merge_no h]; rfl⟩
end Go.Proofs.YtllajhieocploaaGreatDoor.Mm
