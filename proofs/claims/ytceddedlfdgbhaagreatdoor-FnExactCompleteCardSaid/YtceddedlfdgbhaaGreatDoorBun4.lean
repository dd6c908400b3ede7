/-
  BookOk of the specification.
  One Entry more put into what two books come to: at its place, or in the place of the one of its Key.
  Two books merged from their tops, the lesser Key first, and of one Key the Newer. No program in sight.
  l11Join of the specification: what two books come to, one Entry after the other.
  Joined, Written, ValueOf and Alive of the specification.
-/
import Derived.Test.YtceddedlfdgbhaaGreatDoorBun3
import Derived.Laws.AppendOwnNone
import Derived.Deep.RegionWith
import Derived.Deep.RegionHeld3
import Derived.Deep.Cut
import Derived.Deep.CutRange
import Derived.Test.YtceddedlfdgbhaaGreatDoorNameR
namespace Go.Proofs.YtceddedlfdgbhaaGreatDoor.En
open Go.ChangeShapes Go.WideShapes Go.ChangeAt Go.RowKit
open Go.Proofs.YtceddedlfdgbhaaGreatDoor.Rc (BelowBy BelowBy.one wp_region_below calls_below calls_same)
open Go.Proofs.YtceddedlfdgbhaaGreatDoor.Bk (Bytes okE newB okBk look Ris)
set_option linter.unusedVariables false
attribute [local go_sem] str_gtr str_leq
abbrev kat (L : List Rw) (i : Nat) : Bytes := bs (rat L i).1
theorem ris_of {L : List Rw} (h : ∀ i, i + 1 < L.length → kat L i < kat L (i + 1)) : Ris (toB L) := by
  unfold Ris
  rw [List.pairwise_iff_getElem]
  have far : ∀ d i, i + d + 1 < L.length → kat L i < kat L (i + d + 1) := by
    intro d
    induction d with
    | zero => intro i hi; exact h i hi
    | succ d ih => intro i hi; exact List.lt_trans (ih i (by omega)) (h (i + d + 1) hi)
  intro i j hi hj hij
  rw [List.length_map] at hi hj
  have := far (j - i - 1) i (by omega)
  rw [show i + (j - i - 1) + 1 = j by omega] at this
  unfold kat at this
  rw [rat_at hi, rat_at hj] at this
  rw [List.getElem_map, List.getElem_map]
  exact this
theorem ris_to {L : List Rw} (h : Ris (toB L)) (i : Nat) (hi : i + 1 < L.length) : kat L i < kat L (i + 1) := by
  unfold Ris at h
  rw [List.pairwise_iff_getElem] at h
  have := h i (i + 1) (by rw [List.length_map]; omega) (by rw [List.length_map]; exact hi) (by omega)
  rw [List.getElem_map, List.getElem_map] at this
  unfold kat
  rw [rat_at (by omega), rat_at hi]
  exact this
theorem book_yes {L : List Rw} (h1 : L.length ≤ 80) (h2 : ∀ i, i < L.length → okE (toE (rat L i)) = true) (h3 : ∀ i, i + 1 < L.length → kat L i < kat L (i + 1)) : okBk (toB L) = true := by
  refine Bk.ok_mk (by rw [List.length_map]; exact h1) (fun e he => ?_) (ris_of h3)
  obtain ⟨x, hx, rfl⟩ := List.mem_map.1 he
  obtain ⟨i, hi, rfl⟩ := List.mem_iff_getElem.1 hx
  have := h2 i hi
  rwa [rat_at hi] at this
theorem book_no1 {L : List Rw} (h : ¬ L.length ≤ 80) : okBk (toB L) = false := by
  cases e : okBk (toB L) with
  | false => rfl
  | true => exact absurd (by have := Bk.ok_len e; rwa [List.length_map] at this) h
theorem book_no2 {L : List Rw} {i : Nat} (hi : i < L.length) (h : okE (toE (rat L i)) = false) : okBk (toB L) = false := by
  cases e : okBk (toB L) with
  | false => rfl
  | true =>
    have := Bk.ok_all e (List.mem_map.2 ⟨_, rat_mem hi, rfl⟩)
    rw [h] at this
    cases this
theorem book_no3 {L : List Rw} {i : Nat} (hi : i + 1 < L.length) (h : ¬ kat L i < kat L (i + 1)) : okBk (toB L) = false := by
  cases e : okBk (toB L) with
  | false => rfl
  | true => exact absurd (ris_to (Bk.ok_ris e) i hi) h
set_option maxRecDepth 100000 in
set_option maxHeartbeats 8000000 in
theorem spec_BookOk (a : Option Addr) (cap : Nat) (L : List Rw) (w : World) (h : Rd w a L) (hl : L.length ≤ 9223372036854775807) (hs : ∀ i, i < L.length → (rat L i).1.size ≤ 9223372036854775807 ∧ (rat L i).2.1.size ≤ 9223372036854775807) :
    Calls Tryz.prog 33 #[.slice a L.length cap] w fun e w' => e = .returned (.bool (okBk (toB L))) ∧ Below w.heap.size w w' := by
  have N1 : Hid (¬ L.length ≤ 80 → okBk (toB L) = false) := hidIt book_no1
  have N2 : Hid (∀ i, i < L.length → okE (toE (rat L i)) = false → okBk (toB L) = false) := hidIt (fun i hi h => book_no2 hi h)
  have N3 : Hid (∀ i, i + 1 < L.length → ¬ kat L i < kat L (i + 1) → okBk (toB L) = false) := hidIt (fun i hi h => book_no3 hi h)
  have N4 : Hid (L.length ≤ 80 → (∀ i, i < L.length → okE (toE (rat L i)) = true) → (∀ i, i + 1 < L.length → kat L i < kat L (i + 1)) → okBk (toB L) = true) := hidIt book_yes
  generalize okBk (toB L) = r at N1 N2 N3 N4 ⊢
  have HR := hidIt h
  have HS := hidIt hs
  clear h hs
  generalize hn : L.length = m at *
  have HN := hidIt hn
  clear hn
  by_cases h80 : m ≤ 80
  · have h80' : ¬ (80 : Int) < (m : Int) := by omega
    go_enter Tryz.func33, Tryz.ntmps33
    go_wp2_with (fail)
    go_loopw [3] (fun y wx => ∃ i : Nat, y = .int .i64 i ∧ i ≤ m ∧ Hid (∀ j, j < i → okE (toE (rat L j)) = true) ∧ Hid (∀ j, j + 1 < i → kat L j < kat L (j + 1)) ∧ Hid (Below w.heap.size w wx)) (fun y _ => (m - intOf y).toNat)
    case atStart => exact ⟨0, rfl, by omega, hidIt (fun j hj => by omega), hidIt (fun j hj => by omega), hidIt (Below.refl _ _)⟩
    case round =>
      obtain ⟨i, rfl, hi, HO, HK, HB⟩ := hrel
      by_cases hin : i < m
      · have hin' : (i : Int) < (m : Int) := by omega
        have HRx := hidIt (HR.out.kept HB.out)
        obtain ⟨b, off, ea, c0, c1, c2, c3, c4⟩ := HRx.out.all (i := i) (by rw [HN.out]; exact hin)
        subst ea
        have CE := hidIt (fun W => spec_EntryOk (rat L i) W (HS.out i hin).1 (HS.out i hin).2)
        obtain ⟨ok, hok⟩ : ∃ ok, okE (toE (rat L i)) = ok := ⟨_, rfl⟩
        rw [hok] at CE
        have hkey : Hid (kat L i = bs (rat L i).1) := hidIt rfl
        have HOK := hidIt hok
        clear hok
        generalize rat L i = x at c0 c1 c2 c3 c4 CE hkey
        obtain ⟨xk, xv, xt, xn, xg⟩ := x
        simp only [rv] at CE c0 c1 c2 c3 c4
        haveI := BelowBy.one wr
        have g0 := fun p : BelowBy wr => p.cell c0
        have g1 := fun p : BelowBy wr => p.cell c1
        have g2 := fun p : BelowBy wr => p.cell c2
        have g3 := fun p : BelowBy wr => p.cell c3
        have g4 := fun p : BelowBy wr => p.cell c4
        cases ok with
        | false =>
          have er := N2.out i hin HOK.out
          subst er
          clear c0 c1 c2 c3 c4
          go_wp2_with (fail)
          refine wp_region_below (by kernel_rfl) (by kernel_rfl) ?_
          repeat (go_big_quiet_step (first | (go_at_call 55; refine calls_below (CE.out _))))
          refine wpQuiet_nil ?_
          intro _ hw'
          obtain ⟨pq, rfl⟩ := hw'
          have HB1 := hidIt (HB.out.trans (pq.h.mono HB.out.size))
          generalize pq.world = w2 at HB1 ⊢
          clear g0 g1 g2 g3 g4
          go_wp2_with (fail)
          go_ret
          exact ⟨rfl, HB1.out⟩
        | true =>
          have HO' : Hid (∀ j, j < i + 1 → okE (toE (rat L j)) = true) := hidIt (fun j hj => by
            rcases Nat.lt_succ_iff_lt_or_eq.1 hj with h | h
            · exact HO.out j h
            · subst h; exact HOK.out)
          rcases Nat.eq_zero_or_pos i with hz | hp
          · subst hz
            simp only [Nat.zero_mul, Nat.add_zero] at g0 g1 g2 g3 g4
            clear c0 c1 c2 c3 c4
            go_wp2_with (fail)
            refine wp_region_below (by kernel_rfl) (by kernel_rfl) ?_
            repeat (go_big_quiet_step (first | (go_at_call 55; refine calls_below (CE.out _))))
            refine wpQuiet_nil ?_
            intro _ hw'
            obtain ⟨pq, rfl⟩ := hw'
            have HB1 := hidIt (HB.out.trans (pq.h.mono HB.out.size))
            generalize pq.world = w2 at HB1 ⊢
            clear g0 g1 g2 g3 g4
            go_wp2_with (fail)
            exact ⟨⟨1, by simp, by omega, HO', hidIt (fun j hj => by omega), HB1⟩, by simp [intOf]; omega⟩
          · obtain ⟨j, rfl⟩ : ∃ j, i = j + 1 := ⟨i - 1, by omega⟩
            obtain ⟨b', off', ea, p0, _⟩ := HRx.out.all (i := j) (by rw [HN.out]; omega)
            cases ea
            have hkj : Hid (kat L j = bs (rat L j).1) := hidIt rfl
            generalize (rat L j).1 = pk at p0 hkj
            have k0 := fun p : BelowBy wr => p.cell p0
            have hless := less_of pk xk
            have hpos : (0 : Int) < ((j : Int) + 1) := by omega
            clear c0 c1 c2 c3 c4 p0
            by_cases hlt : bs pk < bs xk
            · rw [decide_eq_true hlt] at hless
              have HK' : Hid (∀ q, q + 1 < j + 1 + 1 → kat L q < kat L (q + 1)) := hidIt (fun q hq => by
                rcases Nat.lt_succ_iff_lt_or_eq.1 (show q + 1 < j + 1 + 1 from hq) with h | h
                · exact HK.out q h
                · have : q = j := by omega
                  subst this
                  rw [hkj.out, hkey.out]
                  exact hlt)
              clear hlt
              go_wp2_with (fail)
              refine wp_region_below (by kernel_rfl) (by kernel_rfl) ?_
              repeat (go_big_quiet_step (first | (go_at_call 55; refine calls_below (CE.out _))))
              refine wpQuiet_nil ?_
              intro _ hw'
              obtain ⟨pq, rfl⟩ := hw'
              have HB1 := hidIt (HB.out.trans (pq.h.mono HB.out.size))
              generalize pq.world = w2 at HB1 ⊢
              clear g0 g1 g2 g3 g4 k0
              go_wp2_with (fail)
              exact ⟨⟨j + 1 + 1, by simp, by omega, HO', HK', HB1⟩, by simp [intOf]; omega⟩
            · have er := N3.out j (by omega) (by rw [hkj.out, hkey.out]; exact hlt)
              rw [decide_eq_false hlt] at hless
              subst er
              clear hlt
              go_wp2_with (fail)
              refine wp_region_below (by kernel_rfl) (by kernel_rfl) ?_
              repeat (go_big_quiet_step (first | (go_at_call 55; refine calls_below (CE.out _))))
              refine wpQuiet_nil ?_
              intro _ hw'
              obtain ⟨pq, rfl⟩ := hw'
              have HB1 := hidIt (HB.out.trans (pq.h.mono HB.out.size))
              generalize pq.world = w2 at HB1 ⊢
              clear g0 g1 g2 g3 g4 k0
              go_wp2_with (fail)
              go_ret
              exact ⟨rfl, HB1.out⟩
      · have hin' : ¬ (i : Int) < (m : Int) := by omega
        have HI : Hid (i = m) := hidIt (by omega)
        have er := N4.out h80 (fun j hj => HO.out j (by have := HI.out; omega)) (fun j hj => HK.out j (by have := HI.out; omega))
        subst er
        go_wp2_with (fail)
        go_ret
        exact ⟨rfl, HB.out⟩
  · have h80' : (80 : Int) < (m : Int) := by omega
    have er := N1.out h80
    subst er
    go_enter Tryz.func33, Tryz.ntmps33
    go_wp2
    go_ret
    exact ⟨rfl, Below.refl _ _⟩
end Go.Proofs.YtceddedlfdgbhaaGreatDoor.En
namespace Go.Proofs.YtceddedlfdgbhaaGreatDoor.Bk
set_option linter.unusedVariables false
theorem look_append (X Y : List En) (k : Bytes) : look (X ++ Y) k = (look X k).or (look Y k) := by
  unfold look
  rw [List.find?_append]
theorem join_more {A B J J' : List En} {b : En} (h : IsJoin A B J) (hb : look B b.key = none) (r : Ris J') (e : ∀ x, look J' x = if x = b.key then pickE (look J x) (some b) else look J x) : IsJoin A (B ++ [b]) J' := by
  refine ⟨r, fun x => ?_⟩
  rw [e x, h.at', look_append, look_cons, look_nil]
  by_cases hx : x = b.key
  · subst hx
    rw [if_pos rfl, if_pos rfl, hb, pick_none_right]
    rfl
  · rw [if_neg hx, if_neg (fun e => hx e.symm)]
    cases look B x <;> rfl
/-- The Key is there: the one than which the other is not Newer. -/
theorem set_ris {X Y : List En} {c b : En} (h : Ris (X ++ c :: Y)) (hk : c.key = b.key) : Ris (X ++ b :: Y) := by
  unfold Ris at h ⊢
  rw [List.pairwise_append, List.pairwise_cons] at h ⊢
  refine ⟨h.1, ⟨fun y hy => hk ▸ h.2.1.1 y hy, h.2.1.2⟩, fun x hx y hy => ?_⟩
  rcases List.mem_cons.1 hy with rfl | hy
  · rw [← hk]; exact h.2.2 x hx c (List.mem_cons_self ..)
  · exact h.2.2 x hx y (List.mem_cons_of_mem _ hy)
theorem mid_look {X Y : List En} {c : En} (h : Ris (X ++ c :: Y)) (x : Bytes) : look (X ++ c :: Y) x = if x = c.key then some c else look (X ++ Y) x := by
  unfold Ris at h
  rw [List.pairwise_append, List.pairwise_cons] at h
  rw [look_append, look_append, look_cons]
  by_cases hx : x = c.key
  · subst hx
    rw [if_pos rfl, if_pos rfl, look_none_of (fun e he e' => by have := h.2.2 e he c (List.mem_cons_self ..); rw [e'] at this; exact List.lt_irrefl _ this)]
    rfl
  · rw [if_neg hx, if_neg (fun e => hx e.symm)]
theorem mid_none {X Y : List En} {c : En} (h : Ris (X ++ c :: Y)) : look (X ++ Y) c.key = none := by
  unfold Ris at h
  rw [List.pairwise_append, List.pairwise_cons] at h
  refine look_none_of (fun e he e' => ?_)
  rcases List.mem_append.1 he with he | he
  · have := h.2.2 e he c (List.mem_cons_self ..); rw [e'] at this; exact List.lt_irrefl _ this
  · have := h.2.1.1 e he; rw [e'] at this; exact List.lt_irrefl _ this
theorem join_set {A B X Y : List En} {c b : En} (h : IsJoin A B (X ++ c :: Y)) (hb : look B b.key = none) (hk : c.key = b.key) (hn : newB b c = true) : IsJoin A (B ++ [b]) (X ++ b :: Y) := by
  have r := set_ris h.ris hk
  refine join_more h hb r (fun x => ?_)
  rw [mid_look r, mid_look h.ris]
  by_cases hx : x = b.key
  · rw [if_pos hx, if_pos hx, if_pos (hx.trans hk.symm)]
    show _ = some (if newB b c = true then b else c)
    rw [if_pos hn]
  · rw [if_neg hx, if_neg hx, if_neg (fun e => hx (e.trans hk))]
theorem join_keep {A B X Y : List En} {c b : En} (h : IsJoin A B (X ++ c :: Y)) (hb : look B b.key = none) (hk : c.key = b.key) (hn : newB b c = false) : IsJoin A (B ++ [b]) (X ++ c :: Y) := by
  refine join_more h hb h.ris (fun x => ?_)
  rw [mid_look h.ris]
  by_cases hx : x = b.key
  · rw [if_pos (hx.trans hk.symm), if_pos hx]
    show _ = some (if newB b c = true then b else c)
    rw [hn, if_neg (by decide)]
  · rw [if_neg (fun e => hx (e.trans hk)), if_neg hx]
theorem join_ins {A B X Y : List En} {b : En} (h : IsJoin A B (X ++ Y)) (hb : look B b.key = none) (hX : ∀ e ∈ X, e.key < b.key) (hY : ∀ e ∈ Y, b.key < e.key) : IsJoin A (B ++ [b]) (X ++ b :: Y) := by
  have r : Ris (X ++ b :: Y) := by
    have := h.ris
    unfold Ris at this ⊢
    rw [List.pairwise_append] at this ⊢
    refine ⟨this.1, List.pairwise_cons.2 ⟨hY, this.2.1⟩, fun x hx y hy => ?_⟩
    rcases List.mem_cons.1 hy with rfl | hy
    · exact hX x hx
    · exact this.2.2 x hx y hy
  refine join_more h hb r (fun x => ?_)
  rw [mid_look r]
  by_cases hx : x = b.key
  · subst hx
    rw [if_pos rfl, if_pos rfl, mid_none r]
    rfl
  · rw [if_neg hx, if_neg hx]
theorem take_none {B : List En} (h : Ris B) {i : Nat} (hi : i < B.length) : look (B.take i) (B[i]).key = none := by
  refine look_none_of (fun e he e' => ?_)
  obtain ⟨j, hj, rfl⟩ := List.mem_iff_getElem.1 he
  rw [List.length_take] at hj
  unfold Ris at h
  rw [List.pairwise_iff_getElem] at h
  have := h j i (by omega) hi (by omega)
  rw [List.getElem_take] at e'
  rw [e'] at this
  exact List.lt_irrefl _ this
theorem join_start {A : List En} (h : Ris A) : IsJoin A [] A := ⟨h, fun k => by rw [look_nil, pick_none_right]⟩
end Go.Proofs.YtceddedlfdgbhaaGreatDoor.Bk
namespace Go.Proofs.YtceddedlfdgbhaaGreatDoor.En
open Go.Proofs.YtceddedlfdgbhaaGreatDoor.Bk (Bytes okE newB okBk look Ris IsJoin)
set_option linter.unusedVariables false
theorem toB_length (L : List Rw) : (toB L).length = L.length := List.length_map ..
theorem toB_at {L : List Rw} {i : Nat} (h : i < L.length) : (toB L)[i]'(by rw [toB_length]; exact h) = toE (rat L i) := by rw [rat_at h]; exact List.getElem_map ..
theorem split_at {M : List Rw} {k : Nat} (h : k < M.length) : M = M.take k ++ rat M k :: M.drop (k + 1) := by
  rw [rat_at h, List.getElem_cons_drop, List.take_append_drop]
/-- What l11Join has behind i Entries of the second book: one more. -/
theorem join_step {A B M : List Rw} {i k : Nat} (hB : Ris (toB B)) (hi : i < B.length) (h : IsJoin (toB A) ((toB B).take i) (toB M)) (hk : k ≤ M.length) (h1 : ∀ j, j < k → kat M j < kat B i) (h2 : k < M.length → ¬ kat M k < kat B i) :
    (∀ hk' : k < M.length, kat M k = kat B i → newB (toE (rat B i)) (toE (rat M k)) = true → IsJoin (toB A) ((toB B).take (i + 1)) (toB (M.set k (rat B i)))) ∧
    (∀ hk' : k < M.length, kat M k = kat B i → newB (toE (rat B i)) (toE (rat M k)) = false → IsJoin (toB A) ((toB B).take (i + 1)) (toB M)) ∧
    ((k < M.length → kat M k ≠ kat B i) → IsJoin (toB A) ((toB B).take (i + 1)) (toB (M.take k ++ rat B i :: M.drop k))) := by
  have hi' : i < (toB B).length := by rw [toB_length]; exact hi
  have hn := Bk.take_none hB hi'
  have et : (toB B).take (i + 1) = (toB B).take i ++ [toE (rat B i)] := by rw [List.take_add_one, List.getElem?_eq_getElem hi', toB_at hi]; rfl
  rw [toB_at hi] at hn
  rw [et]
  refine ⟨fun hk' e hnew => ?_, fun hk' e hnew => ?_, fun e => ?_⟩
  · rw [split_at hk'] at h
    simp only [toB, List.map_append, List.map_cons] at h ⊢
    rw [List.set_eq_take_append_cons_drop, if_pos hk']
    simp only [List.map_append, List.map_cons]
    exact Bk.join_set h hn e hnew
  · have h' := h
    rw [split_at hk'] at h'
    simp only [toB, List.map_append, List.map_cons] at h'
    have := Bk.join_keep h' hn e hnew
    rw [split_at hk']
    simp only [toB, List.map_append, List.map_cons]
    exact this
  · simp only [toB, List.map_append, List.map_cons]
    have hj : IsJoin (toB A) ((toB B).take i) ((M.take k).map toE ++ (M.drop k).map toE) := by rw [← List.map_append, List.take_append_drop]; exact h
    refine Bk.join_ins hj hn (fun x hx => ?_) (fun x hx => ?_)
    · obtain ⟨y, hy, rfl⟩ := List.mem_map.1 hx
      obtain ⟨j, hj, rfl⟩ := List.mem_iff_getElem.1 hy
      rw [List.length_take] at hj
      have := h1 j (by omega)
      unfold kat at this
      rw [rat_at (by omega)] at this
      rw [List.getElem_take]
      exact this
    · obtain ⟨y, hy, rfl⟩ := List.mem_map.1 hx
      obtain ⟨j, hj', rfl⟩ := List.mem_iff_getElem.1 hy
      rw [List.length_drop] at hj'
      have hk' : k < M.length := by omega
      have hlt : kat B i < kat M k := by
        rcases Classical.em (kat B i < kat M k) with h | h
        · exact h
        · exact absurd (Bk.lt_total (h2 hk') h) (e hk')
      rw [List.getElem_drop]
      rcases Nat.eq_zero_or_pos j with hz | hp
      · subst hz
        unfold kat at hlt
        rw [rat_at hk'] at hlt
        exact hlt
      · have r := h.ris
        unfold Ris at r
        rw [List.pairwise_iff_getElem] at r
        have := r k (k + j) (by rw [toB_length]; exact hk') (by rw [toB_length]; omega) (by omega)
        rw [List.getElem_map, List.getElem_map] at this
        unfold kat at hlt
        rw [rat_at hk'] at hlt
        exact List.lt_trans hlt this
end Go.Proofs.YtceddedlfdgbhaaGreatDoor.En
namespace Go.Proofs.YtceddedlfdgbhaaGreatDoor.Bk
set_option linter.unusedVariables false
/-- Is a ahead of b? -/
def lessE (a b : En) : Bool := decide (a.key < b.key) || (decide (a.key = b.key) && newB a b)
theorem lessE_lt {a b : En} (h : a.key < b.key) : lessE a b = true := by unfold lessE; rw [decide_eq_true h]; rfl
theorem lessE_gt {a b : En} (h : ¬ a.key < b.key) (k : a.key ≠ b.key) : lessE a b = false := by unfold lessE; rw [decide_eq_false h, decide_eq_false k]; rfl
theorem lessE_eq {a b : En} (h : ¬ a.key < b.key) (k : a.key = b.key) : lessE a b = newB a b := by unfold lessE; rw [decide_eq_false h, decide_eq_true k]; simp
/-- e stays if x comes behind it. -/
def Ahead (e x : En) : Prop := e.key < x.key ∨ (e.key = x.key ∧ newB x e = false)
theorem ahead_of {a b : En} (h : lessE b a = false) : Ahead a b := by
  unfold lessE at h
  rw [Bool.or_eq_false_iff, decide_eq_false_iff_not] at h
  by_cases k : a.key < b.key
  · exact .inl k
  · have e : a.key = b.key := lt_total k h.1
    refine .inr ⟨e, ?_⟩
    have := h.2
    rw [decide_eq_true e.symm, Bool.true_and] at this
    exact this
theorem ahead_lt {a b c : En} (h : Ahead a b) (k : b.key < c.key) : Ahead a c := by
  rcases h with h | h
  · exact .inl (List.lt_trans h k)
  · exact .inl (by rw [h.1]; exact k)
/-- What J comes to with x behind it. -/
def putE (J : List En) (x : En) : List En := if J.getLast?.map (·.key) = some x.key then J else J ++ [x]
theorem ris_right {L M : List En} (h : Ris (L ++ M)) : Ris M := (List.pairwise_append.1 h).2.1
theorem ris_cross {L M : List En} (h : Ris (L ++ M)) {a b : En} (ha : a ∈ L) (hb : b ∈ M) : a.key < b.key := (List.pairwise_append.1 h).2.2 a ha b hb
theorem look_more (L : List En) (x : En) (k : Bytes) (h : ∀ e ∈ L, e.key ≠ x.key) : look (L ++ [x]) k = if x.key = k then some x else look L k := by
  unfold look
  rw [List.find?_append]
  by_cases e : x.key = k
  · rw [if_pos e, List.find?_eq_none.2 (fun y hy => by have := h y hy; rw [e] at this; simpa using this)]
    simp [e]
  · rw [if_neg e]
    have : List.find? (fun e => decide (e.key = k)) [x] = none := by simp [e]
    rw [this, Option.or_none]
theorem last_of {J : List En} (h : Ris J) {l e : En} (hl : J.getLast? = some l) (he : e ∈ J) : e = l ∨ e.key < l.key := by
  obtain ⟨J0, rfl⟩ : ∃ J0, J = J0 ++ [l] := by
    obtain ⟨ys, e⟩ := List.getLast?_eq_some_iff.1 hl
    exact ⟨ys, e⟩
  rcases List.mem_append.1 he with h' | h'
  · exact .inr (ris_cross h h' (by simp))
  · exact .inl (by simpa using h')
theorem pick_none {x y : Option En} (h : pickE x y = none) : x = none ∧ y = none := by
  cases x with
  | none => exact ⟨rfl, h⟩
  | some a => cases y <;> cases h
theorem put_join {A1 B1 J X : List En} {x : En} (h : IsJoin A1 B1 J) (hA : Ris (A1 ++ x :: X)) (ha : ∀ e ∈ J, Ahead e x) : IsJoin (A1 ++ [x]) B1 (putE J x) := by
  have hx : ∀ e ∈ A1, e.key ≠ x.key := fun e he e' => by have := ris_cross hA he (List.mem_cons_self ..); rw [e'] at this; exact List.lt_irrefl _ this
  have nA : look A1 x.key = none := look_none_of hx
  unfold putE
  by_cases hc : J.getLast?.map (·.key) = some x.key
  · rw [if_pos hc]
    obtain ⟨l, hl, hk⟩ := Option.map_eq_some_iff.1 hc
    have hm : l ∈ J := List.mem_of_getLast? hl
    have hJ : look J x.key = some l := by rw [← hk]; exact look_mem h.ris hm
    refine ⟨h.ris, fun k => ?_⟩
    rw [look_more _ _ _ hx]
    by_cases e : x.key = k
    · rw [if_pos e, ← e]
      have hB : look B1 x.key = some l := by
        have := h.at' x.key
        rw [hJ, nA] at this
        exact this.symm
      rw [hJ, hB]
      have hn : newB x l = false := by
        rcases ha l hm with h' | h'
        · rw [hk] at h'; exact absurd h' (List.lt_irrefl _)
        · exact h'.2
      show some l = some _
      cases hq : newB l x with
      | true => simp
      | false => simp [en_ext hk hq hn]
    · rw [if_neg e]
      exact h.at' k
  · rw [if_neg hc]
    have hs : ∀ e ∈ J, e.key < x.key := by
      intro e he
      rcases ha e he with h' | h'
      · exact h'
      · cases hl : J.getLast? with
        | none => rw [List.getLast?_eq_none_iff.1 hl] at he; cases he
        | some l =>
          have hm : l ∈ J := List.mem_of_getLast? hl
          have hne : l.key ≠ x.key := fun e' => hc (by rw [hl]; simp [e'])
          have hlx : l.key < x.key := by
            rcases ha l hm with h2 | h2
            · exact h2
            · exact absurd h2.1 hne
          rcases last_of h.ris hl he with rfl | h2
          · exact hlx
          · exact List.lt_trans h2 hlx
    have hJ : ∀ e ∈ J, e.key ≠ x.key := fun e he e' => by have := hs e he; rw [e'] at this; exact List.lt_irrefl _ this
    refine ⟨List.pairwise_append.2 ⟨h.ris, by simp, fun a ha b hb => ?_⟩, fun k => ?_⟩
    · have : b = x := by simpa using hb
      rw [this]
      exact hs a ha
    · rw [look_more _ _ _ hx, look_more _ _ _ hJ]
      by_cases e : x.key = k
      · rw [if_pos e, if_pos e]
        have h0 := h.at' x.key
        rw [look_none_of hJ] at h0
        rw [← e, (pick_none h0.symm).2]
        rfl
      · rw [if_neg e, if_neg e]
        exact h.at' k
/-- What has gone into J; X and Y are still to come. -/
structure Mg (A B J X Y : List En) : Prop where
  parts : ∃ A1 B1, IsJoin A1 B1 J ∧ ((A = A1 ++ X ∧ B = B1 ++ Y) ∨ (A = A1 ++ Y ∧ B = B1 ++ X))
  ahead : ∀ e ∈ J, ∀ x, (x ∈ X ∨ x ∈ Y) → Ahead e x
  len : J.length + (X.length + Y.length) ≤ A.length + B.length
theorem Mg.start (A B : List En) : Mg A B [] A B := ⟨⟨[], [], ⟨List.Pairwise.nil, fun k => rfl⟩, .inl ⟨rfl, rfl⟩⟩, fun e he => absurd he (by simp), by simp⟩
theorem Mg.swap {A B J X Y : List En} (h : Mg A B J X Y) : Mg A B J Y X := by
  obtain ⟨⟨A1, B1, j, p⟩, q, l⟩ := h
  exact ⟨⟨A1, B1, j, p.symm⟩, fun e he x hx => q e he x hx.symm, by omega⟩
theorem put_len (J : List En) (x : En) : (putE J x).length ≤ J.length + 1 := by
  unfold putE
  split
  · omega
  · simp
theorem put_mem {J : List En} {x e : En} (h : e ∈ putE J x) : e ∈ J ∨ e = x := by
  unfold putE at h
  split at h
  · exact .inl h
  · simpa using h
theorem Mg.step {A B J X Y : List En} {x : En} (h : Mg A B J (x :: X) Y) (hA : Ris A) (hB : Ris B) (ht : ∀ y, Y.head? = some y → lessE y x = false) : Mg A B (putE J x) X Y := by
  obtain ⟨⟨A1, B1, j, p⟩, q, l⟩ := h
  have hX : ∀ z ∈ X, x.key < z.key := by
    rcases p with p | p
    · rw [p.1] at hA; exact (ris_cons.1 (ris_right hA)).1
    · rw [p.2] at hB; exact (ris_cons.1 (ris_right hB)).1
  have hY : Ris Y := by
    rcases p with p | p
    · rw [p.2] at hB; exact ris_right hB
    · rw [p.1] at hA; exact ris_right hA
  have hYx : ∀ y ∈ Y, Ahead x y := by
    cases Y with
    | nil => intro y hy; cases hy
    | cons y0 Y =>
      have h0 := ahead_of (ht y0 rfl)
      intro y hy
      rcases List.mem_cons.1 hy with rfl | hy
      · exact h0
      · exact ahead_lt h0 ((ris_cons.1 hY).1 y hy)
  have ha : ∀ e ∈ J, Ahead e x := fun e he => q e he x (.inl (List.mem_cons_self ..))
  refine ⟨?_, fun e he z hz => ?_, ?_⟩
  · rcases p with ⟨rfl, rfl⟩ | ⟨rfl, rfl⟩
    · exact ⟨A1 ++ [x], B1, put_join j hA ha, .inl ⟨by simp, rfl⟩⟩
    · exact ⟨A1, B1 ++ [x], (put_join j.comm hB ha).comm, .inr ⟨rfl, by simp⟩⟩
  · rcases put_mem he with he | rfl
    · rcases hz with hz | hz
      · exact q e he z (.inl (List.mem_cons_of_mem _ hz))
      · exact q e he z (.inr hz)
    · rcases hz with hz | hz
      · exact .inl (hX z hz)
      · exact hYx z hz
  · have := put_len J x
    simp at l
    omega
theorem Mg.join {A B J : List En} (h : Mg A B J [] []) : IsJoin A B J := by
  obtain ⟨⟨A1, B1, j, p⟩, _, _⟩ := h
  rcases p with ⟨rfl, rfl⟩ | ⟨rfl, rfl⟩
  · simpa using j
  · simpa using j
end Go.Proofs.YtceddedlfdgbhaaGreatDoor.Bk
namespace Go.Proofs.YtceddedlfdgbhaaGreatDoor.En
open Go.ChangeShapes Go.WideShapes Go.ChangeAt Go.RowKit
open Go.Proofs.YtceddedlfdgbhaaGreatDoor.Rc (BelowBy BelowBy.one wp_region_below calls_below calls_same)
open Go.Proofs.YtceddedlfdgbhaaGreatDoor.Bk (Bytes okE newB okBk look Ris IsJoin)
set_option linter.unusedVariables false
attribute [local go_sem] str_gtr str_leq
/-- The five cells of an Entry from place o of block b on. -/
abbrev five (w : World) (b o : Nat) (s u : ByteArray) (q m : Int) (f : Bool) : Prop := w.cell? ⟨b, o, none⟩ = some (.string s) ∧ w.cell? ⟨b, o + 1, none⟩ = some (.string u) ∧ w.cell? ⟨b, o + 2, none⟩ = some (.int .i64 q) ∧ w.cell? ⟨b, o + 3, none⟩ = some (.int .i64 m) ∧ w.cell? ⟨b, o + 4, none⟩ = some (.bool f)
theorem five_kept {W w' : World} {b o : Nat} {s u : ByteArray} {q m : Int} {f : Bool} (k : Below W.heap.size W w') (h : five W b o s u q m f) : five w' b o s u q m f := by
  obtain ⟨h0, h1, h2, h3, h4⟩ := h
  exact ⟨by rw [k.cell (by simpa using cell_block h0)]; exact h0, by rw [k.cell (by simpa using cell_block h1)]; exact h1, by rw [k.cell (by simpa using cell_block h2)]; exact h2, by rw [k.cell (by simpa using cell_block h3)]; exact h3, by rw [k.cell (by simpa using cell_block h4)]; exact h4⟩
theorem five_rd {w : World} {b : Nat} {s u : ByteArray} {q m : Int} {f : Bool} (h : five w b 0 s u q m f) : Rd w (some ⟨b, 0, none⟩) [(s, u, q, m, f)] :=
  ⟨fun i hi => by
    have hi0 : i = 0 := by simp at hi; omega
    subst hi0
    refine ⟨b, 0, rfl, fun j hj => ?_⟩
    obtain ⟨h0, h1, h2, h3, h4⟩ := h
    match j, hj with
    | 0, _ => exact h0
    | 1, _ => exact h1
    | 2, _ => exact h2
    | 3, _ => exact h3
    | 4, _ => exact h4⟩
theorem five_grown {w w' : World} {r : Option Nat} {b o : Nat} {s u : ByteArray} {q m : Int} {f : Bool} (k : w.grownBy w' r) (h : five w b o s u q m f) (hr : some b ≠ r) : five w' b o s u q m f :=
  ⟨grown_cell1 k h.1 hr, grown_cell1 k h.2.1 hr, grown_cell1 k h.2.2.1 hr, grown_cell1 k h.2.2.2.1 hr, grown_cell1 k h.2.2.2.2 hr⟩
set_option maxRecDepth 100000 in
set_option maxHeartbeats 32000000 in
theorem spec_l11Join (aA aB : Option Addr) (cA cB : Nat) (A B : List Rw) (w : World) (hA : Rd w aA A) (hB : Rd w aB B) (hnA : aA = none → cA = 0) (rA : Ris (toB A)) (rB : Ris (toB B)) (hl : A.length + B.length ≤ 900) :
    Calls Tryz.prog 58 #[.slice aA A.length cA, .slice aB B.length cB] w fun e w' => ∃ v J, e = .returned v ∧ v ≠ .slice none 0 0 ∧ Own w' w.heap.size v J ∧ IsJoin (toB A) (toB B) (toB J) ∧ J.length ≤ A.length + B.length ∧ Below w.heap.size w w' := by
  obtain ⟨i0, hi0, hz0, hz1, hz2⟩ := info_parts infoRw
  have HRA := hidIt hA
  have HRB := hidIt hB
  have HST := hidIt (fun i M k hi h hk h1 h2 => join_step (A := A) (B := B) (M := M) (i := i) (k := k) rB hi h hk h1 h2)
  have HS0 := hidIt (show IsJoin (toB A) ((toB B).take 0) (toB A) from by rw [List.take_zero]; exact Bk.join_start rA)
  have HSE : Hid ((toB B).take B.length = toB B) := hidIt (by rw [← toB_length, List.take_length])
  clear hA hB rA rB
  generalize hla : A.length = la at *
  generalize hlb : B.length = lb at *
  have HLA := hidIt hla
  have HLB := hidIt hlb
  clear hla hlb
  go_enter Tryz.func58, Tryz.ntmps58
  go_upto_region 1 with fail
  go_cut [5] from 9 (fun s5 wx => ∃ g cp : Nat, s5 = .slice (some ⟨g, 0, none⟩) la cp ∧ la ≤ cp ∧ cp ≤ 9223372036854775807 ∧ Hid (Own wx w.heap.size (.slice (some ⟨g, 0, none⟩) la cp) A) ∧ Hid (Below w.heap.size w wx))
  case first =>
    cases aA with
    | none =>
      have e := hnA rfl
      subst e
      have eA := HRA.out.none_nil
      have e0 : la = 0 := by rw [← HLA.out, eA]; rfl
      subst e0
      go_wp2_with (first | (at_builtin; refine wpList_append_own_none rfl _ _ 37 rfl w.heap.size 100 i0 5 Tryz.underlying37 hi0 _ _ _ rfl (Own.new w) rfl ?_))
      go_wp2_with (fail)
      go_meet
      case rel => exact ⟨_, 0, rfl, by omega, by omega, hidIt (by rw [eA]; exact Own.new w), hidIt ((Below.refl _ w).alloc (Nat.le_refl _) _)⟩
    | some x =>
      have hx : ∃ b off, x = ⟨b, off, none⟩ ∨ la = 0 := by
        rcases Nat.eq_zero_or_pos la with h | h
        · exact ⟨0, 0, .inr h⟩
        · obtain ⟨b, off, e, _⟩ := HRA.out.cell 0 (by rw [HLA.out]; exact h)
          cases e
          exact ⟨b, off, .inl rfl⟩
      have hcl : ∀ W : World, Below w.heap.size w W → ∀ j u, (rcells A)[j]? = some u → W.cell? (x.add j) = some u := by
        intro W k j u hj
        obtain ⟨b, off, h | h⟩ := hx
        · subst h
          exact (HRA.out.kept k).cells j u hj
        · have : A = [] := List.length_eq_zero_iff.1 (HLA.out.trans h)
          rw [this] at hj
          simp [rcells] at hj
      have HCL := hidIt hcl
      clear hx hcl
      go_wp2_with (first | (at_builtin; refine wpList_append_own _ rfl _ _ 37 rfl w.heap.size 100 i0 (.agg #[.string ByteArray.empty, .string ByteArray.empty, .int .i64 0, .int .i64 0, .bool false]) 5 56 Tryz.underlying37 hi0 hz0 hz1 hz2 rfl (by decide) _ 0 [] rfl (Own.new w) x la _ (rcells A) rfl (by rw [rcells_length, HLA.out]) (HCL.out _ ((Below.refl _ w).alloc (Nat.le_refl _) _)) (rcells_one _) ?c3 ?c4 ?c5 ?_))
      case c3 => unfold maxLen; omega
      case c4 => omega
      case c5 => simp
      intro v' w9 hown hgrow hnil
      have HO9 : Hid (Own w9 w.heap.size v' A) := hidIt (by
        unfold Own
        rw [HLA.out]
        first | exact hown | (rw [Nat.zero_add, List.nil_append] at hown; exact hown))
      have HB9 := hidIt (((Below.refl w.heap.size w).alloc (Nat.le_refl _) (.cells #[] 100)).grown hgrow (by simp) (fun z hz => by simp [Value.ownBlock] at hz; omega))
      have hv9 : v' ≠ .slice none 0 0 := by first | exact hnil | exact fun e => by have := (hnil.1 e).1; cases this
      obtain ⟨g9, c9, ev9, h9c, h9m, _, _⟩ := HO9.out.some_form hv9
      rw [HLA.out] at ev9 h9c
      subst ev9
      clear hown hgrow hnil hv9
      go_wp2_with (fail)
      go_meet
      case rel => exact ⟨g9, c9, rfl, h9c, h9m, HO9, HB9⟩
  case rest =>
    obtain ⟨g0, cp0, rfl, hc0, hm0, HO0, HB0⟩ := hcut
    clear HRA hnA
    go_wp2_with (fail)
    go_loopw [5, 6] (fun z y wx => ∃ (i : Nat) (M : List Rw) (g cp : Nat), y = .int .i64 i ∧ z = .slice (some ⟨g, 0, none⟩) M.length cp ∧ i ≤ lb ∧ M.length ≤ cp ∧ cp ≤ 9223372036854775807 ∧ M.length ≤ la + i ∧ Hid (Own wx w.heap.size (.slice (some ⟨g, 0, none⟩) M.length cp) M) ∧ Hid (IsJoin (toB A) ((toB B).take i) (toB M)) ∧ Hid (Below w.heap.size w wx)) (fun _ y _ => (lb - intOf y).toNat)
    case atStart => exact ⟨0, A, g0, cp0, rfl, by rw [HLA.out], by omega, by rw [HLA.out]; exact hc0, hm0, by rw [HLA.out]; omega, hidIt (by rw [HLA.out]; exact HO0.out), HS0, HB0⟩
    case round =>
      obtain ⟨i, M, g, cp, rfl, rfl, hi, hmc, hcm, hml, HO, HM, HB⟩ := hrel
      clear HO0 HB0 hc0 hm0 HS0
      by_cases hin : i < lb
      · have hin' : (i : Int) < (lb : Int) := by omega
        obtain ⟨b, off, ea, x0, x1, x2, x3, x4⟩ := (HRB.out.kept HB.out).all (i := i) (by rw [HLB.out]; exact hin)
        subst ea
        have HJ := hidIt (fun k hk h1 h2 => HST.out i M k hin HM.out hk h1 h2)
        have hkb : Hid (kat B i = bs (rat B i).1) := hidIt rfl
        generalize rat B i = x at x0 x1 x2 x3 x4 HJ hkb
        generalize kat B i = kb at HJ hkb
        obtain ⟨s, u, q, m, f⟩ := x
        simp only at x0 x1 x2 x3 x4 hkb
        have HF : Hid (five wr b (off + i * 5) s u q m f) := hidIt ⟨x0, x1, x2, x3, x4⟩
        clear x0 x1 x2 x3 x4 HM
        generalize hmm : M.length = mm at *
        have HML := hidIt hmm
        clear hmm
        generalize wr = wB at *
        go_wp2_with (fail)
        go_hide hQ1
        go_loopw [7] (fun y wx => ∃ k : Nat, y = .int .i64 k ∧ k ≤ mm ∧ Hid (∀ j, j < k → kat M j < kb) ∧ Hid (Below wB.heap.size wB wx)) (fun y _ => (mm - intOf y).toNat)
        case atStart => exact ⟨0, rfl, by omega, hidIt (fun j hj => by omega), hidIt (Below.refl _ _)⟩
        case round =>
          obtain ⟨k, rfl, hk, HK, HBk⟩ := hrel
          have HOk := hidIt (HO.out.kept HBk.out)
          obtain ⟨x0, x1, x2, x3, x4⟩ := five_kept HBk.out HF.out
          haveI := BelowBy.one wr
          have g0 := fun p : BelowBy wr => p.cell x0
          by_cases hkm : k < mm
          · have hkm' : (k : Int) < (mm : Int) := by omega
            have hd : decide ((k : Int) < (mm : Int)) = true := decide_eq_true hkm'
            have hkM : k < M.length := by rw [HML.out]; exact hkm
            have y0 := HOk.out.at hkM (j := 0) (by omega)
            have y1 := HOk.out.at hkM (j := 1) (by omega)
            have y2 := HOk.out.at hkM (j := 2) (by omega)
            have y3 := HOk.out.at hkM (j := 3) (by omega)
            have y4 := HOk.out.at hkM (j := 4) (by omega)
            simp only [rcell, Nat.add_zero] at y0 y1 y2 y3 y4
            have HV := hidIt (show kat M k = bs (rat M k).1 from rfl)
            have HIk := hidIt (HJ.out k (by omega) HK.out)
            have CNw := hidIt (fun W => spec_Newer (s, u, q, m, f) (rat M k) W)
            generalize rat M k = y at y0 y1 y2 y3 y4 HV HIk CNw
            generalize hkM2 : kat M k = km at HV HIk
            have HKM := hidIt hkM2
            clear hkM2
            obtain ⟨s', u', q', m', f'⟩ := y
            simp only [rv] at y0 y1 y2 y3 y4 HV CNw
            have f0 := fun p : BelowBy wr => p.cell y0
            have hless := less_of s' s
            by_cases hlt : bs s' < bs s
            · rw [decide_eq_true hlt] at hless
              have hlt' : Hid (km < kb) := hidIt (by rw [HV.out, hkb.out]; exact hlt)
              clear hlt x0 x1 x2 x3 x4 y0 y1 y2 y3 y4
              go_wp2_with (fail)
              refine wp_region_below (by kernel_rfl) (by kernel_rfl) ?_
              repeat (go_big_quiet_step (fail))
              refine wpQuiet_nil ?_
              intro _ hw'
              obtain ⟨pq, rfl⟩ := hw'
              have HB2 := hidIt (HBk.out.trans (pq.h.mono HBk.out.size))
              generalize pq.world = w2 at HB2 ⊢
              clear f0 g0
              go_wp2_with (fail)
              refine ⟨⟨k + 1, by simp, by omega, hidIt (fun j hj => ?_), HB2⟩, by simp [intOf]; omega⟩
              rcases Nat.lt_or_ge j k with h' | h'
              · exact HK.out j h'
              · obtain rfl : j = k := by omega
                rw [HKM.out]
                exact hlt'.out
            · rw [decide_eq_false hlt] at hless
              have hnl : Hid (¬ km < kb) := hidIt (by rw [HV.out, hkb.out]; exact hlt)
              have HI2 := hidIt (HIk.out (fun _ => hnl.out))
              have heq := eq_of s' s
              clear hlt
              go_wp2_with (fail)
              refine wp_region_below (by kernel_rfl) (by kernel_rfl) ?_
              repeat (go_big_quiet_step (fail))
              refine wpQuiet_nil ?_
              intro _ hw'
              obtain ⟨pq, rfl⟩ := hw'
              have k1 := pq.h
              generalize pq.world = w1 at k1 ⊢
              have HB1 := hidIt (HBk.out.trans (k1.mono HBk.out.size))
              have HO1 := hidIt (HOk.out.kept k1)
              have HF1 := hidIt (five_kept HB1.out HF.out)
              have HY1 : Hid (five w1 g (k * 5) s' u' q' m' f') := hidIt (five_kept k1 ⟨y0, y1, y2, y3, y4⟩)
              clear f0 g0 k1 x0 x1 x2 x3 x4 y0 y1 y2 y3 y4 HOk hless
              obtain ⟨z0, z1, z2, z3, z4⟩ := HF1.out
              obtain ⟨y0, y1, y2, y3, y4⟩ := HY1.out
              haveI := BelowBy.one w1
              have g0 := fun p : BelowBy w1 => p.cell z0
              have f0 := fun p : BelowBy w1 => p.cell y0
              by_cases hes : bs s' = bs s
              · rw [decide_eq_true hes] at heq
                have hek : Hid (km = kb) := hidIt (by rw [HV.out, hkb.out]; exact hes)
                have g1 := fun p : BelowBy w1 => p.cell z1
                have g2 := fun p : BelowBy w1 => p.cell z2
                have g3 := fun p : BelowBy w1 => p.cell z3
                have g4 := fun p : BelowBy w1 => p.cell z4
                have f1 := fun p : BelowBy w1 => p.cell y1
                have f2 := fun p : BelowBy w1 => p.cell y2
                have f3 := fun p : BelowBy w1 => p.cell y3
                have f4 := fun p : BelowBy w1 => p.cell y4
                clear hes z0 z1 z2 z3 z4 y0 y1 y2 y3 y4
                go_wp2_with (fail)
                subst hQ1
                go_wp2_with (fail)
                refine wp_region_below (by kernel_rfl) (by kernel_rfl) ?_
                repeat (go_big_quiet_step (fail))
                refine wpQuiet_nil ?_
                intro _ hw'
                obtain ⟨pq, rfl⟩ := hw'
                have k2 := pq.h
                generalize pq.world = w2 at k2 ⊢
                haveI := BelowBy.one w2
                have g0' := fun p : BelowBy w2 => (g0 ⟨p.world, k2.trans (p.h.mono k2.size)⟩)
                have g1' := fun p : BelowBy w2 => (g1 ⟨p.world, k2.trans (p.h.mono k2.size)⟩)
                have g2' := fun p : BelowBy w2 => (g2 ⟨p.world, k2.trans (p.h.mono k2.size)⟩)
                have g3' := fun p : BelowBy w2 => (g3 ⟨p.world, k2.trans (p.h.mono k2.size)⟩)
                have g4' := fun p : BelowBy w2 => (g4 ⟨p.world, k2.trans (p.h.mono k2.size)⟩)
                have f0' := fun p : BelowBy w2 => (f0 ⟨p.world, k2.trans (p.h.mono k2.size)⟩)
                have f1' := fun p : BelowBy w2 => (f1 ⟨p.world, k2.trans (p.h.mono k2.size)⟩)
                have f2' := fun p : BelowBy w2 => (f2 ⟨p.world, k2.trans (p.h.mono k2.size)⟩)
                have f3' := fun p : BelowBy w2 => (f3 ⟨p.world, k2.trans (p.h.mono k2.size)⟩)
                have f4' := fun p : BelowBy w2 => (f4 ⟨p.world, k2.trans (p.h.mono k2.size)⟩)
                simp only at f0' f1' f2' f3' f4' g0' g1' g2' g3' g4'
                have HB2 := hidIt (HB1.out.trans (k2.mono HB1.out.size))
                have HO2 := hidIt (HO1.out.kept k2)
                have HF2 := hidIt (five_kept k2 HF1.out)
                clear f0 f1 f2 f3 f4 g0 g1 g2 g3 g4 k2
                obtain ⟨nw, hnw⟩ : ∃ nw, newB (toE (s, u, q, m, f)) (toE (s', u', q', m', f')) = nw := ⟨_, rfl⟩
                rw [hnw] at CNw
                have HNW := hidIt hnw
                clear hnw
                go_wp2_with (fail)
                refine wp_region_below (by kernel_rfl) (by kernel_rfl) ?_
                repeat (go_big_quiet_step (first | (go_at_call 77; refine calls_below (CNw.out _))))
                refine wpQuiet_nil ?_
                intro _ hw'
                obtain ⟨pq, rfl⟩ := hw'
                have k3 := pq.h
                generalize pq.world = w3 at k3 ⊢
                have HB3 := hidIt (HB2.out.trans (k3.mono HB2.out.size))
                have HO3 := hidIt (HO2.out.kept k3)
                have HF3 := hidIt (five_kept k3 HF2.out)
                clear f0' f1' f2' f3' f4' g0' g1' g2' g3' g4' k3
                have HB3w := hidIt (HB.out.trans (HB3.out.mono HB.out.size))
                have hkM3 : k < M.length := by rw [HML.out]; exact hkm
                cases nw with
                | false =>
                  go_wp2_with (fail)
                  exact ⟨⟨i + 1, M, g, cp, by simp, by rw [HML.out], by omega, by rw [HML.out]; exact hmc, hcm, by rw [HML.out]; omega, hidIt (by rw [HML.out]; exact HO3.out), hidIt ((HI2.out).2.1 hkm hek.out HNW.out), HB3w⟩, by simp [intOf]; omega⟩
                | true =>
                  obtain ⟨z0, z1, z2, z3, z4⟩ := HF3.out
                  have y0 := HO3.out.at hkM3 (j := 0) (by omega)
                  have y1 := HO3.out.at hkM3 (j := 1) (by omega)
                  have y2 := HO3.out.at hkM3 (j := 2) (by omega)
                  have y3 := HO3.out.at hkM3 (j := 3) (by omega)
                  have y4 := HO3.out.at hkM3 (j := 4) (by omega)
                  simp only [rcell, Nat.add_zero] at y0 y1 y2 y3 y4
                  have q0 := HO3.out.free (k * 5)
                  have q1 := HO3.out.free (k * 5 + 1)
                  have q2 := HO3.out.free (k * 5 + 2)
                  have q3 := HO3.out.free (k * 5 + 3)
                  have q4 := HO3.out.free (k * 5 + 4)
                  have HO4 := hidIt (HO3.out.whole hkM3 (s, u, q, m, f))
                  have hgB : w.heap.size ≤ g := by obtain ⟨cur, h, _⟩ := own_row HO3.out; exact h
                  have HB4 := hidIt (((((HB3w.out.setCell (p := ⟨g, k * 5, none⟩) hgB (.string s)).setCell (p := ⟨g, k * 5 + 1, none⟩) hgB (.string u)).setCell (p := ⟨g, k * 5 + 2, none⟩) hgB (.int .i64 q)).setCell (p := ⟨g, k * 5 + 3, none⟩) hgB (.int .i64 m)).setCell (p := ⟨g, k * 5 + 4, none⟩) hgB (.bool f))
                  go_wp2_with (fail)
                  exact ⟨⟨i + 1, M.set k (s, u, q, m, f), g, cp, by simp, by rw [List.length_set, HML.out], by omega, by rw [List.length_set, HML.out]; exact hmc, hcm, by rw [List.length_set, HML.out]; omega, hidIt (by rw [List.length_set, HML.out]; exact HO4.out), hidIt ((HI2.out).1 hkm hek.out HNW.out), HB4⟩, by simp [intOf]; omega⟩
              · rw [decide_eq_false hes] at heq
                have hnk : Hid (km ≠ kb) := hidIt (by rw [HV.out, hkb.out]; exact hes)
                have HFI := hidIt ((HI2.out).2.2 (fun _ => hnk.out))
                clear hes z0 z1 z2 z3 z4 y0 y1 y2 y3 y4 HI2 HIk HJ
                go_wp2_with (fail)
                subst hQ1
                go_wp2_with (fail)
                refine wp_region_below (by kernel_rfl) (by kernel_rfl) ?_
                repeat (go_big_quiet_step (fail))
                refine wpQuiet_nil ?_
                intro _ hw'
                obtain ⟨pq, rfl⟩ := hw'
                have k2 := pq.h
                generalize pq.world = w2 at k2 ⊢
                have HB2 := hidIt (HB1.out.trans (k2.mono HB1.out.size))
                have HO2 := hidIt (HO1.out.kept k2)
                have HF2 := hidIt (five_kept k2 HF1.out)
                have HBw := hidIt (HB.out.trans (HB2.out.mono HB.out.size))
                have hkm2 : (k : Int) ≤ (mm : Int) := by omega
                have hkle : k ≤ mm := by omega
                clear k2 f0 g0
                have HTl : Hid ((M.take k).length = k) := hidIt (by rw [List.length_take, HML.out]; omega)
                have HDl : Hid ((M.drop k).length = mm - k) := hidIt (by rw [List.length_drop, HML.out])
                have HE2 : Hid ((w2.alloc (.cells #[] 100)).ownsRow w.heap.size 100 5 (.slice (some ⟨w2.heap.size, 0, none⟩) 0 0) 0 []) := hidIt ((Own.new w2).mono HBw.out.size)
                by_cases hck : cp = k
                · have HPC := hidIt (fun W (hO : Own W w.heap.size (.slice (some ⟨g, 0, none⟩) mm cp) M) => show ∀ j u, (rcells (M.drop k))[j]? = some u → W.cell? ((⟨g, 0, none⟩ : Addr).add j) = some u from fun j u hj => by
                    have hd : M.drop k = [] := List.length_eq_zero_iff.1 (by rw [HDl.out]; omega)
                    rw [hd] at hj
                    simp [rcells] at hj)
                  go_wp2_with (first | (at_builtin; refine wpList_append_own _ rfl _ _ 37 rfl w.heap.size 100 i0 (.agg #[.string ByteArray.empty, .string ByteArray.empty, .int .i64 0, .int .i64 0, .bool false]) 5 56 Tryz.underlying37 hi0 hz0 hz1 hz2 rfl (by decide) _ 0 [] rfl HE2.out ⟨g, 0, none⟩ _ _ (rcells (M.drop k)) rfl (by rw [rcells_length, HDl.out]; try omega) (HPC.out _ (HO2.out.alloc _)) (rcells_one _) ?c3 ?c4 ?c5 ?_))
                  case c3 => unfold maxLen; omega
                  case c4 => omega
                  case c5 => have := HBw.out.size; simp; omega
                  intro v7 w7 hown7 hgrow7 hnil7
                  have W7 := hidIt (((Below.refl w2.heap.size w2).alloc (Nat.le_refl _) (.cells #[] 100)).grown hgrow7 (by simp) (fun z hz => by simp [Value.ownBlock] at hz; omega))
                  have HO7 : Hid (Own w7 w.heap.size v7 (M.drop k)) := hidIt (by
                    unfold Own
                    rw [HDl.out]
                    first | exact hown7 | (rw [Nat.zero_add, List.nil_append] at hown7; exact hown7))
                  have hv7 : v7 ≠ .slice none 0 0 := by first | exact hnil7 | exact fun e => by have := (hnil7.1 e).1; cases this
                  obtain ⟨g7, c7, ev7, h7c, h7m, h7b, h7l⟩ := HO7.out.some_form hv7
                  rw [HDl.out] at ev7 h7c
                  subst ev7
                  have HM7 := hidIt (HO2.out.kept W7.out)
                  have HF7 := hidIt (five_kept W7.out HF2.out)
                  have HB7 := hidIt (HBw.out.trans (W7.out.mono HBw.out.size))
                  clear hown7 hgrow7 hnil7 hv7 HE2
                  go_wp2_with (fail)
                  have HE8 : Hid (Own ((w7.alloc (.cells #[] 100)).drew) w7.heap.size (.slice (some ⟨w7.heap.size, 0, none⟩) 0 0) []) := hidIt (Own.new w7).drew
                  have B8a := hidIt (((Below.refl w7.heap.size w7).alloc (Nat.le_refl _) (.cells #[] 100)).drew)
                  have HE8' : Hid (Own (((w7.alloc (.cells #[] 100)).alloc (.cells #[.string s, .string u, .int .i64 q, .int .i64 m, .bool f] 100)).drew) w7.heap.size (.slice (some ⟨w7.heap.size, 0, none⟩) 0 0) []) := hidIt (((Own.new w7).alloc (.cells #[.string s, .string u, .int .i64 q, .int .i64 m, .bool f] 100)).drew)
                  have B8a' := hidIt ((((Below.refl w7.heap.size w7).alloc (Nat.le_refl _) (.cells #[] 100)).alloc (by simp) (.cells #[.string s, .string u, .int .i64 q, .int .i64 m, .bool f] 100)).drew)
                  have HXa : Hid (five (((w7.alloc (.cells #[] 100)).alloc (.cells #[.string s, .string u, .int .i64 q, .int .i64 m, .bool f] 100)).drew) (w7.heap.size + 1) 0 s u q m f) := hidIt ⟨by simp, by simp, by simp, by simp, by simp⟩
                  have HMa' := hidIt (HM7.out.kept B8a'.out)
                  have HE9 : Hid (Own (((w7.alloc (.cells #[.string s, .string u, .int .i64 q, .int .i64 m, .bool f] 100)).alloc (.cells #[] 100)).drew) w7.heap.size (.slice (some ⟨w7.heap.size + 1, 0, none⟩) 0 0) []) := hidIt (by have := ((Own.new (w7.alloc (.cells #[.string s, .string u, .int .i64 q, .int .i64 m, .bool f] 100))).mono (b' := w7.heap.size) (by simp)).drew; simpa using this)
                  have B9a := hidIt ((((Below.refl w7.heap.size w7).alloc (Nat.le_refl _) (.cells #[.string s, .string u, .int .i64 q, .int .i64 m, .bool f] 100)).alloc (by simp) (.cells #[] 100)).drew)
                  have HXc : Hid (five (((w7.alloc (.cells #[.string s, .string u, .int .i64 q, .int .i64 m, .bool f] 100)).alloc (.cells #[] 100)).drew) w7.heap.size 0 s u q m f) := hidIt ⟨by simp, by simp, by simp, by simp, by simp⟩
                  have HMd := hidIt (HM7.out.kept B9a.out)
                  have B9z := hidIt (((Below.refl w7.heap.size w7).alloc (Nat.le_refl _) (.cells #[.string s, .string u, .int .i64 q, .int .i64 m, .bool f] 100)).drew)
                  have HMa := hidIt (HM7.out.kept B8a.out)
                  have hf := HF7.out
                  have S0 : five w7.drew b (off + i * 5) s u q m f := hf
                  have S1 : five (w7.alloc (.cells #[] 100)).drew b (off + i * 5) s u q m f := five_kept B8a.out hf
                  have S2 : five ((w7.alloc (.cells #[] 100)).alloc (.cells #[.string s, .string u, .int .i64 q, .int .i64 m, .bool f] 100)).drew b (off + i * 5) s u q m f := five_kept B8a'.out hf
                  have S3 : five ((w7.alloc (.cells #[.string s, .string u, .int .i64 q, .int .i64 m, .bool f] 100)).alloc (.cells #[] 100)).drew b (off + i * 5) s u q m f := five_kept B9a.out hf
                  have S4 : five (w7.alloc (.cells #[.string s, .string u, .int .i64 q, .int .i64 m, .bool f] 100)).drew b (off + i * 5) s u q m f := five_kept B9z.out hf
                  have hkc1 : (k : Int) ≤ (cp : Int) := by omega
                  have hkc2 : (0 : Int) ≤ (k : Int) := by omega
                  go_region_held3 (fun w' => five w' b (off + i * 5) s u q m f)
                    (first | (with_reducible assumption) | (with_reducible exact five_kept B8.out hf) | (with_reducible exact five_kept (B8.out.alloc B8.out.size _) hf) | (with_reducible exact five_kept B9.out hf) | (with_reducible exact five_kept B10.out hf) | (trace_state; fail))
                    (first
                    | (refine step_append (by rfl) (.tmp 75) (.tmp 78) (by rfl) w7.heap.size (.slice (some ⟨w7.heap.size, 0, none⟩) 0 0) [] (M.take k) (by simp [Act.eval]) HE8.out ⟨g, 0, none⟩ k cp HTl.out (by simp [Act.eval] <;> omega) (HMa.out.front k (by rw [HML.out]; omega)) (by simp; omega) (by simp) ?_; intro v8 w8 o8 gr8 nil8; have B8 := hidIt (B8a.out.grown gr8 (by simp) (fun z hz => by simp [Value.ownBlock] at hz; omega)); have HO8 := hidIt o8; clear o8 gr8)
                    | (refine step_append (by rfl) (.tmp 75) (.tmp 78) (by rfl) w7.heap.size (.slice (some ⟨w7.heap.size, 0, none⟩) 0 0) [] (M.take k) (by simp [Act.eval]) HE8'.out ⟨g, 0, none⟩ k cp HTl.out (by simp [Act.eval] <;> omega) (HMa'.out.front k (by rw [HML.out]; omega)) (by simp; omega) (by simp; omega) ?_; intro v8 w8 o8 gr8 nil8; have HXb : Hid (five w8 (w7.heap.size + 1) 0 s u q m f) := hidIt (five_grown gr8 HXa.out (by simp [Value.ownBlock])); have B8 := hidIt (B8a'.out.grown gr8 (by simp; omega) (fun z hz => by simp [Value.ownBlock] at hz; omega)); have HO8 := hidIt o8; clear o8 gr8)
                    | (refine step_append (by rfl) (.tmp 75) (.tmp 78) (by rfl) w7.heap.size (.slice (some ⟨w7.heap.size + 1, 0, none⟩) 0 0) [] (M.take k) (by simp [Act.eval]) HE9.out ⟨g, 0, none⟩ k cp HTl.out (by simp [Act.eval] <;> omega) (HMd.out.front k (by rw [HML.out]; omega)) (by simp; omega) (by simp; omega) ?_; intro v8 w8 o8 gr8 nil8; have HXd : Hid (five w8 w7.heap.size 0 s u q m f) := hidIt (five_grown gr8 HXc.out (by simp [Value.ownBlock])); have B8 := hidIt (B9a.out.grown gr8 (by simp; omega) (fun z hz => by simp [Value.ownBlock] at hz; omega)); have HO8 := hidIt o8; clear o8 gr8)
                    | (refine step_append (by rfl) (.tmp 79) (.tmp 84) (by rfl) w7.heap.size v8 (M.take k) [(s, u, q, m, f)] (by simp [Act.eval]) (HO8.out.alloc _) ⟨w8.heap.size, 0, none⟩ 1 1 rfl (by simp [Act.eval]) (fresh w8 (s, u, q, m, f) 100) (by rw [HTl.out]; omega) (by have := B8.out.size; simp; omega) ?_; intro v9 w9 o9 gr9 nil9; have B9 := hidIt ((B8.out.alloc B8.out.size (.cells #[.string s, .string u, .int .i64 q, .int .i64 m, .bool f] 100)).grown gr9 (by have := B8.out.size; simp; omega) (fun z hz => (World.ownsRow.lt HO8.out z hz).1)); have HO9 := hidIt o9; have HMc := hidIt (HO7.out.kept B9.out); clear o9 gr9)
                    | (refine step_append (by rfl) (.tmp 79) (.tmp 84) (by rfl) w7.heap.size v8 (M.take k) [(s, u, q, m, f)] (by simp [Act.eval]) HO8.out ⟨w7.heap.size + 1, 0, none⟩ 1 1 rfl (by simp [Act.eval]) (five_rd HXb.out).cells (by rw [HTl.out]; omega) B8.out.size ?_; intro v9 w9 o9 gr9 nil9; have B9 := hidIt (B8.out.grown gr9 B8.out.size (fun z hz => (World.ownsRow.lt HO8.out z hz).1)); have HO9 := hidIt o9; have HMc := hidIt (HO7.out.kept B9.out); clear o9 gr9)
                    | (refine step_append (by rfl) (.tmp 79) (.tmp 84) (by rfl) w7.heap.size v8 (M.take k) [(s, u, q, m, f)] (by simp [Act.eval]) HO8.out ⟨w7.heap.size, 0, none⟩ 1 1 rfl (by simp [Act.eval]) (five_rd HXd.out).cells (by rw [HTl.out]; omega) B8.out.size ?_; intro v9 w9 o9 gr9 nil9; have B9 := hidIt (B8.out.grown gr9 B8.out.size (fun z hz => (World.ownsRow.lt HO8.out z hz).1)); have HO9 := hidIt o9; have HMc := hidIt (HO7.out.kept B9.out); clear o9 gr9)
                    | (refine step_append (by rfl) (.tmp 85) (.tmp 86) (by rfl) w7.heap.size v9 (M.take k ++ [(s, u, q, m, f)]) (M.drop k) (by simp [Act.eval]) HO9.out ⟨g7, 0, none⟩ (mm - k) c7 HDl.out (by simp [Act.eval]) (by have := HMc.out.front (mm - k) (by rw [HDl.out]; exact Nat.le_refl _); rw [← HDl.out, List.take_length] at this; exact this) (by rw [List.length_append, HTl.out]; simp; omega) B9.out.size ?_; intro v10 w10 o10 gr10 nil10; have B10 := hidIt (B9.out.grown gr10 B9.out.size (fun z hz => (World.ownsRow.lt HO9.out z hz).1)); have HO10 := hidIt o10; have N10 := hidIt nil10; have N9 := hidIt nil9; have N8 := hidIt nil8; clear o10 gr10 nil10 nil9 nil8))
                  all_goals
                    have hv10 : v10 ≠ .slice none 0 0 := fun e => by
                      have h9 := (N10.out.1 e).1
                      have := (N9.out.1 h9).2
                      omega
                    obtain ⟨g10, c10, ev10, h10c, h10m, h10b, h10l⟩ := HO10.out.some_form hv10
                    subst ev10
                    have HO11 := hidIt (HO10.out.mono (b' := w.heap.size) HB7.out.size)
                    have HB11 := hidIt (HB7.out.trans (B10.out.mono HB7.out.size))
                    have hlen : (M.take k ++ [(s, u, q, m, f)] ++ M.drop k).length = mm + 1 := by rw [List.length_append, List.length_append, HTl.out, HDl.out]; simp; omega
                    have HLn := hidIt hlen
                    clear N10 N9 N8 HO10 hv10 hf S0 S1 S2 S3 S4 hlen
                    go_wp2_with (fail)
                    exact ⟨⟨i + 1, M.take k ++ [(s, u, q, m, f)] ++ M.drop k, g10, c10, by simp, rfl, by omega, h10c, h10m, by rw [HLn.out]; omega, HO11, hidIt (by rw [List.append_assoc, List.singleton_append]; exact HFI.out), HB11⟩, by simp [intOf]; omega⟩
                · have HPC := hidIt (fun W (hO : Own W w.heap.size (.slice (some ⟨g, 0, none⟩) mm cp) M) => hO.piece k (by rw [HML.out]; omega))
                  go_wp2_with (first | (at_builtin; refine wpList_append_own _ rfl _ _ 37 rfl w.heap.size 100 i0 (.agg #[.string ByteArray.empty, .string ByteArray.empty, .int .i64 0, .int .i64 0, .bool false]) 5 56 Tryz.underlying37 hi0 hz0 hz1 hz2 rfl (by decide) _ 0 [] rfl HE2.out ⟨g, k * 5, none⟩ _ _ (rcells (M.drop k)) rfl (by rw [rcells_length, HDl.out]; try omega) (HPC.out _ (HO2.out.alloc _)) (rcells_one _) ?c3 ?c4 ?c5 ?_))
                  case c3 => unfold maxLen; omega
                  case c4 => omega
                  case c5 => have := HBw.out.size; simp; omega
                  intro v7 w7 hown7 hgrow7 hnil7
                  have W7 := hidIt (((Below.refl w2.heap.size w2).alloc (Nat.le_refl _) (.cells #[] 100)).grown hgrow7 (by simp) (fun z hz => by simp [Value.ownBlock] at hz; omega))
                  have HO7 : Hid (Own w7 w.heap.size v7 (M.drop k)) := hidIt (by
                    unfold Own
                    rw [HDl.out]
                    first | exact hown7 | (rw [Nat.zero_add, List.nil_append] at hown7; exact hown7))
                  have hv7 : v7 ≠ .slice none 0 0 := by first | exact hnil7 | exact fun e => by have := (hnil7.1 e).1; cases this
                  obtain ⟨g7, c7, ev7, h7c, h7m, h7b, h7l⟩ := HO7.out.some_form hv7
                  rw [HDl.out] at ev7 h7c
                  subst ev7
                  have HM7 := hidIt (HO2.out.kept W7.out)
                  have HF7 := hidIt (five_kept W7.out HF2.out)
                  have HB7 := hidIt (HBw.out.trans (W7.out.mono HBw.out.size))
                  clear hown7 hgrow7 hnil7 hv7 HE2
                  go_wp2_with (fail)
                  have HE8 : Hid (Own ((w7.alloc (.cells #[] 100)).drew) w7.heap.size (.slice (some ⟨w7.heap.size, 0, none⟩) 0 0) []) := hidIt (Own.new w7).drew
                  have B8a := hidIt (((Below.refl w7.heap.size w7).alloc (Nat.le_refl _) (.cells #[] 100)).drew)
                  have HE8' : Hid (Own (((w7.alloc (.cells #[] 100)).alloc (.cells #[.string s, .string u, .int .i64 q, .int .i64 m, .bool f] 100)).drew) w7.heap.size (.slice (some ⟨w7.heap.size, 0, none⟩) 0 0) []) := hidIt (((Own.new w7).alloc (.cells #[.string s, .string u, .int .i64 q, .int .i64 m, .bool f] 100)).drew)
                  have B8a' := hidIt ((((Below.refl w7.heap.size w7).alloc (Nat.le_refl _) (.cells #[] 100)).alloc (by simp) (.cells #[.string s, .string u, .int .i64 q, .int .i64 m, .bool f] 100)).drew)
                  have HXa : Hid (five (((w7.alloc (.cells #[] 100)).alloc (.cells #[.string s, .string u, .int .i64 q, .int .i64 m, .bool f] 100)).drew) (w7.heap.size + 1) 0 s u q m f) := hidIt ⟨by simp, by simp, by simp, by simp, by simp⟩
                  have HMa' := hidIt (HM7.out.kept B8a'.out)
                  have HE9 : Hid (Own (((w7.alloc (.cells #[.string s, .string u, .int .i64 q, .int .i64 m, .bool f] 100)).alloc (.cells #[] 100)).drew) w7.heap.size (.slice (some ⟨w7.heap.size + 1, 0, none⟩) 0 0) []) := hidIt (by have := ((Own.new (w7.alloc (.cells #[.string s, .string u, .int .i64 q, .int .i64 m, .bool f] 100))).mono (b' := w7.heap.size) (by simp)).drew; simpa using this)
                  have B9a := hidIt ((((Below.refl w7.heap.size w7).alloc (Nat.le_refl _) (.cells #[.string s, .string u, .int .i64 q, .int .i64 m, .bool f] 100)).alloc (by simp) (.cells #[] 100)).drew)
                  have HXc : Hid (five (((w7.alloc (.cells #[.string s, .string u, .int .i64 q, .int .i64 m, .bool f] 100)).alloc (.cells #[] 100)).drew) w7.heap.size 0 s u q m f) := hidIt ⟨by simp, by simp, by simp, by simp, by simp⟩
                  have HMd := hidIt (HM7.out.kept B9a.out)
                  have B9z := hidIt (((Below.refl w7.heap.size w7).alloc (Nat.le_refl _) (.cells #[.string s, .string u, .int .i64 q, .int .i64 m, .bool f] 100)).drew)
                  have HMa := hidIt (HM7.out.kept B8a.out)
                  have hf := HF7.out
                  have S0 : five w7.drew b (off + i * 5) s u q m f := hf
                  have S1 : five (w7.alloc (.cells #[] 100)).drew b (off + i * 5) s u q m f := five_kept B8a.out hf
                  have S2 : five ((w7.alloc (.cells #[] 100)).alloc (.cells #[.string s, .string u, .int .i64 q, .int .i64 m, .bool f] 100)).drew b (off + i * 5) s u q m f := five_kept B8a'.out hf
                  have S3 : five ((w7.alloc (.cells #[.string s, .string u, .int .i64 q, .int .i64 m, .bool f] 100)).alloc (.cells #[] 100)).drew b (off + i * 5) s u q m f := five_kept B9a.out hf
                  have S4 : five (w7.alloc (.cells #[.string s, .string u, .int .i64 q, .int .i64 m, .bool f] 100)).drew b (off + i * 5) s u q m f := five_kept B9z.out hf
                  have hkc1 : (k : Int) ≤ (cp : Int) := by omega
                  have hkc2 : (0 : Int) ≤ (k : Int) := by omega
                  go_region_held3 (fun w' => five w' b (off + i * 5) s u q m f)
                    (first | (with_reducible assumption) | (with_reducible exact five_kept B8.out hf) | (with_reducible exact five_kept (B8.out.alloc B8.out.size _) hf) | (with_reducible exact five_kept B9.out hf) | (with_reducible exact five_kept B10.out hf) | (trace_state; fail))
                    (first
                    | (refine step_append (by rfl) (.tmp 75) (.tmp 78) (by rfl) w7.heap.size (.slice (some ⟨w7.heap.size, 0, none⟩) 0 0) [] (M.take k) (by simp [Act.eval]) HE8.out ⟨g, 0, none⟩ k cp HTl.out (by simp [Act.eval] <;> omega) (HMa.out.front k (by rw [HML.out]; omega)) (by simp; omega) (by simp) ?_; intro v8 w8 o8 gr8 nil8; have B8 := hidIt (B8a.out.grown gr8 (by simp) (fun z hz => by simp [Value.ownBlock] at hz; omega)); have HO8 := hidIt o8; clear o8 gr8)
                    | (refine step_append (by rfl) (.tmp 75) (.tmp 78) (by rfl) w7.heap.size (.slice (some ⟨w7.heap.size, 0, none⟩) 0 0) [] (M.take k) (by simp [Act.eval]) HE8'.out ⟨g, 0, none⟩ k cp HTl.out (by simp [Act.eval] <;> omega) (HMa'.out.front k (by rw [HML.out]; omega)) (by simp; omega) (by simp; omega) ?_; intro v8 w8 o8 gr8 nil8; have HXb : Hid (five w8 (w7.heap.size + 1) 0 s u q m f) := hidIt (five_grown gr8 HXa.out (by simp [Value.ownBlock])); have B8 := hidIt (B8a'.out.grown gr8 (by simp; omega) (fun z hz => by simp [Value.ownBlock] at hz; omega)); have HO8 := hidIt o8; clear o8 gr8)
                    | (refine step_append (by rfl) (.tmp 75) (.tmp 78) (by rfl) w7.heap.size (.slice (some ⟨w7.heap.size + 1, 0, none⟩) 0 0) [] (M.take k) (by simp [Act.eval]) HE9.out ⟨g, 0, none⟩ k cp HTl.out (by simp [Act.eval] <;> omega) (HMd.out.front k (by rw [HML.out]; omega)) (by simp; omega) (by simp; omega) ?_; intro v8 w8 o8 gr8 nil8; have HXd : Hid (five w8 w7.heap.size 0 s u q m f) := hidIt (five_grown gr8 HXc.out (by simp [Value.ownBlock])); have B8 := hidIt (B9a.out.grown gr8 (by simp; omega) (fun z hz => by simp [Value.ownBlock] at hz; omega)); have HO8 := hidIt o8; clear o8 gr8)
                    | (refine step_append (by rfl) (.tmp 79) (.tmp 84) (by rfl) w7.heap.size v8 (M.take k) [(s, u, q, m, f)] (by simp [Act.eval]) (HO8.out.alloc _) ⟨w8.heap.size, 0, none⟩ 1 1 rfl (by simp [Act.eval]) (fresh w8 (s, u, q, m, f) 100) (by rw [HTl.out]; omega) (by have := B8.out.size; simp; omega) ?_; intro v9 w9 o9 gr9 nil9; have B9 := hidIt ((B8.out.alloc B8.out.size (.cells #[.string s, .string u, .int .i64 q, .int .i64 m, .bool f] 100)).grown gr9 (by have := B8.out.size; simp; omega) (fun z hz => (World.ownsRow.lt HO8.out z hz).1)); have HO9 := hidIt o9; have HMc := hidIt (HO7.out.kept B9.out); clear o9 gr9)
                    | (refine step_append (by rfl) (.tmp 79) (.tmp 84) (by rfl) w7.heap.size v8 (M.take k) [(s, u, q, m, f)] (by simp [Act.eval]) HO8.out ⟨w7.heap.size + 1, 0, none⟩ 1 1 rfl (by simp [Act.eval]) (five_rd HXb.out).cells (by rw [HTl.out]; omega) B8.out.size ?_; intro v9 w9 o9 gr9 nil9; have B9 := hidIt (B8.out.grown gr9 B8.out.size (fun z hz => (World.ownsRow.lt HO8.out z hz).1)); have HO9 := hidIt o9; have HMc := hidIt (HO7.out.kept B9.out); clear o9 gr9)
                    | (refine step_append (by rfl) (.tmp 79) (.tmp 84) (by rfl) w7.heap.size v8 (M.take k) [(s, u, q, m, f)] (by simp [Act.eval]) HO8.out ⟨w7.heap.size, 0, none⟩ 1 1 rfl (by simp [Act.eval]) (five_rd HXd.out).cells (by rw [HTl.out]; omega) B8.out.size ?_; intro v9 w9 o9 gr9 nil9; have B9 := hidIt (B8.out.grown gr9 B8.out.size (fun z hz => (World.ownsRow.lt HO8.out z hz).1)); have HO9 := hidIt o9; have HMc := hidIt (HO7.out.kept B9.out); clear o9 gr9)
                    | (refine step_append (by rfl) (.tmp 85) (.tmp 86) (by rfl) w7.heap.size v9 (M.take k ++ [(s, u, q, m, f)]) (M.drop k) (by simp [Act.eval]) HO9.out ⟨g7, 0, none⟩ (mm - k) c7 HDl.out (by simp [Act.eval]) (by have := HMc.out.front (mm - k) (by rw [HDl.out]; exact Nat.le_refl _); rw [← HDl.out, List.take_length] at this; exact this) (by rw [List.length_append, HTl.out]; simp; omega) B9.out.size ?_; intro v10 w10 o10 gr10 nil10; have B10 := hidIt (B9.out.grown gr10 B9.out.size (fun z hz => (World.ownsRow.lt HO9.out z hz).1)); have HO10 := hidIt o10; have N10 := hidIt nil10; have N9 := hidIt nil9; have N8 := hidIt nil8; clear o10 gr10 nil10 nil9 nil8))
                  all_goals
                    have hv10 : v10 ≠ .slice none 0 0 := fun e => by
                      have h9 := (N10.out.1 e).1
                      have := (N9.out.1 h9).2
                      omega
                    obtain ⟨g10, c10, ev10, h10c, h10m, h10b, h10l⟩ := HO10.out.some_form hv10
                    subst ev10
                    have HO11 := hidIt (HO10.out.mono (b' := w.heap.size) HB7.out.size)
                    have HB11 := hidIt (HB7.out.trans (B10.out.mono HB7.out.size))
                    have hlen : (M.take k ++ [(s, u, q, m, f)] ++ M.drop k).length = mm + 1 := by rw [List.length_append, List.length_append, HTl.out, HDl.out]; simp; omega
                    have HLn := hidIt hlen
                    clear N10 N9 N8 HO10 hv10 hf S0 S1 S2 S3 S4 hlen
                    go_wp2_with (fail)
                    exact ⟨⟨i + 1, M.take k ++ [(s, u, q, m, f)] ++ M.drop k, g10, c10, by simp, rfl, by omega, h10c, h10m, by rw [HLn.out]; omega, HO11, hidIt (by rw [List.append_assoc, List.singleton_append]; exact HFI.out), HB11⟩, by simp [intOf]; omega⟩
          · have hkm' : ¬ (k : Int) < (mm : Int) := by omega
            have HFI := hidIt ((HJ.out k (by omega) HK.out (fun h => by omega)).2.2 (fun h => by omega))
            clear HJ
            go_wp2_with (fail)
            refine wp_region_below (by kernel_rfl) (by kernel_rfl) ?_
            repeat (go_big_quiet_step (fail))
            refine wpQuiet_nil ?_
            intro _ hw'
            obtain ⟨pq, rfl⟩ := hw'
            have k1 := pq.h
            generalize pq.world = w1 at k1 ⊢
            have HB1 := hidIt (HBk.out.trans (k1.mono HBk.out.size))
            have HO1 := hidIt (HOk.out.kept k1)
            have HF1 := hidIt (five_kept HB1.out HF.out)
            haveI := BelowBy.one w1
            clear g0 k1 x0 x1 x2 x3 x4 HOk
            go_wp2_with (fail)
            subst hQ1
            go_wp2_with (fail)
            refine wp_region_below (by kernel_rfl) (by kernel_rfl) ?_
            repeat (go_big_quiet_step (fail))
            refine wpQuiet_nil ?_
            intro _ hw'
            obtain ⟨pq, rfl⟩ := hw'
            have k2 := pq.h
            generalize pq.world = w2 at k2 ⊢
            have HB2 := hidIt (HB1.out.trans (k2.mono HB1.out.size))
            have HO2 := hidIt (HO1.out.kept k2)
            have HF2 := hidIt (five_kept k2 HF1.out)
            have HBw := hidIt (HB.out.trans (HB2.out.mono HB.out.size))
            have hkm2 : (k : Int) ≤ (mm : Int) := by omega
            have hkle : k ≤ mm := by omega
            clear k2
            have HTl : Hid ((M.take k).length = k) := hidIt (by rw [List.length_take, HML.out]; omega)
            have HDl : Hid ((M.drop k).length = mm - k) := hidIt (by rw [List.length_drop, HML.out])
            have HE2 : Hid ((w2.alloc (.cells #[] 100)).ownsRow w.heap.size 100 5 (.slice (some ⟨w2.heap.size, 0, none⟩) 0 0) 0 []) := hidIt ((Own.new w2).mono HBw.out.size)
            by_cases hck : cp = k
            · have HPC := hidIt (fun W (hO : Own W w.heap.size (.slice (some ⟨g, 0, none⟩) mm cp) M) => show ∀ j u, (rcells (M.drop k))[j]? = some u → W.cell? ((⟨g, 0, none⟩ : Addr).add j) = some u from fun j u hj => by
                have hd : M.drop k = [] := List.length_eq_zero_iff.1 (by rw [HDl.out]; omega)
                rw [hd] at hj
                simp [rcells] at hj)
              go_wp2_with (first | (at_builtin; refine wpList_append_own _ rfl _ _ 37 rfl w.heap.size 100 i0 (.agg #[.string ByteArray.empty, .string ByteArray.empty, .int .i64 0, .int .i64 0, .bool false]) 5 56 Tryz.underlying37 hi0 hz0 hz1 hz2 rfl (by decide) _ 0 [] rfl HE2.out ⟨g, 0, none⟩ _ _ (rcells (M.drop k)) rfl (by rw [rcells_length, HDl.out]; try omega) (HPC.out _ (HO2.out.alloc _)) (rcells_one _) ?c3 ?c4 ?c5 ?_))
              case c3 => unfold maxLen; omega
              case c4 => omega
              case c5 => have := HBw.out.size; simp; omega
              intro v7 w7 hown7 hgrow7 hnil7
              have W7 := hidIt (((Below.refl w2.heap.size w2).alloc (Nat.le_refl _) (.cells #[] 100)).grown hgrow7 (by simp) (fun z hz => by simp [Value.ownBlock] at hz; omega))
              have HO7 : Hid (Own w7 w.heap.size v7 (M.drop k)) := hidIt (by
                unfold Own
                rw [HDl.out]
                first | exact hown7 | (rw [Nat.zero_add, List.nil_append] at hown7; exact hown7))
              have hv7 : v7 ≠ .slice none 0 0 := by first | exact hnil7 | exact fun e => by have := (hnil7.1 e).1; cases this
              obtain ⟨g7, c7, ev7, h7c, h7m, h7b, h7l⟩ := HO7.out.some_form hv7
              rw [HDl.out] at ev7 h7c
              subst ev7
              have HM7 := hidIt (HO2.out.kept W7.out)
              have HF7 := hidIt (five_kept W7.out HF2.out)
              have HB7 := hidIt (HBw.out.trans (W7.out.mono HBw.out.size))
              clear hown7 hgrow7 hnil7 hv7 HE2
              go_wp2_with (fail)
              have HE8 : Hid (Own ((w7.alloc (.cells #[] 100)).drew) w7.heap.size (.slice (some ⟨w7.heap.size, 0, none⟩) 0 0) []) := hidIt (Own.new w7).drew
              have B8a := hidIt (((Below.refl w7.heap.size w7).alloc (Nat.le_refl _) (.cells #[] 100)).drew)
              have HE8' : Hid (Own (((w7.alloc (.cells #[] 100)).alloc (.cells #[.string s, .string u, .int .i64 q, .int .i64 m, .bool f] 100)).drew) w7.heap.size (.slice (some ⟨w7.heap.size, 0, none⟩) 0 0) []) := hidIt (((Own.new w7).alloc (.cells #[.string s, .string u, .int .i64 q, .int .i64 m, .bool f] 100)).drew)
              have B8a' := hidIt ((((Below.refl w7.heap.size w7).alloc (Nat.le_refl _) (.cells #[] 100)).alloc (by simp) (.cells #[.string s, .string u, .int .i64 q, .int .i64 m, .bool f] 100)).drew)
              have HXa : Hid (five (((w7.alloc (.cells #[] 100)).alloc (.cells #[.string s, .string u, .int .i64 q, .int .i64 m, .bool f] 100)).drew) (w7.heap.size + 1) 0 s u q m f) := hidIt ⟨by simp, by simp, by simp, by simp, by simp⟩
              have HMa' := hidIt (HM7.out.kept B8a'.out)
              have HE9 : Hid (Own (((w7.alloc (.cells #[.string s, .string u, .int .i64 q, .int .i64 m, .bool f] 100)).alloc (.cells #[] 100)).drew) w7.heap.size (.slice (some ⟨w7.heap.size + 1, 0, none⟩) 0 0) []) := hidIt (by have := ((Own.new (w7.alloc (.cells #[.string s, .string u, .int .i64 q, .int .i64 m, .bool f] 100))).mono (b' := w7.heap.size) (by simp)).drew; simpa using this)
              have B9a := hidIt ((((Below.refl w7.heap.size w7).alloc (Nat.le_refl _) (.cells #[.string s, .string u, .int .i64 q, .int .i64 m, .bool f] 100)).alloc (by simp) (.cells #[] 100)).drew)
              have HXc : Hid (five (((w7.alloc (.cells #[.string s, .string u, .int .i64 q, .int .i64 m, .bool f] 100)).alloc (.cells #[] 100)).drew) w7.heap.size 0 s u q m f) := hidIt ⟨by simp, by simp, by simp, by simp, by simp⟩
              have HMd := hidIt (HM7.out.kept B9a.out)
              have B9z := hidIt (((Below.refl w7.heap.size w7).alloc (Nat.le_refl _) (.cells #[.string s, .string u, .int .i64 q, .int .i64 m, .bool f] 100)).drew)
              have HMa := hidIt (HM7.out.kept B8a.out)
              have hf := HF7.out
              have S0 : five w7.drew b (off + i * 5) s u q m f := hf
              have S1 : five (w7.alloc (.cells #[] 100)).drew b (off + i * 5) s u q m f := five_kept B8a.out hf
              have S2 : five ((w7.alloc (.cells #[] 100)).alloc (.cells #[.string s, .string u, .int .i64 q, .int .i64 m, .bool f] 100)).drew b (off + i * 5) s u q m f := five_kept B8a'.out hf
              have S3 : five ((w7.alloc (.cells #[.string s, .string u, .int .i64 q, .int .i64 m, .bool f] 100)).alloc (.cells #[] 100)).drew b (off + i * 5) s u q m f := five_kept B9a.out hf
              have S4 : five (w7.alloc (.cells #[.string s, .string u, .int .i64 q, .int .i64 m, .bool f] 100)).drew b (off + i * 5) s u q m f := five_kept B9z.out hf
              have hkc1 : (k : Int) ≤ (cp : Int) := by omega
              have hkc2 : (0 : Int) ≤ (k : Int) := by omega
              go_region_held3 (fun w' => five w' b (off + i * 5) s u q m f)
                (first | (with_reducible assumption) | (with_reducible exact five_kept B8.out hf) | (with_reducible exact five_kept (B8.out.alloc B8.out.size _) hf) | (with_reducible exact five_kept B9.out hf) | (with_reducible exact five_kept B10.out hf) | (trace_state; fail))
                (first
                | (refine step_append (by rfl) (.tmp 75) (.tmp 78) (by rfl) w7.heap.size (.slice (some ⟨w7.heap.size, 0, none⟩) 0 0) [] (M.take k) (by simp [Act.eval]) HE8.out ⟨g, 0, none⟩ k cp HTl.out (by simp [Act.eval] <;> omega) (HMa.out.front k (by rw [HML.out]; omega)) (by simp; omega) (by simp) ?_; intro v8 w8 o8 gr8 nil8; have B8 := hidIt (B8a.out.grown gr8 (by simp) (fun z hz => by simp [Value.ownBlock] at hz; omega)); have HO8 := hidIt o8; clear o8 gr8)
                | (refine step_append (by rfl) (.tmp 75) (.tmp 78) (by rfl) w7.heap.size (.slice (some ⟨w7.heap.size, 0, none⟩) 0 0) [] (M.take k) (by simp [Act.eval]) HE8'.out ⟨g, 0, none⟩ k cp HTl.out (by simp [Act.eval] <;> omega) (HMa'.out.front k (by rw [HML.out]; omega)) (by simp; omega) (by simp; omega) ?_; intro v8 w8 o8 gr8 nil8; have HXb : Hid (five w8 (w7.heap.size + 1) 0 s u q m f) := hidIt (five_grown gr8 HXa.out (by simp [Value.ownBlock])); have B8 := hidIt (B8a'.out.grown gr8 (by simp; omega) (fun z hz => by simp [Value.ownBlock] at hz; omega)); have HO8 := hidIt o8; clear o8 gr8)
                | (refine step_append (by rfl) (.tmp 75) (.tmp 78) (by rfl) w7.heap.size (.slice (some ⟨w7.heap.size + 1, 0, none⟩) 0 0) [] (M.take k) (by simp [Act.eval]) HE9.out ⟨g, 0, none⟩ k cp HTl.out (by simp [Act.eval] <;> omega) (HMd.out.front k (by rw [HML.out]; omega)) (by simp; omega) (by simp; omega) ?_; intro v8 w8 o8 gr8 nil8; have HXd : Hid (five w8 w7.heap.size 0 s u q m f) := hidIt (five_grown gr8 HXc.out (by simp [Value.ownBlock])); have B8 := hidIt (B9a.out.grown gr8 (by simp; omega) (fun z hz => by simp [Value.ownBlock] at hz; omega)); have HO8 := hidIt o8; clear o8 gr8)
                | (refine step_append (by rfl) (.tmp 79) (.tmp 84) (by rfl) w7.heap.size v8 (M.take k) [(s, u, q, m, f)] (by simp [Act.eval]) (HO8.out.alloc _) ⟨w8.heap.size, 0, none⟩ 1 1 rfl (by simp [Act.eval]) (fresh w8 (s, u, q, m, f) 100) (by rw [HTl.out]; omega) (by have := B8.out.size; simp; omega) ?_; intro v9 w9 o9 gr9 nil9; have B9 := hidIt ((B8.out.alloc B8.out.size (.cells #[.string s, .string u, .int .i64 q, .int .i64 m, .bool f] 100)).grown gr9 (by have := B8.out.size; simp; omega) (fun z hz => (World.ownsRow.lt HO8.out z hz).1)); have HO9 := hidIt o9; have HMc := hidIt (HO7.out.kept B9.out); clear o9 gr9)
                | (refine step_append (by rfl) (.tmp 79) (.tmp 84) (by rfl) w7.heap.size v8 (M.take k) [(s, u, q, m, f)] (by simp [Act.eval]) HO8.out ⟨w7.heap.size + 1, 0, none⟩ 1 1 rfl (by simp [Act.eval]) (five_rd HXb.out).cells (by rw [HTl.out]; omega) B8.out.size ?_; intro v9 w9 o9 gr9 nil9; have B9 := hidIt (B8.out.grown gr9 B8.out.size (fun z hz => (World.ownsRow.lt HO8.out z hz).1)); have HO9 := hidIt o9; have HMc := hidIt (HO7.out.kept B9.out); clear o9 gr9)
                | (refine step_append (by rfl) (.tmp 79) (.tmp 84) (by rfl) w7.heap.size v8 (M.take k) [(s, u, q, m, f)] (by simp [Act.eval]) HO8.out ⟨w7.heap.size, 0, none⟩ 1 1 rfl (by simp [Act.eval]) (five_rd HXd.out).cells (by rw [HTl.out]; omega) B8.out.size ?_; intro v9 w9 o9 gr9 nil9; have B9 := hidIt (B8.out.grown gr9 B8.out.size (fun z hz => (World.ownsRow.lt HO8.out z hz).1)); have HO9 := hidIt o9; have HMc := hidIt (HO7.out.kept B9.out); clear o9 gr9)
                | (refine step_append (by rfl) (.tmp 85) (.tmp 86) (by rfl) w7.heap.size v9 (M.take k ++ [(s, u, q, m, f)]) (M.drop k) (by simp [Act.eval]) HO9.out ⟨g7, 0, none⟩ (mm - k) c7 HDl.out (by simp [Act.eval]) (by have := HMc.out.front (mm - k) (by rw [HDl.out]; exact Nat.le_refl _); rw [← HDl.out, List.take_length] at this; exact this) (by rw [List.length_append, HTl.out]; simp; omega) B9.out.size ?_; intro v10 w10 o10 gr10 nil10; have B10 := hidIt (B9.out.grown gr10 B9.out.size (fun z hz => (World.ownsRow.lt HO9.out z hz).1)); have HO10 := hidIt o10; have N10 := hidIt nil10; have N9 := hidIt nil9; have N8 := hidIt nil8; clear o10 gr10 nil10 nil9 nil8))
              all_goals
                have hv10 : v10 ≠ .slice none 0 0 := fun e => by
                  have h9 := (N10.out.1 e).1
                  have := (N9.out.1 h9).2
                  omega
                obtain ⟨g10, c10, ev10, h10c, h10m, h10b, h10l⟩ := HO10.out.some_form hv10
                subst ev10
                have HO11 := hidIt (HO10.out.mono (b' := w.heap.size) HB7.out.size)
                have HB11 := hidIt (HB7.out.trans (B10.out.mono HB7.out.size))
                have hlen : (M.take k ++ [(s, u, q, m, f)] ++ M.drop k).length = mm + 1 := by rw [List.length_append, List.length_append, HTl.out, HDl.out]; simp; omega
                have HLn := hidIt hlen
                clear N10 N9 N8 HO10 hv10 hf S0 S1 S2 S3 S4 hlen
                go_wp2_with (fail)
                exact ⟨⟨i + 1, M.take k ++ [(s, u, q, m, f)] ++ M.drop k, g10, c10, by simp, rfl, by omega, h10c, h10m, by rw [HLn.out]; omega, HO11, hidIt (by rw [List.append_assoc, List.singleton_append]; exact HFI.out), HB11⟩, by simp [intOf]; omega⟩
            · have HPC := hidIt (fun W (hO : Own W w.heap.size (.slice (some ⟨g, 0, none⟩) mm cp) M) => hO.piece k (by rw [HML.out]; omega))
              go_wp2_with (first | (at_builtin; refine wpList_append_own _ rfl _ _ 37 rfl w.heap.size 100 i0 (.agg #[.string ByteArray.empty, .string ByteArray.empty, .int .i64 0, .int .i64 0, .bool false]) 5 56 Tryz.underlying37 hi0 hz0 hz1 hz2 rfl (by decide) _ 0 [] rfl HE2.out ⟨g, k * 5, none⟩ _ _ (rcells (M.drop k)) rfl (by rw [rcells_length, HDl.out]; try omega) (HPC.out _ (HO2.out.alloc _)) (rcells_one _) ?c3 ?c4 ?c5 ?_))
              case c3 => unfold maxLen; omega
              case c4 => omega
              case c5 => have := HBw.out.size; simp; omega
              intro v7 w7 hown7 hgrow7 hnil7
              have W7 := hidIt (((Below.refl w2.heap.size w2).alloc (Nat.le_refl _) (.cells #[] 100)).grown hgrow7 (by simp) (fun z hz => by simp [Value.ownBlock] at hz; omega))
              have HO7 : Hid (Own w7 w.heap.size v7 (M.drop k)) := hidIt (by
                unfold Own
                rw [HDl.out]
                first | exact hown7 | (rw [Nat.zero_add, List.nil_append] at hown7; exact hown7))
              have hv7 : v7 ≠ .slice none 0 0 := by first | exact hnil7 | exact fun e => by have := (hnil7.1 e).1; cases this
              obtain ⟨g7, c7, ev7, h7c, h7m, h7b, h7l⟩ := HO7.out.some_form hv7
              rw [HDl.out] at ev7 h7c
              subst ev7
              have HM7 := hidIt (HO2.out.kept W7.out)
              have HF7 := hidIt (five_kept W7.out HF2.out)
              have HB7 := hidIt (HBw.out.trans (W7.out.mono HBw.out.size))
              clear hown7 hgrow7 hnil7 hv7 HE2
              go_wp2_with (fail)
              have HE8 : Hid (Own ((w7.alloc (.cells #[] 100)).drew) w7.heap.size (.slice (some ⟨w7.heap.size, 0, none⟩) 0 0) []) := hidIt (Own.new w7).drew
              have B8a := hidIt (((Below.refl w7.heap.size w7).alloc (Nat.le_refl _) (.cells #[] 100)).drew)
              have HE8' : Hid (Own (((w7.alloc (.cells #[] 100)).alloc (.cells #[.string s, .string u, .int .i64 q, .int .i64 m, .bool f] 100)).drew) w7.heap.size (.slice (some ⟨w7.heap.size, 0, none⟩) 0 0) []) := hidIt (((Own.new w7).alloc (.cells #[.string s, .string u, .int .i64 q, .int .i64 m, .bool f] 100)).drew)
              have B8a' := hidIt ((((Below.refl w7.heap.size w7).alloc (Nat.le_refl _) (.cells #[] 100)).alloc (by simp) (.cells #[.string s, .string u, .int .i64 q, .int .i64 m, .bool f] 100)).drew)
              have HXa : Hid (five (((w7.alloc (.cells #[] 100)).alloc (.cells #[.string s, .string u, .int .i64 q, .int .i64 m, .bool f] 100)).drew) (w7.heap.size + 1) 0 s u q m f) := hidIt ⟨by simp, by simp, by simp, by simp, by simp⟩
              have HMa' := hidIt (HM7.out.kept B8a'.out)
              have HE9 : Hid (Own (((w7.alloc (.cells #[.string s, .string u, .int .i64 q, .int .i64 m, .bool f] 100)).alloc (.cells #[] 100)).drew) w7.heap.size (.slice (some ⟨w7.heap.size + 1, 0, none⟩) 0 0) []) := hidIt (by have := ((Own.new (w7.alloc (.cells #[.string s, .string u, .int .i64 q, .int .i64 m, .bool f] 100))).mono (b' := w7.heap.size) (by simp)).drew; simpa using this)
              have B9a := hidIt ((((Below.refl w7.heap.size w7).alloc (Nat.le_refl _) (.cells #[.string s, .string u, .int .i64 q, .int .i64 m, .bool f] 100)).alloc (by simp) (.cells #[] 100)).drew)
              have HXc : Hid (five (((w7.alloc (.cells #[.string s, .string u, .int .i64 q, .int .i64 m, .bool f] 100)).alloc (.cells #[] 100)).drew) w7.heap.size 0 s u q m f) := hidIt ⟨by simp, by simp, by simp, by simp, by simp⟩
              have HMd := hidIt (HM7.out.kept B9a.out)
              have B9z := hidIt (((Below.refl w7.heap.size w7).alloc (Nat.le_refl _) (.cells #[.string s, .string u, .int .i64 q, .int .i64 m, .bool f] 100)).drew)
              have HMa := hidIt (HM7.out.kept B8a.out)
              have hf := HF7.out
              have S0 : five w7.drew b (off + i * 5) s u q m f := hf
              have S1 : five (w7.alloc (.cells #[] 100)).drew b (off + i * 5) s u q m f := five_kept B8a.out hf
              have S2 : five ((w7.alloc (.cells #[] 100)).alloc (.cells #[.string s, .string u, .int .i64 q, .int .i64 m, .bool f] 100)).drew b (off + i * 5) s u q m f := five_kept B8a'.out hf
              have S3 : five ((w7.alloc (.cells #[.string s, .string u, .int .i64 q, .int .i64 m, .bool f] 100)).alloc (.cells #[] 100)).drew b (off + i * 5) s u q m f := five_kept B9a.out hf
              have S4 : five (w7.alloc (.cells #[.string s, .string u, .int .i64 q, .int .i64 m, .bool f] 100)).drew b (off + i * 5) s u q m f := five_kept B9z.out hf
              have hkc1 : (k : Int) ≤ (cp : Int) := by omega
              have hkc2 : (0 : Int) ≤ (k : Int) := by omega
              go_region_held3 (fun w' => five w' b (off + i * 5) s u q m f)
                (first | (with_reducible assumption) | (with_reducible exact five_kept B8.out hf) | (with_reducible exact five_kept (B8.out.alloc B8.out.size _) hf) | (with_reducible exact five_kept B9.out hf) | (with_reducible exact five_kept B10.out hf) | (trace_state; fail))
                (first
                | (refine step_append (by rfl) (.tmp 75) (.tmp 78) (by rfl) w7.heap.size (.slice (some ⟨w7.heap.size, 0, none⟩) 0 0) [] (M.take k) (by simp [Act.eval]) HE8.out ⟨g, 0, none⟩ k cp HTl.out (by simp [Act.eval] <;> omega) (HMa.out.front k (by rw [HML.out]; omega)) (by simp; omega) (by simp) ?_; intro v8 w8 o8 gr8 nil8; have B8 := hidIt (B8a.out.grown gr8 (by simp) (fun z hz => by simp [Value.ownBlock] at hz; omega)); have HO8 := hidIt o8; clear o8 gr8)
                | (refine step_append (by rfl) (.tmp 75) (.tmp 78) (by rfl) w7.heap.size (.slice (some ⟨w7.heap.size, 0, none⟩) 0 0) [] (M.take k) (by simp [Act.eval]) HE8'.out ⟨g, 0, none⟩ k cp HTl.out (by simp [Act.eval] <;> omega) (HMa'.out.front k (by rw [HML.out]; omega)) (by simp; omega) (by simp; omega) ?_; intro v8 w8 o8 gr8 nil8; have HXb : Hid (five w8 (w7.heap.size + 1) 0 s u q m f) := hidIt (five_grown gr8 HXa.out (by simp [Value.ownBlock])); have B8 := hidIt (B8a'.out.grown gr8 (by simp; omega) (fun z hz => by simp [Value.ownBlock] at hz; omega)); have HO8 := hidIt o8; clear o8 gr8)
                | (refine step_append (by rfl) (.tmp 75) (.tmp 78) (by rfl) w7.heap.size (.slice (some ⟨w7.heap.size + 1, 0, none⟩) 0 0) [] (M.take k) (by simp [Act.eval]) HE9.out ⟨g, 0, none⟩ k cp HTl.out (by simp [Act.eval] <;> omega) (HMd.out.front k (by rw [HML.out]; omega)) (by simp; omega) (by simp; omega) ?_; intro v8 w8 o8 gr8 nil8; have HXd : Hid (five w8 w7.heap.size 0 s u q m f) := hidIt (five_grown gr8 HXc.out (by simp [Value.ownBlock])); have B8 := hidIt (B9a.out.grown gr8 (by simp; omega) (fun z hz => by simp [Value.ownBlock] at hz; omega)); have HO8 := hidIt o8; clear o8 gr8)
                | (refine step_append (by rfl) (.tmp 79) (.tmp 84) (by rfl) w7.heap.size v8 (M.take k) [(s, u, q, m, f)] (by simp [Act.eval]) (HO8.out.alloc _) ⟨w8.heap.size, 0, none⟩ 1 1 rfl (by simp [Act.eval]) (fresh w8 (s, u, q, m, f) 100) (by rw [HTl.out]; omega) (by have := B8.out.size; simp; omega) ?_; intro v9 w9 o9 gr9 nil9; have B9 := hidIt ((B8.out.alloc B8.out.size (.cells #[.string s, .string u, .int .i64 q, .int .i64 m, .bool f] 100)).grown gr9 (by have := B8.out.size; simp; omega) (fun z hz => (World.ownsRow.lt HO8.out z hz).1)); have HO9 := hidIt o9; have HMc := hidIt (HO7.out.kept B9.out); clear o9 gr9)
                | (refine step_append (by rfl) (.tmp 79) (.tmp 84) (by rfl) w7.heap.size v8 (M.take k) [(s, u, q, m, f)] (by simp [Act.eval]) HO8.out ⟨w7.heap.size + 1, 0, none⟩ 1 1 rfl (by simp [Act.eval]) (five_rd HXb.out).cells (by rw [HTl.out]; omega) B8.out.size ?_; intro v9 w9 o9 gr9 nil9; have B9 := hidIt (B8.out.grown gr9 B8.out.size (fun z hz => (World.ownsRow.lt HO8.out z hz).1)); have HO9 := hidIt o9; have HMc := hidIt (HO7.out.kept B9.out); clear o9 gr9)
                | (refine step_append (by rfl) (.tmp 79) (.tmp 84) (by rfl) w7.heap.size v8 (M.take k) [(s, u, q, m, f)] (by simp [Act.eval]) HO8.out ⟨w7.heap.size, 0, none⟩ 1 1 rfl (by simp [Act.eval]) (five_rd HXd.out).cells (by rw [HTl.out]; omega) B8.out.size ?_; intro v9 w9 o9 gr9 nil9; have B9 := hidIt (B8.out.grown gr9 B8.out.size (fun z hz => (World.ownsRow.lt HO8.out z hz).1)); have HO9 := hidIt o9; have HMc := hidIt (HO7.out.kept B9.out); clear o9 gr9)
                | (refine step_append (by rfl) (.tmp 85) (.tmp 86) (by rfl) w7.heap.size v9 (M.take k ++ [(s, u, q, m, f)]) (M.drop k) (by simp [Act.eval]) HO9.out ⟨g7, 0, none⟩ (mm - k) c7 HDl.out (by simp [Act.eval]) (by have := HMc.out.front (mm - k) (by rw [HDl.out]; exact Nat.le_refl _); rw [← HDl.out, List.take_length] at this; exact this) (by rw [List.length_append, HTl.out]; simp; omega) B9.out.size ?_; intro v10 w10 o10 gr10 nil10; have B10 := hidIt (B9.out.grown gr10 B9.out.size (fun z hz => (World.ownsRow.lt HO9.out z hz).1)); have HO10 := hidIt o10; have N10 := hidIt nil10; have N9 := hidIt nil9; have N8 := hidIt nil8; clear o10 gr10 nil10 nil9 nil8))
              all_goals
                have hv10 : v10 ≠ .slice none 0 0 := fun e => by
                  have h9 := (N10.out.1 e).1
                  have := (N9.out.1 h9).2
                  omega
                obtain ⟨g10, c10, ev10, h10c, h10m, h10b, h10l⟩ := HO10.out.some_form hv10
                subst ev10
                have HO11 := hidIt (HO10.out.mono (b' := w.heap.size) HB7.out.size)
                have HB11 := hidIt (HB7.out.trans (B10.out.mono HB7.out.size))
                have hlen : (M.take k ++ [(s, u, q, m, f)] ++ M.drop k).length = mm + 1 := by rw [List.length_append, List.length_append, HTl.out, HDl.out]; simp; omega
                have HLn := hidIt hlen
                clear N10 N9 N8 HO10 hv10 hf S0 S1 S2 S3 S4 hlen
                go_wp2_with (fail)
                exact ⟨⟨i + 1, M.take k ++ [(s, u, q, m, f)] ++ M.drop k, g10, c10, by simp, rfl, by omega, h10c, h10m, by rw [HLn.out]; omega, HO11, hidIt (by rw [List.append_assoc, List.singleton_append]; exact HFI.out), HB11⟩, by simp [intOf]; omega⟩
      · have hin' : ¬ (i : Int) < (lb : Int) := by omega
        have HI : Hid (i = lb) := hidIt (by omega)
        have HE : Hid (IsJoin (toB A) (toB B) (toB M)) := hidIt (by have := HM.out; rw [HI.out, HSE.out] at this; exact this)
        go_wp2_with (fail)
        go_ret
        first | exact ⟨_, M, rfl, (fun e => by cases e), HO.out, HE.out, by omega, HB.out⟩ | exact ⟨_, rfl, (fun e => by cases e), M, HO.out, HE.out, by omega, HB.out⟩
end Go.Proofs.YtceddedlfdgbhaaGreatDoor.En
namespace Go.Proofs.YtceddedlfdgbhaaGreatDoor.En
open Go.ChangeShapes Go.WideShapes Go.ChangeAt Go.RowKit
open Go.Proofs.YtceddedlfdgbhaaGreatDoor.Rc (BelowBy BelowBy.one wp_region_below calls_below calls_same)
open Go.Proofs.YtceddedlfdgbhaaGreatDoor.Bk (Bytes okE newB okBk look Ris IsJoin joinB)
set_option linter.unusedVariables false
attribute [local go_sem] str_gtr str_leq
abbrev shortR (L : List Rw) : Prop := ∀ i, i < L.length → (rat L i).1.size ≤ 9223372036854775807 ∧ (rat L i).2.1.size ≤ 9223372036854775807
/-- What Joined answers, in rows. -/
theorem joined_rows (A B : List Rw) : ∃ J : List Rw, toB J = (joinB (toB A) (toB B)).1 := by
  have h : ∀ L : List Bk.En, ∃ J : List Rw, toB J = L := by
    intro L
    induction L with
    | nil => exact ⟨[], rfl⟩
    | cons x L ih =>
      obtain ⟨J, hJ⟩ := ih
      refine ⟨(⟨x.key.toArray⟩, ⟨x.value.toArray⟩, x.time, x.node, x.gone) :: J, ?_⟩
      rw [toB, List.map_cons, ← hJ]
      rfl
  exact h _
end Go.Proofs.YtceddedlfdgbhaaGreatDoor.En
