/-
  What the laws do with one Replica and with a list of them: the measure, the copy, whether two are alike.
  What the laws do with Replicas: the copy of one and of a list; whether two are alike.
  What the laws do with Replicas: whether two are alike; marks, and whether they hold.
  What several books come to, in whatever order they are told: no program in sight.
  A heap in plain words: things by their places, the parent of each no greater than it; up, down, what is put on top. No program in sight.
-/
import Derived.Test.YtceddedlfdgbhaaGreatDoorBun15
import Derived.Test.YtceddedlfdgbhaaGreatDoorBun5
import Derived.Test.YtceddedlfdgbhaaGreatDoorMem2L
import Derived.Test.YtceddedlfdgbhaaGreatDoorBoxM
import Derived.Test.YtceddedlfdgbhaaGreatDoorBun6
import Derived.Test.YtceddedlfdgbhaaGreatDoorMem2N
import Derived.Test.YtceddedlfdgbhaaGreatDoorBun2
import Derived.Test.YtceddedlfdgbhaaGreatDoorBun4
namespace Go.Proofs.YtceddedlfdgbhaaGreatDoor.Rp
open Go.ChangeShapes Go.WideShapes Go.ChangeAt Go.RowKit
open Go.Proofs.YtceddedlfdgbhaaGreatDoor.Vv (Sl sv hidIt)
open Go.Proofs.YtceddedlfdgbhaaGreatDoor.Rc (BelowBy BelowBy.one wp_region_below calls_below calls_same)
set_option linter.unusedVariables false
/-- How many Entries and Members a Replica has, and a list of them. -/
def bulk : List Rep → Nat
  | [] => 0
  | r :: L => bulk1 r + bulk L
theorem bulk_app (L M : List Rep) : bulk (L ++ M) = bulk L + bulk M := by
  induction L with
  | nil => simp [bulk]
  | cons r L ih => simp only [List.cons_append, bulk, ih]; omega
theorem bulk_take {L : List Rep} {i : Nat} (h : i < L.length) : bulk (L.take (i + 1)) = bulk (L.take i) + bulk1 (rat L i) := by
  rw [take_rat h, bulk_app]
  simp [bulk]
theorem bulk_take_le (L : List Rep) (i : Nat) : bulk (L.take i) ≤ bulk L := by
  have := bulk_app (L.take i) (L.drop i)
  rw [List.take_append_drop] at this
  omega
theorem bulk_one {L : List Rep} {i : Nat} (h : i < L.length) : bulk1 (rat L i) ≤ bulk L := by
  have h1 := bulk_take h
  have h2 := bulk_take_le L (i + 1)
  omega
/-- The texts of all its Entries are no longer than a text may be. -/
def Short (L : List Rep) : Prop := ∀ i, i < L.length → ∀ j, j < (rat L i).1.length → (En.rat (rat L i).1 j).1.size ≤ 9223372036854775807 ∧ (En.rat (rat L i).1 j).2.1.size ≤ 9223372036854775807
end Go.Proofs.YtceddedlfdgbhaaGreatDoor.Rp
namespace Go.Proofs.YtceddedlfdgbhaaGreatDoor.Rp
open Go.ChangeShapes Go.WideShapes Go.ChangeAt Go.RowKit
open Go.Proofs.YtceddedlfdgbhaaGreatDoor.Vv (Sl sv hidIt)
open Go.Proofs.YtceddedlfdgbhaaGreatDoor.Rc (BelowBy BelowBy.one wp_region_below calls_below calls_same)
set_option linter.unusedVariables false
/-- A list of Replicas of the call's own comes back. -/
def LstP (w : World) (L : List Rep) (e : Ending) (w' : World) : Prop := ∃ v, e = .returned v ∧ Own w' w.heap.size w'.heap.size v L ∧ Below w.heap.size w w'
theorem LstP.of {w w' : World} {L : List Rep} {e : Ending} {v : Value} (h : e = .returned v) (h1 : Own w' w.heap.size w'.heap.size v L) (h2 : Below w.heap.size w w') : LstP w L e w' := ⟨v, h, h1, h2⟩
theorem LstP.out {w w' : World} {L : List Rep} {e : Ending} (h : LstP w L e w') : ∃ v, e = .returned v ∧ Own w' w.heap.size w'.heap.size v L ∧ Below w.heap.size w w' := h
end Go.Proofs.YtceddedlfdgbhaaGreatDoor.Rp
namespace Go.Proofs.YtceddedlfdgbhaaGreatDoor.Rp
open Go.ChangeShapes Go.WideShapes Go.ChangeAt Go.RowKit
open Go.Proofs.YtceddedlfdgbhaaGreatDoor.Vv (Sl sv hidIt)
open Go.Proofs.YtceddedlfdgbhaaGreatDoor.Rc (BelowBy BelowBy.one wp_region_below calls_below calls_same)
set_option linter.unusedVariables false
/-- Marks, one after the other, from k on. -/
def mark1 (k : Nat) (r : Rep) : Rep := (En.markX k r.1.length, Mm.markX (k + 5 * r.1.length) r.2.length)
def cost1 (r : Rep) : Nat := 5 * r.1.length + 3 * r.2.length
def cost : List Rep → Nat
  | [] => 0
  | r :: L => cost1 r + cost L
def markR : Nat → List Rep → List Rep
  | _, [] => []
  | k, r :: L => mark1 k r :: markR (k + cost1 r) L
theorem markR_length : ∀ (L : List Rep) (k : Nat), (markR k L).length = L.length
  | [], _ => rfl
  | r :: L, k => by simp only [markR, List.length_cons, markR_length L]
theorem cost_app (L M : List Rep) : cost (L ++ M) = cost L + cost M := by
  induction L with
  | nil => simp [cost]
  | cons r L ih => simp only [List.cons_append, cost, ih]; omega
theorem cost_take {L : List Rep} {i : Nat} (h : i < L.length) : cost (L.take (i + 1)) = cost (L.take i) + cost1 (rat L i) := by
  rw [take_rat h, cost_app]
  simp [cost]
theorem cost_le (L : List Rep) : cost L ≤ 5 * bulk L := by
  induction L with
  | nil => simp [cost]
  | cons r L ih => simp only [cost, bulk, cost1, bulk1]; omega
theorem cost_take_le (L : List Rep) (i : Nat) : cost (L.take i) ≤ cost L := by
  have := cost_app (L.take i) (L.drop i)
  rw [List.take_append_drop] at this
  omega
theorem rat_markR : ∀ (L : List Rep) (k i : Nat), i < L.length → rat (markR k L) i = mark1 (k + cost (L.take i)) (rat L i)
  | [], _, i, h => absurd h (Nat.not_lt_zero _)
  | r :: L, k, 0, _ => by simp [markR, rat, cost]
  | r :: L, k, i + 1, h => by
    have := rat_markR L (k + cost1 r) i (by simpa using h)
    have e1 : rat (markR k (r :: L)) (i + 1) = rat (markR (k + cost1 r) L) i := by simp [markR, rat]
    have e2 : rat (r :: L) (i + 1) = rat L i := by simp [rat]
    rw [e1, e2, this, List.take_succ_cons]
    simp only [cost]
    rw [Nat.add_assoc]
theorem mark1_len (k : Nat) (r : Rep) : (mark1 k r).1.length = r.1.length ∧ (mark1 k r).2.length = r.2.length := ⟨En.markX_length _ _, Mm.markX_length _ _⟩
theorem ob_in {lo hi : Nat} {w w' : World} {b e s n : Nat} {v : Value} {xs : List Value} (hv : w.ownsRow b e s v n xs) (Y : Only (v.ownBlock.getD w.heap.size) w w') (hb : lo ≤ b) (hh : ∀ g, v.ownBlock = some g → g < hi) : OnlyIn lo hi w w' := by
  refine OnlyIn.of_only Y ?_
  cases hvb : v.ownBlock with
  | none => exact .inl (by simp)
  | some g => exact .inr ⟨Nat.le_trans hb (World.ownsRow.lt hv g hvb).1, hh g hvb⟩
/-- One book marked: all else stays. -/
theorem OwnC.markE {w w' : World} {lo hi i : Nat} {v : Value} {C : List Vv.Rw} {L : List Rep} (h : OwnC w lo hi v C L) (hi' : i < L.length) {M : List En.Rw} (o : En.Own w' lo (sv (Vv.rat C i).1) M) (Y : Only (En.ob w (sv (Vv.rat C i).1)) w w') : OwnC w' lo hi v C (L.set i (M, (rat L i).2)) := by
  have Hb := h.bk i hi'
  refine ⟨by rw [List.length_set]; exact h.len, row_other h.row Hb Y (own_apart h.row Hb (by decide)), h.blk, fun j hj => ?_, fun j hj => h.bb j (by rw [List.length_set] at hj; exact hj), fun j hj => ?_, fun j hj => h.bm j (by rw [List.length_set] at hj; exact hj), fun j k hj hk => h.db j k (by rw [List.length_set] at hj; exact hj) (by rw [List.length_set] at hk; exact hk), fun j k hj hk => h.dm j k (by rw [List.length_set] at hj; exact hj) (by rw [List.length_set] at hk; exact hk), Nat.le_trans h.hi' Y.size, h.lo'⟩
  · rw [List.length_set] at hj
    rw [rat_set hi']
    by_cases e : i = j
    · subst e
      rw [if_pos rfl]
      exact o
    · rw [if_neg e]
      exact row_other (h.bk j hj) Hb Y (h.db j i hj hi' (fun q => e q.symm))
  · rw [List.length_set] at hj
    rw [rat_set hi']
    have : Mm.Own w' lo (sv (Vv.rat C j).2) (rat L j).2 := row_other (h.mb j hj) Hb Y (own_apart (h.mb j hj) Hb (by decide))
    by_cases e : i = j
    · subst e
      rw [if_pos rfl]
      exact this
    · rw [if_neg e]
      exact this
theorem OwnC.markM {w w' : World} {lo hi i : Nat} {v : Value} {C : List Vv.Rw} {L : List Rep} (h : OwnC w lo hi v C L) (hi' : i < L.length) {M : List Mm.Rw} (o : Mm.Own w' lo (sv (Vv.rat C i).2) M) (Y : Only (Mm.ob w (sv (Vv.rat C i).2)) w w') : OwnC w' lo hi v C (L.set i ((rat L i).1, M)) := by
  have Hb := h.mb i hi'
  refine ⟨by rw [List.length_set]; exact h.len, row_other h.row Hb Y (own_apart h.row Hb (by decide)), h.blk, fun j hj => ?_, fun j hj => h.bb j (by rw [List.length_set] at hj; exact hj), fun j hj => ?_, fun j hj => h.bm j (by rw [List.length_set] at hj; exact hj), fun j k hj hk => h.db j k (by rw [List.length_set] at hj; exact hj) (by rw [List.length_set] at hk; exact hk), fun j k hj hk => h.dm j k (by rw [List.length_set] at hj; exact hj) (by rw [List.length_set] at hk; exact hk), Nat.le_trans h.hi' Y.size, h.lo'⟩
  · rw [List.length_set] at hj
    rw [rat_set hi']
    have : En.Own w' lo (sv (Vv.rat C j).1) (rat L j).1 := row_other (h.bk j hj) Hb Y (own_apart (h.bk j hj) Hb (by decide))
    by_cases e : i = j
    · subst e
      rw [if_pos rfl]
      exact this
    · rw [if_neg e]
      exact this
  · rw [List.length_set] at hj
    rw [rat_set hi']
    by_cases e : i = j
    · subst e
      rw [if_pos rfl]
      exact o
    · rw [if_neg e]
      exact row_other (h.mb j hj) Hb Y (h.dm j i hj hi' (fun q => e q.symm))
/-- What marks come to. -/
def MkP (lo hi : Nat) (v : Value) (L : List Rep) (k : Nat) (w : World) (e : Ending) (w' : World) : Prop := e = .returned (.int .i64 ((k + cost L : Nat) : Int)) ∧ Own w' lo hi v (markR k L) ∧ OnlyIn lo hi w w'
theorem MkP.of {lo hi : Nat} {v : Value} {L : List Rep} {k : Nat} {w w' : World} {e : Ending} (h : e = .returned (.int .i64 ((k + cost L : Nat) : Int))) (h1 : Own w' lo hi v (markR k L)) (h2 : OnlyIn lo hi w w') : MkP lo hi v L k w e w' := ⟨h, h1, h2⟩
theorem MkP.out {lo hi : Nat} {v : Value} {L : List Rep} {k : Nat} {w w' : World} {e : Ending} (h : MkP lo hi v L k w e w') : e = .returned (.int .i64 ((k + cost L : Nat) : Int)) ∧ Own w' lo hi v (markR k L) ∧ OnlyIn lo hi w w' := h
end Go.Proofs.YtceddedlfdgbhaaGreatDoor.Rp
namespace Go.Proofs.YtceddedlfdgbhaaGreatDoor.Bk
set_option linter.unusedVariables false
/-- All of them joined, one after the other. -/
def whole (G : List (List En)) : List En := G.foldl mergeE []
def AllRis (G : List (List En)) : Prop := ∀ b ∈ G, Ris b
theorem pick_or (x y : Option En) : pickE x y = x ∨ pickE x y = y := by
  cases x with
  | none => exact .inr rfl
  | some a =>
    cases y with
    | none => exact .inl rfl
    | some b =>
      show some _ = some a ∨ some _ = some b
      cases newB b a
      · exact .inl rfl
      · exact .inr rfl
theorem merge_ris {A B : List En} (hA : Ris A) (hB : Ris B) : Ris (mergeE A B) := (merge_join A B hA hB).ris
theorem merge_look {A B : List En} (hA : Ris A) (hB : Ris B) (k : Bytes) : look (mergeE A B) k = pickE (look A k) (look B k) := (merge_join A B hA hB).at' k
/-- m is the Newest of all under the Key k. -/
structure Top (k : Bytes) (G : List (List En)) (m : Option En) : Prop where
  key : KeyAt k m
  ub : ∀ b ∈ G, pickE (look b k) m = m
  mem : m = none ∨ ∃ b ∈ G, look b k = m
theorem Top.none_of {k : Bytes} {G : List (List En)} (h : Top k G none) {b : List En} (hb : b ∈ G) : look b k = none := by
  have := h.ub b hb
  rw [pick_none_right] at this
  exact this
theorem Top.unique {k : Bytes} {G : List (List En)} {m m' : Option En} (h : Top k G m) (h' : Top k G m') : m = m' := by
  rcases h.mem with e | ⟨b, hb, e⟩
  · subst e
    rcases h'.mem with e' | ⟨b', hb', e'⟩
    · exact e'.symm
    · rw [← e', h.none_of hb']
  · rcases h'.mem with e' | ⟨b', hb', e'⟩
    · subst e'
      rw [← e, h'.none_of hb]
    · have h1 := h'.ub b hb
      have h2 := h.ub b' hb'
      rw [e] at h1
      rw [e'] at h2
      rw [← h2, ← pick_comm h.key h'.key, h1]
theorem pick_absorb {k : Bytes} {x y m : Option En} (hx : KeyAt k x) (hy : KeyAt k y) (hm : KeyAt k m) (h : pickE (pickE x y) m = m) : pickE x m = m ∧ pickE y m = m := by
  constructor
  · have e := h
    rw [pick_assoc hx hy hm] at e
    rw [← e, ← pick_assoc hx hx (pick_at hy hm), pick_self]
  · have e := h
    rw [pick_comm hx hy, pick_assoc hy hx hm] at e
    rw [← e, ← pick_assoc hy hy (pick_at hx hm), pick_self]
theorem fold_ris : ∀ (G : List (List En)) (A : List En), Ris A → AllRis G → Ris (G.foldl mergeE A)
  | [], A, hA, _ => hA
  | b :: G, A, hA, hG => fold_ris G (mergeE A b) (merge_ris hA (hG b (List.mem_cons_self ..))) (fun c hc => hG c (List.mem_cons_of_mem _ hc))
theorem fold_top (k : Bytes) : ∀ (G : List (List En)) (A : List En), Ris A → AllRis G → Top k (A :: G) (look (G.foldl mergeE A) k)
  | [], A, hA, _ => ⟨look_at _ _, fun b hb => by rw [List.mem_singleton.1 hb]; exact pick_self _, .inr ⟨A, List.mem_singleton.2 rfl, rfl⟩⟩
  | b :: G, A, hA, hG => by
    have hb := hG b (List.mem_cons_self ..)
    have ih := fold_top k G (mergeE A b) (merge_ris hA hb) (fun c hc => hG c (List.mem_cons_of_mem _ hc))
    have hu := ih.ub _ (List.mem_cons_self ..)
    rw [merge_look hA hb] at hu
    obtain ⟨u1, u2⟩ := pick_absorb (look_at A k) (look_at b k) ih.key hu
    refine ⟨ih.key, fun c hc => ?_, ?_⟩
    · rcases List.mem_cons.1 hc with rfl | hc
      · exact u1
      · rcases List.mem_cons.1 hc with rfl | hc
        · exact u2
        · exact ih.ub c (List.mem_cons_of_mem _ hc)
    · rcases ih.mem with e | ⟨c, hc, e⟩
      · exact .inl e
      · rcases List.mem_cons.1 hc with rfl | hc
        · rw [merge_look hA hb] at e
          rcases pick_or (look A k) (look b k) with q | q
          · exact .inr ⟨A, List.mem_cons_self .., q.symm.trans e⟩
          · exact .inr ⟨b, List.mem_cons_of_mem _ (List.mem_cons_self ..), q.symm.trans e⟩
        · exact .inr ⟨c, List.mem_cons_of_mem _ (List.mem_cons_of_mem _ hc), e⟩
theorem ris_nil : Ris [] := List.Pairwise.nil
theorem whole_ris {G : List (List En)} (h : AllRis G) : Ris (whole G) := fold_ris G [] ris_nil h
theorem whole_top {G : List (List En)} (h : AllRis G) (k : Bytes) : Top k G (look (whole G) k) := by
  have t := fold_top k G [] ris_nil h
  refine ⟨t.key, fun b hb => t.ub b (List.mem_cons_of_mem _ hb), ?_⟩
  rcases t.mem with e | ⟨b, hb, e⟩
  · exact .inl e
  · rcases List.mem_cons.1 hb with rfl | hb
    · exact .inl e.symm
    · exact .inr ⟨b, hb, e⟩
theorem whole_of {G : List (List En)} {W : List En} (h : AllRis G) (hW : Ris W) (t : ∀ k, Top k G (look W k)) : whole G = W :=
  ris_ext (whole_ris h) hW (fun k => (whole_top h k).unique (t k))
theorem whole_snoc (G : List (List En)) (b : List En) : whole (G ++ [b]) = mergeE (whole G) b := by
  unfold whole
  rw [List.foldl_append]
  rfl
theorem whole_one (b : List En) : whole [b] = b := mergeE_nil b
theorem merge_comm {A B : List En} (hA : Ris A) (hB : Ris B) : mergeE A B = mergeE B A := (merge_join A B hA hB).unique (merge_join B A hB hA).comm
theorem merge_of_le {A B : List En} (hA : Ris A) (hB : Ris B) (h : ∀ k, pickE (look A k) (look B k) = look B k) : mergeE A B = B :=
  (merge_join A B hA hB).unique ⟨hB, fun k => (h k).symm⟩
theorem merge_self {A : List En} (hA : Ris A) : mergeE A A = A := merge_of_le hA hA (fun k => pick_self _)
theorem merge_whole {G : List (List En)} (h : AllRis G) {b : List En} (hb : b ∈ G) : mergeE b (whole G) = whole G := merge_of_le (h b hb) (whole_ris h) (fun k => (whole_top h k).ub b hb)
/-- No more Keys, no longer. -/
theorem sub_len : ∀ (A B : List En), Ris A → Ris B → (∀ k, look B k = none → look A k = none) → A.length ≤ B.length
  | [], _, _, _, _ => Nat.zero_le _
  | a :: A, [], hA, _, h => by
    have := h a.key (look_nil _)
    rw [look_cons, if_pos rfl] at this
    cases this
  | a :: A, b :: B, hA, hB, h => by
    obtain ⟨a1, a2⟩ := ris_cons.1 hA
    obtain ⟨b1, b2⟩ := ris_cons.1 hB
    by_cases e : b.key = a.key
    · have := sub_len A B a2 b2 (fun k hk => by
        by_cases q : a.key = k
        · exact look_none_of (fun x hx e' => by have := a1 x hx; rw [e', q] at this; exact List.lt_irrefl _ this)
        · have h2 := h k (by rw [look_cons, if_neg (by rw [e]; exact q)]; exact hk)
          rw [look_cons, if_neg q] at h2
          exact h2)
      simp only [List.length_cons]
      omega
    · by_cases l : b.key < a.key
      · have := sub_len (a :: A) B hA b2 (fun k hk => by
          by_cases q : b.key = k
          · refine look_none_of (fun x hx e' => ?_)
            rcases List.mem_cons.1 hx with rfl | hx
            · rw [e', q] at l; exact List.lt_irrefl _ l
            · have := List.lt_trans l (a1 x hx)
              rw [e', q] at this
              exact List.lt_irrefl _ this
          · exact h k (by rw [look_cons, if_neg q]; exact hk))
        simp only [List.length_cons] at this ⊢
        omega
      · exfalso
        have := h a.key (look_none_of (fun x hx e' => by
          rcases List.mem_cons.1 hx with rfl | hx
          · exact e e'
          · have := b1 x hx; rw [e'] at this; exact l this))
        rw [look_cons, if_pos rfl] at this
        cases this
theorem len_whole {G : List (List En)} (h : AllRis G) {b : List En} (hb : b ∈ G) : b.length ≤ (whole G).length :=
  sub_len b _ (h b hb) (whole_ris h) (fun k hk => by have t := whole_top h k; rw [hk] at t; exact t.none_of hb)
theorem whole_mem {G : List (List En)} (h : AllRis G) {e : En} (he : e ∈ whole G) : ∃ b ∈ G, e ∈ b := by
  have hl := look_mem (whole_ris h) he
  rcases (whole_top h e.key).mem with q | ⟨b, hb, q⟩
  · rw [hl] at q; cases q
  · rw [hl] at q
    exact ⟨b, hb, (look_some q).1⟩
/-- One is told by another. -/
def at0 (G : List (List En)) (i : Nat) : List En := G.getD i []
theorem at0_mem {G : List (List En)} {i : Nat} (h : i < G.length) : at0 G i ∈ G := by
  unfold at0
  rw [List.getD_eq_getElem?_getD, List.getElem?_eq_getElem h]
  exact List.getElem_mem h
theorem at0_get {G : List (List En)} {i : Nat} (h : i < G.length) : at0 G i = G[i] := by
  unfold at0
  rw [List.getD_eq_getElem?_getD, List.getElem?_eq_getElem h]
  rfl
theorem at0_set {G : List (List En)} {i j : Nat} {x : List En} (h : i < G.length) : at0 (G.set i x) j = if i = j then x else at0 G j := by
  unfold at0
  rw [List.getD_eq_getElem?_getD, List.getD_eq_getElem?_getD, List.getElem?_set]
  by_cases e : i = j
  · subst e; simp [h]
  · simp [e]
def tell (G : List (List En)) (f t : Nat) : List (List En) := G.set t (mergeE (at0 G t) (at0 G f))
theorem tell_length (G : List (List En)) (f t : Nat) : (tell G f t).length = G.length := List.length_set ..
theorem tell_at {G : List (List En)} {f t i : Nat} (ht : t < G.length) : at0 (tell G f t) i = if t = i then mergeE (at0 G t) (at0 G f) else at0 G i := at0_set ht
theorem setAll_ris {G : List (List En)} {i : Nat} {x : List En} (h : AllRis G) (hx : Ris x) : AllRis (G.set i x) := by
  intro b hb
  rcases List.mem_or_eq_of_mem_set hb with q | q
  · exact h b q
  · rw [q]; exact hx
theorem tell_ris {G : List (List En)} {f t : Nat} (h : AllRis G) (hf : f < G.length) (ht : t < G.length) : AllRis (tell G f t) := setAll_ris h (merge_ris (h _ (at0_mem ht)) (h _ (at0_mem hf)))
/-- Told or not, together they know the same. -/
theorem tell_whole {G : List (List En)} {f t : Nat} (h : AllRis G) (hf : f < G.length) (ht : t < G.length) : whole (tell G f t) = whole G := by
  refine whole_of (tell_ris h hf ht) (whole_ris h) (fun k => ?_)
  have T := whole_top h k
  have rt := h _ (at0_mem ht)
  have rf := h _ (at0_mem hf)
  have ej := merge_look rt rf k
  have ut := T.ub _ (at0_mem ht)
  have uf := T.ub _ (at0_mem hf)
  refine ⟨T.key, fun b hb => ?_, ?_⟩
  · rcases List.mem_or_eq_of_mem_set hb with q | q
    · exact T.ub b q
    · rw [q, ej, pick_assoc (look_at _ k) (look_at _ k) T.key, uf, ut]
  · rcases T.mem with e | ⟨b, hb, e⟩
    · exact .inl e
    · obtain ⟨j, hj, rfl⟩ := List.mem_iff_getElem.1 hb
      by_cases q : t = j
      · subst q
        refine .inr ⟨mergeE (at0 G t) (at0 G f), ?_, ?_⟩
        · exact List.mem_iff_getElem.2 ⟨t, by rw [tell_length]; exact hj, by unfold tell; rw [List.getElem_set_self]⟩
        · rw [ej, at0_get hj, e, pick_comm T.key (look_at _ k)]
          exact uf
      · refine .inr ⟨G[j], ?_, e⟩
        exact List.mem_iff_getElem.2 ⟨j, by rw [tell_length]; exact hj, by unfold tell; rw [List.getElem_set_ne q]⟩
/-- From 0 to 1, from 1 to 2, and so on up to m. -/
def pass (G : List (List En)) (m : Nat) : List (List En) := (List.range m).foldl (fun G i => tell G i (i + 1)) G
theorem pass_succ (G : List (List En)) (m : Nat) : pass G (m + 1) = tell (pass G m) m (m + 1) := by
  unfold pass
  rw [List.range_succ, List.foldl_append]
  rfl
theorem pass_length (G : List (List En)) : ∀ m, (pass G m).length = G.length
  | 0 => rfl
  | m + 1 => by rw [pass_succ, tell_length, pass_length G m]
theorem pass_ris {G : List (List En)} (h : AllRis G) : ∀ m, m < G.length → AllRis (pass G m)
  | 0, _ => h
  | m + 1, hm => by rw [pass_succ]; exact tell_ris (pass_ris h m (by omega)) (by rw [pass_length]; omega) (by rw [pass_length]; exact hm)
theorem pass_whole {G : List (List En)} (h : AllRis G) : ∀ m, m < G.length → whole (pass G m) = whole G
  | 0, _ => rfl
  | m + 1, hm => by rw [pass_succ, tell_whole (pass_ris h m (by omega)) (by rw [pass_length]; omega) (by rw [pass_length]; exact hm), pass_whole h m (by omega)]
theorem take_ris {G : List (List En)} (h : AllRis G) (j : Nat) : AllRis (G.take j) := fun b hb => h b (List.mem_of_mem_take hb)
theorem take_whole {G : List (List En)} {j : Nat} (hj : j < G.length) : whole (G.take (j + 1)) = mergeE (whole (G.take j)) (at0 G j) := by
  rw [List.take_add_one, List.getElem?_eq_getElem hj, at0_get hj]
  exact whole_snoc _ _
theorem pass_at {G : List (List En)} (h : AllRis G) : ∀ m, m < G.length → ∀ j, at0 (pass G m) j = if j ≤ m then (if j < G.length then whole (G.take (j + 1)) else at0 G j) else at0 G j
  | 0, hm, j => by
    by_cases q : j ≤ 0
    · have : j = 0 := by omega
      subst this
      rw [if_pos (Nat.le_refl _), if_pos hm, take_whole hm, List.take_zero]
      exact (mergeE_nil _).symm
    · rw [if_neg q]
      rfl
  | m + 1, hm, j => by
    rw [pass_succ, tell_at (by rw [pass_length]; exact hm)]
    by_cases q : m + 1 = j
    · subst q
      rw [if_pos rfl, if_pos (Nat.le_refl _), if_pos hm, pass_at h m (by omega) (m + 1), if_neg (by omega), pass_at h m (by omega) m, if_pos (Nat.le_refl _), if_pos (by omega), take_whole hm]
      exact merge_comm (h _ (at0_mem hm)) (whole_ris (take_ris h _))
    · rw [if_neg q, pass_at h m (by omega) j]
      by_cases q2 : j ≤ m
      · rw [if_pos q2, if_pos (show j < G.length by omega), if_pos (show j ≤ m + 1 by omega)]
      · rw [if_neg q2, if_neg (show ¬ j ≤ m + 1 by omega)]
/-- Once around, and once more up to the last one. -/
def round1 (G : List (List En)) : List (List En) := if 1 < G.length then tell (pass G (G.length - 1)) (G.length - 1) 0 else pass G (G.length - 1)
def around (G : List (List En)) : List (List En) := pass (round1 G) (G.length - 1)
theorem round1_length (G : List (List En)) : (round1 G).length = G.length := by
  unfold round1
  split
  · rw [tell_length, pass_length]
  · rw [pass_length]
theorem around_length (G : List (List En)) : (around G).length = G.length := by
  unfold around
  rw [pass_length, round1_length]
theorem round1_ris {G : List (List En)} (h : AllRis G) (hn : 0 < G.length) : AllRis (round1 G) := by
  unfold round1
  split
  · exact tell_ris (pass_ris h _ (by omega)) (by rw [pass_length]; omega) (by rw [pass_length]; omega)
  · exact pass_ris h _ (by omega)
theorem round1_whole {G : List (List En)} (h : AllRis G) (hn : 0 < G.length) : whole (round1 G) = whole G := by
  unfold round1
  split
  · rw [tell_whole (pass_ris h _ (by omega)) (by rw [pass_length]; omega) (by rw [pass_length]; omega), pass_whole h _ (by omega)]
  · exact pass_whole h _ (by omega)
theorem round1_first {G : List (List En)} (h : AllRis G) (hn : 0 < G.length) : at0 (round1 G) 0 = whole G := by
  have et : G.take (G.length - 1 + 1) = G := by rw [show G.length - 1 + 1 = G.length by omega, List.take_length]
  unfold round1
  split
  · rename_i h1
    rw [tell_at (by rw [pass_length]; omega), if_pos rfl, pass_at h _ (by omega), if_pos (Nat.zero_le _), if_pos hn, pass_at h _ (by omega), if_pos (Nat.le_refl _), if_pos (by omega), et, take_whole hn, List.take_zero]
    show mergeE (mergeE [] (at0 G 0)) _ = _
    rw [mergeE_nil]
    exact merge_whole h (at0_mem hn)
  · rename_i h1
    have e1 : G.length = 1 := by omega
    rw [pass_at h _ (by omega), if_pos (Nat.zero_le _), if_pos hn]
    rw [show G.length - 1 = 0 by omega] at et
    rw [et]
/-- In the end all know what all knew together. -/
theorem around_at {G : List (List En)} (h : AllRis G) {j : Nat} (hj : j < G.length) : at0 (around G) j = whole G := by
  have hn : 0 < G.length := by omega
  have h1 := round1_ris h hn
  unfold around
  rw [pass_at h1 _ (by rw [round1_length]; omega), if_pos (by omega), if_pos (by rw [round1_length]; exact hj)]
  refine whole_of (take_ris h1 _) (whole_ris h) (fun k => ?_)
  have T := whole_top h1 k
  rw [round1_whole h hn] at T
  refine ⟨T.key, fun b hb => T.ub b (List.mem_of_mem_take hb), .inr ⟨at0 (round1 G) 0, ?_, by rw [round1_first h hn]⟩⟩
  rw [at0_get (by rw [round1_length]; exact hn)]
  exact List.mem_iff_getElem.2 ⟨0, by rw [List.length_take, round1_length]; omega, List.getElem_take⟩
theorem around_ris {G : List (List En)} (h : AllRis G) (hn : 0 < G.length) : AllRis (around G) := pass_ris (round1_ris h hn) _ (by rw [round1_length]; omega)
theorem around_eq {G : List (List En)} (h : AllRis G) : around G = List.replicate G.length (whole G) := by
  refine List.ext_getElem (by rw [around_length, List.length_replicate]) (fun j h1 h2 => ?_)
  rw [List.getElem_replicate, ← at0_get h1]
  rw [around_length] at h1
  exact around_at h h1
theorem rep_whole {n : Nat} {W : List En} (hW : Ris W) (hn : 0 < n) : whole (List.replicate n W) = W := by
  refine whole_of (fun b hb => by rw [(List.mem_replicate.1 hb).2]; exact hW) hW (fun k => ⟨look_at _ _, fun b hb => by rw [(List.mem_replicate.1 hb).2]; exact pick_self _, .inr ⟨W, List.mem_replicate.2 ⟨by omega, rfl⟩, rfl⟩⟩)
theorem around_whole {G : List (List En)} (h : AllRis G) (hn : 0 < G.length) : whole (around G) = whole G := by
  rw [around_eq h]
  exact rep_whole (whole_ris h) hn
theorem around_again {G : List (List En)} (h : AllRis G) (hn : 0 < G.length) : around (around G) = around G := by
  rw [around_eq (around_ris h hn), around_whole h hn, around_length, around_eq h]
end Go.Proofs.YtceddedlfdgbhaaGreatDoor.Bk
namespace Go.Proofs.YtceddedlfdgbhaaGreatDoor.Hq
set_option linter.unusedVariables false
def par (i : Nat) : Nat := (i - 1) / 2
theorem par_lt {i : Nat} (h : 0 < i) : par i < i := by unfold par; omega
variable {α : Type}
def upd (x : Nat → α) (i : Nat) (y : α) : Nat → α := fun k => if k = i then y else x k
def swp (x : Nat → α) (i j : Nat) : Nat → α := fun k => if k = j then x i else if k = i then x j else x k
theorem upd_at (x : Nat → α) (i : Nat) (y : α) : upd x i y i = y := by simp [upd]
theorem upd_ne {x : Nat → α} {i k : Nat} {y : α} (h : k ≠ i) : upd x i y k = x k := by simp [upd, h]
theorem swp_j (x : Nat → α) (i j : Nat) : swp x i j j = x i := by simp [swp]
theorem swp_i (x : Nat → α) (i j : Nat) : swp x i j i = x j := by
  unfold swp
  by_cases h : i = j
  · rw [if_pos h, h]
  · rw [if_neg h, if_pos rfl]
theorem swp_ne {x : Nat → α} {i j k : Nat} (h1 : k ≠ i) (h2 : k ≠ j) : swp x i j k = x k := by simp [swp, h1, h2]
theorem swp_upd (x : Nat → α) (i j : Nat) : swp x i j = upd (upd x i (x j)) j (x i) := by
  funext k
  simp [swp, upd]
/-- Whatever parent is no greater than its children. -/
def Hok (le : α → α → Prop) (n : Nat) (x : Nat → α) : Prop := ∀ i, 0 < i → i < n → le (x (par i)) (x i)
/-- So it is, but for j, which may be less than its parent. -/
structure Uok (le : α → α → Prop) (n : Nat) (x : Nat → α) (j : Nat) : Prop where
  most : ∀ i, 0 < i → i < n → i ≠ j → le (x (par i)) (x i)
  over : 0 < j → ∀ i, 0 < i → i < n → par i = j → le (x (par j)) (x i)
/-- So it is, but for j, which may be greater than its children. -/
structure Dok (le : α → α → Prop) (n : Nat) (x : Nat → α) (j : Nat) : Prop where
  most : ∀ i, 0 < i → i < n → par i ≠ j → le (x (par i)) (x i)
  over : 0 < j → ∀ i, 0 < i → i < n → par i = j → le (x (par j)) (x i)
theorem up_stop {le : α → α → Prop} {n j : Nat} {x : Nat → α} (h : Uok le n x j) (k : 0 < j → le (x (par j)) (x j)) : Hok le n x := by
  intro i h0 hn
  by_cases e : i = j
  · subst e; exact k h0
  · exact h.most i h0 hn e
theorem up_swap {le : α → α → Prop} (tr : ∀ a b c, le a b → le b c → le a c) {n j : Nat} {x : Nat → α} (h : Uok le n x j) (h0 : 0 < j) (hn : j < n) (hl : le (x j) (x (par j))) : Uok le n (swp x (par j) j) (par j) := by
  have hp := par_lt h0
  refine ⟨fun i i0 iN ine => ?_, fun p0 i i0 iN ip => ?_⟩
  · by_cases e : i = j
    · subst e
      rw [swp_i, swp_j]
      exact hl
    · rw [swp_ne (x := x) ine e]
      by_cases e1 : par i = j
      · rw [e1, swp_j]
        exact h.over h0 i i0 iN e1
      · by_cases e2 : par i = par j
        · have := h.most i i0 iN e
          rw [e2] at this
          rw [e2, swp_i]
          exact tr _ _ _ hl this
        · rw [swp_ne e2 e1]
          exact h.most i i0 iN e
  · have hpp := par_lt p0
    rw [swp_ne (x := x) (k := par (par j)) (by omega) (by omega)]
    have h1 := h.most (par j) p0 (by omega) (by omega)
    by_cases e : i = j
    · subst e
      rw [swp_j]
      exact h1
    · have := par_lt i0
      rw [swp_ne (x := x) (k := i) (by omega) e]
      have h2 := h.most i i0 iN e
      rw [ip] at h2
      exact tr _ _ _ h1 h2
theorem down_stop {le : α → α → Prop} {n j : Nat} {x : Nat → α} (h : Dok le n x j) (k : ∀ i, 0 < i → i < n → par i = j → le (x j) (x i)) : Hok le n x := by
  intro i h0 hn
  by_cases e : par i = j
  · rw [e]; exact k i h0 hn e
  · exact h.most i h0 hn e
theorem down_swap {le : α → α → Prop} {n i j : Nat} {x : Nat → α} (h : Dok le n x i) (h0 : 0 < j) (hn : j < n) (hp : par j = i) (hl : le (x j) (x i)) (hs : ∀ k, 0 < k → k < n → par k = i → le (x j) (x k)) : Dok le n (swp x i j) j := by
  have hij := par_lt h0
  refine ⟨fun k k0 kN kp => ?_, fun _ k k0 kN kp => ?_⟩
  · have hk := par_lt k0
    by_cases e : k = j
    · subst e
      rw [hp, swp_i, swp_j]
      exact hl
    · by_cases e1 : k = i
      · subst e1
        rw [swp_i, swp_ne (x := x) (k := par k) (by omega) (by omega)]
        exact h.over k0 j h0 hn hp
      · rw [swp_ne (x := x) (k := k) e1 e]
        by_cases e2 : par k = i
        · rw [e2, swp_i]
          exact hs k k0 kN e2
        · rw [swp_ne e2 kp]
          exact h.most k k0 kN e2
  · have hk := par_lt k0
    rw [hp, swp_i, swp_ne (x := x) (k := k) (by omega) (by omega)]
    have := h.most k k0 kN (by omega)
    rw [kp] at this
    exact this
theorem push_ok {le : α → α → Prop} {n : Nat} {x : Nat → α} (h : Hok le n x) (y : α) : Uok le (n + 1) (upd x n y) n := by
  refine ⟨fun i h0 hn hi => ?_, fun h0 i i0 iN ip => ?_⟩
  · have := par_lt h0
    rw [upd_ne (x := x) (k := i) hi, upd_ne (x := x) (k := par i) (by omega)]
    exact h i h0 (by omega)
  · have := par_lt i0
    omega
theorem pop_ok {le : α → α → Prop} {n : Nat} {x : Nat → α} (h : Hok le (n + 1) x) : Dok le n (swp x 0 n) 0 := by
  refine ⟨fun i h0 hn hi => ?_, fun h0 => absurd h0 (by omega)⟩
  have := par_lt h0
  rw [swp_ne (x := x) (k := i) (by omega) (by omega), swp_ne (x := x) (k := par i) hi (by omega)]
  exact h i h0 (by omega)
theorem fix_ok {le : α → α → Prop} {n : Nat} {x : Nat → α} (h : Hok le n x) (y : α) : Dok le n (upd x 0 y) 0 := by
  refine ⟨fun i h0 hn hi => ?_, fun h0 => absurd h0 (by omega)⟩
  rw [upd_ne (x := x) (k := i) (by omega), upd_ne (x := x) (k := par i) hi]
  exact h i h0 hn
theorem top_le {le : α → α → Prop} (rf : ∀ a, le a a) (tr : ∀ a b c, le a b → le b c → le a c) {n : Nat} {x : Nat → α} (h : Hok le n x) : ∀ i, i < n → le (x 0) (x i) := by
  intro i
  induction i using Nat.strongRecOn with
  | ind i ih =>
    intro hn
    rcases Nat.eq_zero_or_pos i with rfl | h0
    · exact rf _
    · have hp := par_lt h0
      exact tr _ _ _ (ih (par i) hp (by omega)) (h i h0 hn)
/-- The measures of all added up. -/
def tot (f : α → Nat) (x : Nat → α) : Nat → Nat
  | 0 => 0
  | n + 1 => tot f x n + f (x n)
theorem tot_out (f : α → Nat) {x : Nat → α} {i : Nat} {y : α} : ∀ {n : Nat}, n ≤ i → tot f (upd x i y) n = tot f x n
  | 0, _ => rfl
  | n + 1, h => by
    show tot f (upd x i y) n + f (upd x i y n) = tot f x n + f (x n)
    rw [tot_out f (by omega), upd_ne (by omega)]
theorem tot_upd (f : α → Nat) {x : Nat → α} {i : Nat} {y : α} : ∀ {n : Nat}, i < n → tot f (upd x i y) n + f (x i) = tot f x n + f y
  | 0, h => absurd h (by omega)
  | n + 1, h => by
    show tot f (upd x i y) n + f (upd x i y n) + f (x i) = tot f x n + f (x n) + f y
    by_cases e : i = n
    · subst e
      rw [tot_out f (Nat.le_refl _), upd_at]
      omega
    · have := tot_upd f (x := x) (i := i) (y := y) (n := n) (by omega)
      rw [upd_ne (by omega)]
      omega
theorem tot_congr (f : α → Nat) {x y : Nat → α} : ∀ {n : Nat}, (∀ i, i < n → x i = y i) → tot f x n = tot f y n
  | 0, _ => rfl
  | n + 1, h => by
    show tot f x n + f (x n) = tot f y n + f (y n)
    rw [tot_congr f (fun i hi => h i (by omega)), h n (by omega)]
theorem tot_le (f : α → Nat) {x : Nat → α} {m : Nat} : ∀ {n : Nat}, (∀ i, i < n → f (x i) ≤ m) → tot f x n ≤ n * m
  | 0, _ => by simp [tot]
  | n + 1, h => by
    show tot f x n + f (x n) ≤ (n + 1) * m
    have := tot_le f (x := x) (m := m) (n := n) (fun i hi => h i (by omega))
    have := h n (by omega)
    rw [Nat.add_mul]
    omega
theorem tot_swp (f : α → Nat) {x : Nat → α} {i j n : Nat} (hi : i < n) (hj : j < n) : tot f (swp x i j) n = tot f x n := by
  rw [swp_upd]
  have h1 := tot_upd f (x := x) (i := i) (y := x j) hi
  have h2 := tot_upd f (x := upd x i (x j)) (i := j) (y := x i) hj
  by_cases e : i = j
  · subst e
    rw [upd_at] at h2
    omega
  · rw [upd_ne (x := x) (k := j) (fun h => e h.symm)] at h2
    omega
/-- The same things, at other places. -/
structure Per (n : Nat) (x y : Nat → α) : Prop where
  from' : ∀ i, i < n → ∃ j, j < n ∧ y i = x j
  to' : ∀ i, i < n → ∃ j, j < n ∧ x i = y j
  sum : ∀ f : α → Nat, tot f y n = tot f x n
theorem Per.refl (n : Nat) (x : Nat → α) : Per n x x := ⟨fun i h => ⟨i, h, rfl⟩, fun i h => ⟨i, h, rfl⟩, fun _ => rfl⟩
theorem Per.trans {n : Nat} {x y z : Nat → α} (h : Per n x y) (k : Per n y z) : Per n x z :=
  ⟨fun i hi => by
      obtain ⟨j, hj, e⟩ := k.from' i hi
      obtain ⟨m, hm, e2⟩ := h.from' j hj
      exact ⟨m, hm, e.trans e2⟩,
    fun i hi => by
      obtain ⟨j, hj, e⟩ := h.to' i hi
      obtain ⟨m, hm, e2⟩ := k.to' j hj
      exact ⟨m, hm, e.trans e2⟩,
    fun f => (k.sum f).trans (h.sum f)⟩
theorem Per.swp {n : Nat} {x y : Nat → α} (h : Per n x y) {i j : Nat} (hi : i < n) (hj : j < n) : Per n x (swp y i j) := by
  refine h.trans ⟨fun k hk => ?_, fun k hk => ?_, fun f => tot_swp f hi hj⟩
  · by_cases e1 : k = j
    · subst e1; exact ⟨i, hi, swp_j ..⟩
    · by_cases e2 : k = i
      · subst e2; exact ⟨j, hj, swp_i ..⟩
      · exact ⟨k, hk, swp_ne e2 e1⟩
  · by_cases e1 : k = j
    · subst e1; exact ⟨i, hi, (swp_i ..).symm⟩
    · by_cases e2 : k = i
      · subst e2; exact ⟨j, hj, (swp_j ..).symm⟩
      · exact ⟨k, hk, (swp_ne e2 e1).symm⟩
end Go.Proofs.YtceddedlfdgbhaaGreatDoor.Hq
namespace Go.Proofs.YtceddedlfdgbhaaGreatDoor.Bk
open Hq (tot)
set_option linter.unusedVariables false
/-- J has one of each Key that has gone by; what the n rests have is still to come. -/
structure Mq (K : Bytes → Prop) (N : Nat) (J : List En) (n : Nat) (y : Nat → List En) : Prop where
  ris : Ris J
  each : ∀ i, i < n → Ris (y i)
  keys : ∀ k, K k ↔ (∃ e ∈ J, e.key = k) ∨ ∃ i, i < n ∧ ∃ e ∈ y i, e.key = k
  ahead : ∀ e ∈ J, ∀ i, i < n → ∀ e' ∈ y i, ¬ e'.key < e.key
  len : J.length + tot List.length y n ≤ N
theorem Mq.start {n : Nat} {y : Nat → List En} (h : ∀ i, i < n → Ris (y i)) : Mq (fun k => ∃ i, i < n ∧ ∃ e ∈ y i, e.key = k) (tot List.length y n) [] n y :=
  ⟨List.Pairwise.nil, h, fun k => by simp, fun e he => absurd he (by simp), by simp⟩
/-- One step: the first of the first rest has gone. -/
structure Nx (n : Nat) (y : Nat → List En) (e : En) (X : List En) (m : Nat) (z : Nat → List En) : Prop where
  sub : ∀ i, i < m → ∀ a ∈ z i, a ∈ X ∨ ∃ j, j < n ∧ a ∈ y j
  sup : ∀ a, (a ∈ X ∨ ∃ j, 0 < j ∧ j < n ∧ a ∈ y j) → ∃ i, i < m ∧ a ∈ z i
  each : ∀ i, i < m → Ris (z i)
  sum : tot List.length z m + 1 = tot List.length y n
theorem Mq.step {K : Bytes → Prop} {N n m : Nat} {J : List En} {y z : Nat → List En} {e : En} {X : List En} (h : Mq K N J n y) (hn : 0 < n) (h0 : y 0 = e :: X) (ht : ∀ i, i < n → ∀ a ∈ y i, ¬ a.key < e.key) (x : Nx n y e X m z) : Mq K N (putE J e) m z := by
  have hX : ∀ a ∈ X, e.key < a.key := by
    have := h.each 0 hn
    rw [h0] at this
    exact (ris_cons.1 this).1
  have hXm : ∀ a ∈ X, a ∈ y 0 := fun a ha => by rw [h0]; exact List.mem_cons_of_mem _ ha
  have he0 : e ∈ y 0 := by rw [h0]; exact List.mem_cons_self ..
  have ha : ∀ a ∈ J, ¬ e.key < a.key := fun a hJ => h.ahead a hJ 0 hn e he0
  have zin : ∀ i, i < m → ∀ a ∈ z i, ∃ j, j < n ∧ a ∈ y j := fun i hi a hz => by
    rcases x.sub i hi a hz with q | q
    · exact ⟨0, hn, hXm a q⟩
    · exact q
  have hput : ∃ a ∈ putE J e, a.key = e.key := by
    unfold putE
    by_cases hc : J.getLast?.map (·.key) = some e.key
    · rw [if_pos hc]
      obtain ⟨l, hl, hk⟩ := Option.map_eq_some_iff.1 hc
      exact ⟨l, List.mem_of_getLast? hl, hk⟩
    · rw [if_neg hc]
      exact ⟨e, by simp, rfl⟩
  have hsub : ∀ a ∈ J, a ∈ putE J e := fun a hJ => by
    unfold putE
    split
    · exact hJ
    · simp [hJ]
  refine ⟨?_, x.each, fun k => ⟨fun hk => ?_, fun hk => ?_⟩, fun a hJ i hi a' hz => ?_, ?_⟩
  · unfold putE
    by_cases hc : J.getLast?.map (·.key) = some e.key
    · rw [if_pos hc]; exact h.ris
    · rw [if_neg hc]
      refine List.pairwise_append.2 ⟨h.ris, by simp, fun a hJ b hb => ?_⟩
      have : b = e := by simpa using hb
      rw [this]
      cases hl : J.getLast? with
      | none => rw [List.getLast?_eq_none_iff.1 hl] at hJ; cases hJ
      | some l =>
        have hm : l ∈ J := List.mem_of_getLast? hl
        have hne : l.key ≠ e.key := fun e' => hc (by rw [hl]; simp [e'])
        have hlx : l.key < e.key := by
          by_cases q : l.key < e.key
          · exact q
          · exact absurd (lt_total q (ha l hm)) hne
        rcases last_of h.ris hl hJ with rfl | h2
        · exact hlx
        · exact List.lt_trans h2 hlx
  · rcases (h.keys k).1 hk with ⟨a, hJ, q⟩ | ⟨i, hi, a, hy, q⟩
    · exact .inl ⟨a, hsub a hJ, q⟩
    · rcases Nat.eq_zero_or_pos i with rfl | hp
      · rw [h0] at hy
        rcases List.mem_cons.1 hy with rfl | hy
        · obtain ⟨b, hb, e'⟩ := hput
          exact .inl ⟨b, hb, e'.trans q⟩
        · obtain ⟨i, hi, hz⟩ := x.sup a (.inl hy)
          exact .inr ⟨i, hi, a, hz, q⟩
      · obtain ⟨i, hi, hz⟩ := x.sup a (.inr ⟨i, hp, hi, hy⟩)
        exact .inr ⟨i, hi, a, hz, q⟩
  · rcases hk with ⟨a, hJ, q⟩ | ⟨i, hi, a, hz, q⟩
    · rcases put_mem hJ with hJ | rfl
      · exact (h.keys k).2 (.inl ⟨a, hJ, q⟩)
      · exact (h.keys k).2 (.inr ⟨0, hn, a, he0, q⟩)
    · obtain ⟨j, hj, hy⟩ := zin i hi a hz
      exact (h.keys k).2 (.inr ⟨j, hj, a, hy, q⟩)
  · obtain ⟨j, hj, hy⟩ := zin i hi a' hz
    rcases put_mem hJ with hJ | rfl
    · exact h.ahead a hJ j hj a' hy
    · exact ht j hj a' hy
  · have := put_len J e
    have := x.sum
    have := h.len
    omega
/-- Whoever rises and has just these Keys is as long as any other one. -/
theorem same_len {A B : List En} (hA : Ris A) (hB : Ris B) (h : ∀ k, (∃ e ∈ A, e.key = k) ↔ ∃ e ∈ B, e.key = k) : A.length = B.length := by
  have go : ∀ {A B : List En}, Ris A → Ris B → (∀ k, (∃ e ∈ A, e.key = k) → ∃ e ∈ B, e.key = k) → A.length ≤ B.length := fun {A B} hA hB h =>
    sub_len A B hA hB (fun k hk => look_none_of (fun a ha e => by
      obtain ⟨b, hb, e2⟩ := h k ⟨a, ha, e⟩
      have := look_mem hB hb
      rw [e2, hk] at this
      cases this))
  exact Nat.le_antisymm (go hA hB (fun k => (h k).1)) (go hB hA (fun k => (h k).2))
theorem whole_keys {G : List (List En)} (h : AllRis G) (k : Bytes) : (∃ e ∈ whole G, e.key = k) ↔ ∃ b ∈ G, ∃ e ∈ b, e.key = k := by
  constructor
  · rintro ⟨e, he, q⟩
    obtain ⟨b, hb, hm⟩ := whole_mem h he
    exact ⟨b, hb, e, hm, q⟩
  · rintro ⟨b, hb, e, he, q⟩
    cases hl : look (whole G) k with
    | none =>
      have t := whole_top h k
      rw [hl] at t
      have := look_mem (h b hb) he
      rw [q, t.none_of hb] at this
      cases this
    | some m => exact ⟨m, (look_some hl).1, (look_some hl).2⟩
end Go.Proofs.YtceddedlfdgbhaaGreatDoor.Bk
