/-
  Records in plain words: their order, lists that are in order, and what sorting answers, whatever way it goes. No program in sight.
-/
import Derived.Test.YtgebhkfopahdoaaNameF
namespace Go.Proofs.Ytgebhkfopahdoaa.Rc
open Go.RowKit
open Go.Proofs.Ytgebhkfopahdoaa.Nm (Bytes befL befL_irrefl befL_asymm befL_total labels labels_inj okB)
theorem lt_total {a b : Bytes} (h : ¬ a < b) (k : ¬ b < a) : a = b := List.le_antisymm k h
theorem befL_trans : ∀ (x y z : List Bytes), befL x y = true → befL y z = true → befL x z = true
  | _, [], _, h, _ => by simp [befL] at h
  | _, _ :: _, [], _, k => by simp [befL] at k
  | [], _ :: _, _ :: _, _, _ => rfl
  | p :: x, q :: y, r :: z, h, k => by
    unfold befL at h k ⊢
    by_cases e1 : p = q
    · subst e1
      rw [if_pos rfl] at h
      by_cases e2 : p = r
      · rw [if_pos e2] at k ⊢
        exact befL_trans x y z h k
      · rw [if_neg e2] at k ⊢
        exact k
    · rw [if_neg e1] at h
      have h' := of_decide_eq_true h
      by_cases e2 : q = r
      · subst e2
        rw [if_neg e1]
        exact h
      · rw [if_neg e2] at k
        have k' := of_decide_eq_true k
        have hk := List.lt_trans h' k'
        rw [if_neg (fun e => by subst e; exact List.lt_irrefl _ hk)]
        exact decide_eq_true hk
structure Rec where
  name : Bytes
  typ : Int
  ttl : Int
  text : Bytes
def Same (a b : Rec) : Prop := a.name = b.name ∧ a.typ = b.typ ∧ a.text = b.text
theorem Same.refl (a : Rec) : Same a a := ⟨rfl, rfl, rfl⟩
theorem Same.symm {a b : Rec} (h : Same a b) : Same b a := ⟨h.1.symm, h.2.1.symm, h.2.2.symm⟩
theorem Same.trans {a b c : Rec} (h : Same a b) (k : Same b c) : Same a c := ⟨h.1.trans k.1, h.2.1.trans k.2.1, h.2.2.trans k.2.2⟩
/-- Their order: by Name, then Type, then Text. -/
def befR (a b : Rec) : Bool := if a.name = b.name then (if a.typ = b.typ then decide (a.text < b.text) else decide (a.typ < b.typ)) else befL (labels a.name).reverse (labels b.name).reverse
theorem befR_irrefl (a : Rec) : befR a a = false := by
  unfold befR
  rw [if_pos rfl, if_pos rfl]
  exact decide_eq_false (List.lt_irrefl _)
theorem befR_left {a b c : Rec} (h : Same a b) : befR a c = befR b c := by unfold befR; rw [h.1, h.2.1, h.2.2]
theorem befR_right {a b c : Rec} (h : Same a b) : befR c a = befR c b := by unfold befR; rw [h.1, h.2.1, h.2.2]
theorem rev_inj {a b : Bytes} (h : (labels a).reverse = (labels b).reverse) : a = b := labels_inj (List.reverse_inj.1 h)
theorem befR_total {a b : Rec} (h : befR a b = false) (k : befR b a = false) : Same a b := by
  unfold befR at h k
  by_cases e1 : a.name = b.name
  · rw [if_pos e1] at h
    rw [if_pos e1.symm] at k
    by_cases e2 : a.typ = b.typ
    · rw [if_pos e2] at h
      rw [if_pos e2.symm] at k
      exact ⟨e1, e2, lt_total (of_decide_eq_false h) (of_decide_eq_false k)⟩
    · rw [if_neg e2] at h
      rw [if_neg (fun e => e2 e.symm)] at k
      have h' := of_decide_eq_false h
      have k' := of_decide_eq_false k
      exact absurd (by omega) e2
  · rw [if_neg e1] at h
    rw [if_neg (fun e => e1 e.symm)] at k
    exact absurd (rev_inj (befL_total _ _ h k)) e1
theorem befR_trans {a b c : Rec} (h : befR a b = true) (k : befR b c = true) : befR a c = true := by
  unfold befR at h k ⊢
  by_cases e1 : a.name = b.name
  · rw [if_pos e1] at h
    by_cases e2 : b.name = c.name
    · rw [if_pos e2] at k
      rw [if_pos (e1.trans e2)]
      by_cases t1 : a.typ = b.typ
      · rw [if_pos t1] at h
        by_cases t2 : b.typ = c.typ
        · rw [if_pos t2] at k
          rw [if_pos (t1.trans t2)]
          exact decide_eq_true (List.lt_trans (of_decide_eq_true h) (of_decide_eq_true k))
        · rw [if_neg t2] at k
          rw [if_neg (by rw [t1]; exact t2), t1]
          exact k
      · rw [if_neg t1] at h
        have h' := of_decide_eq_true h
        by_cases t2 : b.typ = c.typ
        · rw [if_neg (by rw [← t2]; exact t1), ← t2]
          exact h
        · rw [if_neg t2] at k
          have k' := of_decide_eq_true k
          rw [if_neg (by omega)]
          exact decide_eq_true (by omega)
    · rw [if_neg e2] at k
      rw [if_neg (by rw [e1]; exact e2), e1]
      exact k
  · rw [if_neg e1] at h
    by_cases e2 : b.name = c.name
    · rw [if_neg (by rw [← e2]; exact e1), ← e2]
      exact h
    · rw [if_neg e2] at k
      have hk := befL_trans _ _ _ h k
      rw [if_neg (fun e => by rw [e, befL_irrefl] at hk; cases hk)]
      exact hk
theorem befR_asymm {a b : Rec} (h : befR a b = true) : befR b a = false := by
  cases k : befR b a with
  | false => rfl
  | true => rw [← befR_irrefl a, ← befR_trans h k]
/-- In order, no two with one Name, Type and Text. -/
def Up (l : List Rec) : Prop := l.Pairwise (fun a b => befR a b = true)
/-- Two lists in order that hold the same are one. -/
theorem up_unique : ∀ (a b : List Rec), Up a → Up b → (∀ r ∈ a, ∃ s ∈ b, Same r s) → (∀ s ∈ b, ∃ r ∈ a, Same r s) → (∀ r ∈ a, ∀ s ∈ b, Same r s → r = s) → a = b
  | [], [], _, _, _, _, _ => rfl
  | [], y :: b, _, _, _, h, _ => by obtain ⟨r, hr, _⟩ := h y (by simp); simp at hr
  | x :: a, [], _, _, h, _, _ => by obtain ⟨r, hr, _⟩ := h x (by simp); simp at hr
  | x :: a, y :: b, ha, hb, h1, h2, h3 => by
    obtain ⟨hx, ha'⟩ := List.pairwise_cons.1 ha
    obtain ⟨hy, hb'⟩ := List.pairwise_cons.1 hb
    have hxy : Same x y := by
      obtain ⟨z, hz, hxz⟩ := h1 x (by simp)
      obtain ⟨w, hw, hwy⟩ := h2 y (by simp)
      rcases List.mem_cons.1 hz with rfl | hz
      · exact hxz
      · rcases List.mem_cons.1 hw with rfl | hw
        · exact hwy
        · have k1 := hy z hz
          rw [← befR_right hxz] at k1
          have k2 := hx w hw
          rw [befR_right hwy] at k2
          rw [befR_asymm k2] at k1
          cases k1
    obtain rfl := h3 x (by simp) y (by simp) hxy
    congr 1
    refine up_unique a b ha' hb' (fun r hr => ?_) (fun s hs => ?_) (fun r hr s hs => h3 r (by simp [hr]) s (by simp [hs]))
    · obtain ⟨s, hs, hrs⟩ := h1 r (by simp [hr])
      rcases List.mem_cons.1 hs with rfl | hs
      · have := hx r hr
        rw [befR_right hrs, befR_irrefl] at this
        cases this
      · exact ⟨s, hs, hrs⟩
    · obtain ⟨r, hr, hrs⟩ := h2 s (by simp [hs])
      rcases List.mem_cons.1 hr with rfl | hr
      · have := hy s hs
        rw [← befR_right hrs, befR_irrefl] at this
        cases this
      · exact ⟨r, hr, hrs⟩
/-- Its Ttl is the least of all of its Name and Type. -/
def Least (l : List Rec) (r : Rec) : Prop := (∃ x ∈ l, x.name = r.name ∧ x.typ = r.typ ∧ x.ttl = r.ttl) ∧ ∀ x ∈ l, x.name = r.name → x.typ = r.typ → r.ttl ≤ x.ttl
/-- What sorting has to answer. -/
structure IsSorted (l out : List Rec) : Prop where
  up : Up out
  sub : ∀ r ∈ out, ∃ x ∈ l, Same r x
  all : ∀ x ∈ l, ∃ r ∈ out, Same r x
  least : ∀ r ∈ out, Least l r
/-- **Whatever way it goes, there is one answer.** -/
theorem sorted_unique {l a b : List Rec} (ha : IsSorted l a) (hb : IsSorted l b) : a = b := by
  refine up_unique a b ha.up hb.up (fun r hr => ?_) (fun s hs => ?_) (fun r hr s hs h => ?_)
  · obtain ⟨x, hx, h1⟩ := ha.sub r hr
    obtain ⟨s, hs, h2⟩ := hb.all x hx
    exact ⟨s, hs, h1.trans h2.symm⟩
  · obtain ⟨x, hx, h1⟩ := hb.sub s hs
    obtain ⟨r, hr, h2⟩ := ha.all x hx
    exact ⟨r, hr, h2.trans h1.symm⟩
  · obtain ⟨⟨x, hx, x1, x2, x3⟩, x4⟩ := ha.least r hr
    obtain ⟨⟨y, hy, y1, y2, y3⟩, y4⟩ := hb.least s hs
    have k1 := x4 y hy (y1.trans h.1.symm) (y2.trans h.2.1.symm)
    have k2 := y4 x hx (x1.trans h.1) (x2.trans h.2.1)
    obtain ⟨rn, rt, rl, rx⟩ := r
    obtain ⟨sn, st, sl, sx⟩ := s
    obtain ⟨h1, h2, h3⟩ := h
    simp only at h1 h2 h3 k1 k2 x3 y3
    subst h1 h2 h3
    obtain rfl : rl = sl := by omega
    rfl
theorem IsSorted.of_mem {l l' out : List Rec} (h : IsSorted l out) (hm : ∀ x, x ∈ l ↔ x ∈ l') : IsSorted l' out :=
  ⟨h.up, fun r hr => by obtain ⟨x, hx, k⟩ := h.sub r hr; exact ⟨x, (hm x).1 hx, k⟩, fun x hx => h.all x ((hm x).2 hx),
    fun r hr => by obtain ⟨⟨x, hx, k⟩, k2⟩ := h.least r hr; exact ⟨⟨x, (hm x).1 hx, k⟩, fun y hy => k2 y ((hm y).2 hy)⟩⟩
/-- One Record into those in order, where none of its key is there yet. -/
def ins : List Rec → Rec → List Rec
  | [], r => [r]
  | x :: t, r => if befR x r = true then x :: ins t r else if befR r x = true then r :: x :: t else x :: t
theorem ins_mem : ∀ (l : List Rec) (r s : Rec), s ∈ ins l r → s = r ∨ s ∈ l
  | [], r, s, h => by simp [ins] at h; exact .inl h
  | x :: t, r, s, h => by
    unfold ins at h
    split at h
    · rcases List.mem_cons.1 h with rfl | h
      · exact .inr (by simp)
      · rcases ins_mem t r s h with h | h
        · exact .inl h
        · exact .inr (by simp [h])
    · split at h
      · rcases List.mem_cons.1 h with rfl | h
        · exact .inl rfl
        · exact .inr h
      · exact .inr h
theorem ins_old : ∀ (l : List Rec) (r s : Rec), s ∈ l → s ∈ ins l r
  | x :: t, r, s, h => by
    unfold ins
    split
    · rcases List.mem_cons.1 h with rfl | h
      · simp
      · exact List.mem_cons_of_mem _ (ins_old t r s h)
    · split
      · exact List.mem_cons_of_mem _ h
      · exact h
theorem ins_new : ∀ (l : List Rec) (r : Rec), ∃ s ∈ ins l r, Same s r
  | [], r => ⟨r, by simp [ins], Same.refl r⟩
  | x :: t, r => by
    unfold ins
    split
    · obtain ⟨s, hs, k⟩ := ins_new t r
      exact ⟨s, List.mem_cons_of_mem _ hs, k⟩
    · split
      · exact ⟨r, by simp, Same.refl r⟩
      next h1 h2 => exact ⟨x, by simp, befR_total (by simpa using h1) (by simpa using h2)⟩
theorem ins_up : ∀ (l : List Rec) (r : Rec), Up l → Up (ins l r)
  | [], r, _ => by simp [ins, Up]
  | x :: t, r, h => by
    obtain ⟨hx, ht⟩ := List.pairwise_cons.1 h
    unfold ins
    split
    next h1 =>
      refine List.pairwise_cons.2 ⟨fun s hs => ?_, ins_up t r ht⟩
      rcases ins_mem t r s hs with rfl | hs
      · exact h1
      · exact hx s hs
    · split
      next h2 =>
        refine List.pairwise_cons.2 ⟨fun s hs => ?_, h⟩
        rcases List.mem_cons.1 hs with rfl | hs
        · exact h2
        · exact befR_trans h2 (hx s hs)
      · exact h
theorem ins_length (l : List Rec) (r : Rec) : (ins l r).length ≤ l.length + 1 := by
  induction l with
  | nil => simp [ins]
  | cons x t ih =>
    unfold ins
    split
    · simp; omega
    · split <;> simp
/-- All of them, one after the other. -/
def sortK (l : List Rec) : List Rec := l.foldl ins []
theorem fold_up (l : List Rec) : ∀ out, Up out → Up (l.foldl ins out) := by
  induction l with
  | nil => exact fun _ h => h
  | cons r t ih => exact fun out h => ih _ (ins_up out r h)
theorem fold_mem (l : List Rec) : ∀ out s, s ∈ l.foldl ins out → s ∈ l ∨ s ∈ out := by
  induction l with
  | nil => exact fun _ _ h => .inr h
  | cons r t ih =>
    intro out s h
    rcases ih _ s h with h | h
    · exact .inl (by simp [h])
    · rcases ins_mem out r s h with rfl | h
      · exact .inl (by simp)
      · exact .inr h
theorem fold_old (l : List Rec) : ∀ out s, s ∈ out → s ∈ l.foldl ins out := by
  induction l with
  | nil => exact fun _ _ h => h
  | cons r t ih => exact fun out s h => ih _ s (ins_old out r s h)
theorem fold_all (l : List Rec) : ∀ out x, x ∈ l → ∃ s ∈ l.foldl ins out, Same s x := by
  induction l with
  | nil => intro _ _ h; simp at h
  | cons r t ih =>
    intro out x h
    rcases List.mem_cons.1 h with rfl | h
    · obtain ⟨s, hs, k⟩ := ins_new out x
      exact ⟨s, fold_old t _ s hs, k⟩
    · exact ih _ x h
theorem fold_length (l : List Rec) : ∀ out, (l.foldl ins out).length ≤ out.length + l.length := by
  induction l with
  | nil => simp
  | cons r t ih =>
    intro out
    have := ih (ins out r)
    have := ins_length out r
    simp only [List.foldl_cons, List.length_cons]
    omega
/-- The least Ttl of its Name and Type, m at first. -/
def minT (l : List Rec) (r : Rec) (m : Int) : Int := l.foldl (fun m x => if x.name = r.name ∧ x.typ = r.typ then min m x.ttl else m) m
theorem minT_cons (x : Rec) (t : List Rec) (r : Rec) (m : Int) : minT (x :: t) r m = minT t r (if x.name = r.name ∧ x.typ = r.typ then min m x.ttl else m) := rfl
theorem minT_le (l : List Rec) (r : Rec) : ∀ m, minT l r m ≤ m ∧ (∀ x ∈ l, x.name = r.name → x.typ = r.typ → minT l r m ≤ x.ttl) ∧ (minT l r m = m ∨ ∃ x ∈ l, x.name = r.name ∧ x.typ = r.typ ∧ x.ttl = minT l r m) := by
  induction l with
  | nil => exact fun m => ⟨Int.le_refl _, fun x hx => by simp at hx, .inl rfl⟩
  | cons y t ih =>
    intro m
    rw [minT_cons]
    by_cases c : y.name = r.name ∧ y.typ = r.typ
    · rw [if_pos c]
      obtain ⟨h1, h2, h3⟩ := ih (min m y.ttl)
      refine ⟨by omega, fun x hx e1 e2 => ?_, ?_⟩
      · rcases List.mem_cons.1 hx with rfl | hx
        · omega
        · exact h2 x hx e1 e2
      · rcases h3 with h3 | ⟨x, hx, k⟩
        · rw [h3]
          rcases Int.le_total m y.ttl with h | h
          · exact .inl (by omega)
          · exact .inr ⟨y, by simp, c.1, c.2, by omega⟩
        · exact .inr ⟨x, by simp [hx], k⟩
    · rw [if_neg c]
      obtain ⟨h1, h2, h3⟩ := ih m
      refine ⟨h1, fun x hx e1 e2 => ?_, ?_⟩
      · rcases List.mem_cons.1 hx with rfl | hx
        · exact absurd ⟨e1, e2⟩ c
        · exact h2 x hx e1 e2
      · rcases h3 with h3 | ⟨x, hx, k⟩
        · exact .inl h3
        · exact .inr ⟨x, by simp [hx], k⟩
/-- With that Ttl. -/
def withT (l : List Rec) (r : Rec) : Rec := { r with ttl := minT l r r.ttl }
def sortR (l : List Rec) : List Rec := (sortK l).map (withT l)
theorem withT_same (l : List Rec) (r : Rec) : Same (withT l r) r := ⟨rfl, rfl, rfl⟩
theorem sortR_is (l : List Rec) : IsSorted l (sortR l) := by
  refine ⟨?_, fun r hr => ?_, fun x hx => ?_, fun r hr => ?_⟩
  · refine List.pairwise_map.2 ((fold_up l [] List.Pairwise.nil).imp (fun {a b} h => ?_))
    rw [befR_left (withT_same l a), befR_right (withT_same l b)]
    exact h
  · obtain ⟨s, hs, rfl⟩ := List.mem_map.1 hr
    rcases fold_mem l [] s hs with h | h
    · exact ⟨s, h, withT_same l s⟩
    · simp at h
  · obtain ⟨s, hs, k⟩ := fold_all l [] x hx
    exact ⟨withT l s, List.mem_map_of_mem hs, (withT_same l s).trans k⟩
  · obtain ⟨s, hs, rfl⟩ := List.mem_map.1 hr
    have hsl : s ∈ l := by
      rcases fold_mem l [] s hs with h | h
      · exact h
      · simp at h
    obtain ⟨h1, h2, h3⟩ := minT_le l s s.ttl
    refine ⟨?_, fun x hx e1 e2 => h2 x hx e1 e2⟩
    rcases h3 with h3 | ⟨x, hx, e1, e2, e3⟩
    · exact ⟨s, hsl, rfl, rfl, h3.symm⟩
    · exact ⟨x, hx, e1, e2, e3⟩
theorem sortR_length (l : List Rec) : (sortR l).length ≤ l.length := by
  have := fold_length l []
  unfold sortR sortK
  rw [List.length_map]
  simpa using this
/-- A right Record. -/
def okR (r : Rec) : Bool := okB r.name && (decide (1 ≤ r.typ) && decide (r.typ ≤ 5) && (decide (0 ≤ r.ttl) && decide (r.ttl ≤ 100) && decide (r.text.length ≤ 60)))
/-- Right Records: in order, all of one Name and Type with one Ttl. -/
def okRs (l : List Rec) : Prop := l.length ≤ 60 ∧ (∀ r ∈ l, okR r = true) ∧ Up l ∧ ∀ a ∈ l, ∀ b ∈ l, a.name = b.name → a.typ = b.typ → a.ttl = b.ttl
theorem okRs_sorted {l : List Rec} (h : okRs l) : IsSorted l l :=
  ⟨h.2.2.1, fun r hr => ⟨r, hr, Same.refl r⟩, fun r hr => ⟨r, hr, Same.refl r⟩, fun r hr => ⟨⟨r, hr, rfl, rfl, rfl⟩, fun x hx e1 e2 => by rw [h.2.2.2 x hx r hr e1 e2]; exact Int.le_refl _⟩⟩
theorem sorted_ok {l out : List Rec} (h : IsSorted l out) (hl : out.length ≤ 60) (hr : ∀ r ∈ l, okR r = true) : okRs out := by
  refine ⟨hl, fun r ho => ?_, h.up, fun a ha b hb e1 e2 => ?_⟩
  · obtain ⟨x, hx, k⟩ := h.sub r ho
    obtain ⟨⟨y, hy, y1, y2, y3⟩, _⟩ := h.least r ho
    have k1 := hr x hx
    have k2 := hr y hy
    unfold okR at k1 k2 ⊢
    rw [← k.1, ← k.2.1, ← k.2.2] at k1
    rw [y3] at k2
    simp only [Bool.and_eq_true] at k1 k2 ⊢
    exact ⟨k1.1, k1.2.1, k2.2.2.1, k1.2.2.2⟩
  · obtain ⟨⟨x, hx, x1, x2, x3⟩, x4⟩ := h.least a ha
    obtain ⟨⟨y, hy, y1, y2, y3⟩, y4⟩ := h.least b hb
    have k1 := x4 y hy (y1.trans e1.symm) (y2.trans e2.symm)
    have k2 := y4 x hx (x1.trans e1) (x2.trans e2)
    omega
/-- **Promise 7**: sorted they are right, in whatever order they were; sorted once they stay. -/
theorem sortR_ok {l : List Rec} (hl : l.length ≤ 60) (hr : ∀ r ∈ l, okR r = true) : okRs (sortR l) :=
  sorted_ok (sortR_is l) (Nat.le_trans (sortR_length l) hl) hr
theorem sortR_stays {l : List Rec} (h : okRs l) : sortR l = l := sorted_unique (sortR_is l) (okRs_sorted h)
theorem sortR_any {l l' : List Rec} (hm : ∀ x, x ∈ l ↔ x ∈ l') : sortR l = sortR l' := sorted_unique ((sortR_is l).of_mem hm) (sortR_is l')
theorem sortR_back (l : List Rec) : sortR l.reverse = sortR l := sortR_any (fun x => by simp)
theorem sortR_has {l : List Rec} {x : Rec} (hx : x ∈ l) : ∃ r ∈ sortR l, Same r x ∧ r.ttl ≤ x.ttl := by
  obtain ⟨r, hr, k⟩ := (sortR_is l).all x hx
  exact ⟨r, hr, k, ((sortR_is l).least r hr).2 x hx k.1.symm k.2.1.symm⟩
/-- Neighbours alone need be asked. -/
def upB : List Rec → Bool
  | a :: b :: t => befR a b && upB (b :: t)
  | _ => true
theorem up_of : ∀ l : List Rec, upB l = true → Up l
  | [], _ => List.Pairwise.nil
  | [a], _ => List.pairwise_singleton _ _
  | a :: b :: t, h => by
    unfold upB at h
    rw [Bool.and_eq_true] at h
    have ih := up_of (b :: t) h.2
    refine List.pairwise_cons.2 ⟨fun s hs => ?_, ih⟩
    rcases List.mem_cons.1 hs with rfl | hs
    · exact h.1
    · exact befR_trans h.1 ((List.pairwise_cons.1 ih).1 s hs)
theorem of_up : ∀ l : List Rec, Up l → upB l = true
  | [], _ => rfl
  | [a], _ => rfl
  | a :: b :: t, h => by
    obtain ⟨h1, h2⟩ := List.pairwise_cons.1 h
    unfold upB
    rw [h1 b (by simp), of_up (b :: t) h2, Bool.and_true]
theorem between {a b c : Rec} (h1 : befR a b = true) (h2 : befR b c = true) (e1 : a.name = c.name) (e2 : a.typ = c.typ) : a.name = b.name ∧ a.typ = b.typ := by
  have hn : a.name = b.name := by
    by_cases e : a.name = b.name
    · exact e
    · exfalso
      unfold befR at h1 h2
      rw [if_neg e] at h1
      rw [if_neg (by rw [← e1]; exact fun k => e k.symm), ← e1] at h2
      rw [befL_asymm _ _ h1] at h2
      cases h2
  refine ⟨hn, ?_⟩
  by_cases e : a.typ = b.typ
  · exact e
  · exfalso
    unfold befR at h1 h2
    rw [if_pos hn, if_neg e] at h1
    rw [if_pos (by rw [← hn]; exact e1), if_neg (by rw [← e2]; exact fun k => e k.symm)] at h2
    have := of_decide_eq_true h1
    have := of_decide_eq_true h2
    omega
/-- Neighbours: in order, and with one Ttl where Name and Type are one. -/
def adj : List Rec → Bool
  | a :: b :: t => befR a b && !(decide (a.name = b.name) && decide (a.typ = b.typ) && !decide (a.ttl = b.ttl)) && adj (b :: t)
  | _ => true
def okRsB (l : List Rec) : Bool := decide (l.length ≤ 60) && (l.all okR && adj l)
theorem adj_up : ∀ l : List Rec, adj l = true → Up l
  | [], _ => List.Pairwise.nil
  | [a], _ => List.pairwise_singleton _ _
  | a :: b :: t, h => by
    unfold adj at h
    simp only [Bool.and_eq_true] at h
    have ih := adj_up (b :: t) h.2
    refine List.pairwise_cons.2 ⟨fun s hs => ?_, ih⟩
    rcases List.mem_cons.1 hs with rfl | hs
    · exact h.1.1
    · exact befR_trans h.1.1 ((List.pairwise_cons.1 ih).1 s hs)
theorem adj_one : ∀ l : List Rec, adj l = true → ∀ a ∈ l, ∀ b ∈ l, a.name = b.name → a.typ = b.typ → a.ttl = b.ttl
  | [], _ => fun a ha => by simp at ha
  | [x], _ => fun a ha b hb => by simp at ha hb; subst ha hb; exact fun _ _ => rfl
  | x :: y :: t, h => by
    have hup := adj_up _ h
    unfold adj at h
    simp only [Bool.and_eq_true] at h
    have ih := adj_one (y :: t) h.2
    obtain ⟨hx, ht⟩ := List.pairwise_cons.1 hup
    have hxy : x.name = y.name → x.typ = y.typ → x.ttl = y.ttl := fun e1 e2 => by
      have := h.1.2
      simp only [e1, e2, decide_true, Bool.true_and, Bool.not_not, decide_eq_true_eq] at this
      exact this
    have key : ∀ c ∈ y :: t, x.name = c.name → x.typ = c.typ → x.ttl = c.ttl := fun c hc e1 e2 => by
      rcases List.mem_cons.1 hc with rfl | hc'
      · exact hxy e1 e2
      · obtain ⟨b1, b2⟩ := between (hx y (by simp)) ((List.pairwise_cons.1 ht).1 c hc') e1 e2
        rw [hxy b1 b2]
        exact ih y (by simp) c hc (b1.symm.trans e1) (b2.symm.trans e2)
    intro a ha b hb e1 e2
    rcases List.mem_cons.1 ha with ea | ha2
    · rcases List.mem_cons.1 hb with eb | hb2
      · rw [ea, eb]
      · rw [ea] at e1 e2 ⊢
        exact key b hb2 e1 e2
    · rcases List.mem_cons.1 hb with eb | hb2
      · rw [eb] at e1 e2 ⊢
        exact (key a ha2 e1.symm e2.symm).symm
      · exact ih a ha2 b hb2 e1 e2
theorem adj_of : ∀ l : List Rec, Up l → (∀ a ∈ l, ∀ b ∈ l, a.name = b.name → a.typ = b.typ → a.ttl = b.ttl) → adj l = true
  | [], _, _ => rfl
  | [a], _, _ => rfl
  | a :: b :: t, h, k => by
    obtain ⟨h1, h2⟩ := List.pairwise_cons.1 h
    have ih := adj_of (b :: t) h2 (fun x hx y hy => k x (by simp [hx]) y (by simp [hy]))
    unfold adj
    rw [h1 b (by simp), ih]
    by_cases e1 : a.name = b.name
    · by_cases e2 : a.typ = b.typ
      · have := k a (by simp) b (by simp) e1 e2
        simp [this]
      · simp [e2]
    · simp [e1]
theorem okRsB_iff (l : List Rec) : okRsB l = true ↔ okRs l := by
  unfold okRsB okRs
  simp only [Bool.and_eq_true, decide_eq_true_eq, List.all_eq_true]
  constructor
  · exact fun h => ⟨h.1, h.2.1, adj_up l h.2.2, adj_one l h.2.2⟩
  · exact fun h => ⟨h.1, h.2.1, adj_of l h.2.2.1 h.2.2.2⟩
/-- What Sorted answers. -/
def sortedB (l : List Rec) : List Rec := if l.length ≤ 60 ∧ l.all okR = true then sortR l else []
/-- Those of one Name and Type. -/
def setOf (l : List Rec) (n : Bytes) (t : Int) : List Rec := l.filter (fun r => decide (r.name = n) && decide (r.typ = t))
def setB (l : List Rec) (n : Bytes) (t : Int) : List Rec := if okRsB l = true then setOf l n t else []
theorem sortedB_ok {l : List Rec} (h : l.length ≤ 60 ∧ l.all okR = true) : okRsB (sortedB l) = true := by
  rw [sortedB, if_pos h, okRsB_iff]
  exact sortR_ok h.1 (List.all_eq_true.1 h.2)
theorem sortedB_stays {l : List Rec} (h : okRsB l = true) : sortedB l = l := by
  have h' := (okRsB_iff l).1 h
  rw [sortedB, if_pos ⟨h'.1, List.all_eq_true.2 h'.2.1⟩]
  exact sortR_stays h'
theorem sortedB_back (l : List Rec) : sortedB l.reverse = sortedB l := by
  unfold sortedB
  rw [List.length_reverse, List.all_reverse, sortR_back]
theorem sortedB_nil {l : List Rec} (h : l ≠ []) (k : l.length ≤ 60 ∧ l.all okR = true) : sortedB l ≠ [] := by
  rw [sortedB, if_pos k]
  intro e
  cases l with
  | nil => exact h rfl
  | cons x t =>
    obtain ⟨r, hr, _⟩ := sortR_has (l := x :: t) (x := x) (by simp)
    rw [e] at hr
    simp at hr
theorem setB_one {l : List Rec} {n : Bytes} {t : Int} : ∀ a ∈ setB l n t, a.name = n ∧ a.typ = t ∧ ∀ b ∈ setB l n t, a.ttl = b.ttl := by
  unfold setB
  split
  next h =>
    have h' := (okRsB_iff l).1 h
    intro a ha
    simp only [setOf, List.mem_filter, Bool.and_eq_true, decide_eq_true_eq] at ha ⊢
    exact ⟨ha.2.1, ha.2.2, fun b hb => h'.2.2.2 a ha.1 b hb.1 (ha.2.1.trans hb.2.1.symm) (ha.2.2.trans hb.2.2.symm)⟩
  · intro a ha
    simp at ha
end Go.Proofs.Ytgebhkfopahdoaa.Rc
