/-
  Promise 5 in plain words: the order from the end on is one order, and Under goes with it.
-/
import Derived.Test.YtdbldhcelbllgaaNameP
namespace Go.Proofs.Ytdbldhcelbllgaa.Nm
open Go.RowKit
theorem befL_irrefl (x : List Bytes) : befL x x = false := by
  induction x with
  | nil => rfl
  | cons p x ih => unfold befL; rw [if_pos rfl]; exact ih
theorem befL_asymm : ∀ (x y : List Bytes), befL x y = true → befL y x = false
  | _, [], h => by simp [befL] at h
  | [], _ :: _, _ => rfl
  | p :: x, q :: y, h => by
    unfold befL at h ⊢
    by_cases e : p = q
    · subst e
      rw [if_pos rfl] at h ⊢
      exact befL_asymm x y h
    · rw [if_neg e] at h
      rw [if_neg (fun k => e k.symm)]
      exact decide_eq_false (fun k => List.lt_asymm (of_decide_eq_true h) k)
theorem befL_total : ∀ (x y : List Bytes), befL x y = false → befL y x = false → x = y
  | [], [], _, _ => rfl
  | [], _ :: _, h, _ => by simp [befL] at h
  | _ :: _, [], _, h => by simp [befL] at h
  | p :: x, q :: y, h, k => by
    unfold befL at h k
    by_cases e : p = q
    · subst e
      rw [if_pos rfl] at h k
      rw [befL_total x y h k]
    · rw [if_neg e] at h
      rw [if_neg (fun k => e k.symm)] at k
      exact absurd (List.le_antisymm (List.not_lt.1 (of_decide_eq_false k)) (List.not_lt.1 (of_decide_eq_false h))) e
/-- A front of a list is before it. -/
theorem befL_front : ∀ (x z : List Bytes), z ≠ [] → befL x (x ++ z) = true
  | [], [], h => absurd rfl h
  | [], _ :: _, _ => rfl
  | p :: x, z, h => by
    rw [List.cons_append]
    unfold befL
    rw [if_pos rfl]
    exact befL_front x z h
/-- What is between a list and one that goes on from it goes on from it, too. -/
theorem befL_between : ∀ (d z a : List Bytes), befL d a = true → befL a (d ++ z) = true → ∃ y, a = d ++ y
  | [], _, a, _, _ => ⟨a, rfl⟩
  | p :: d, z, [], h, _ => by simp [befL] at h
  | p :: d, z, q :: a, h, k => by
    rw [List.cons_append] at k
    unfold befL at h k
    by_cases e : p = q
    · subst e
      rw [if_pos rfl] at h k
      obtain ⟨y, rfl⟩ := befL_between d z a h k
      exact ⟨y, rfl⟩
    · rw [if_neg e] at h
      rw [if_neg (fun k => e k.symm)] at k
      exact absurd (of_decide_eq_true k) (List.lt_asymm (of_decide_eq_true h))
/-- The pieces put together with dots. -/
def join : List Bytes → Bytes
  | [] => []
  | [p] => p
  | p :: q :: r => p ++ 46 :: join (q :: r)
theorem join_split (l : Bytes) : join (split l) = l := by
  induction l with
  | nil => rfl
  | cons c r ih =>
    by_cases hc : c = 46
    · subst hc
      rw [split_dot]
      cases h : split r with
      | nil => exact absurd h (split_ne r)
      | cons p ps => rw [h] at ih; simp [join, ih]
    · obtain ⟨p, ps, e, e'⟩ := split_other hc r
      rw [e'] ; rw [e] at ih
      cases ps with
      | nil => simp [join] at ih ⊢; exact ih
      | cons q qs => simp [join] at ih ⊢; exact ih
theorem join_append : ∀ (x y : List Bytes), x ≠ [] → y ≠ [] → join (x ++ y) = join x ++ 46 :: join y
  | [], _, h, _ => absurd rfl h
  | _, [], _, h => absurd rfl h
  | [p], q :: y, _, _ => by simp [join]
  | p :: p' :: x, q :: y, _, _ => by
    have := join_append (p' :: x) (q :: y) (by simp) (by simp)
    simp only [List.cons_append] at this ⊢
    simp [join, this]
theorem labels_inj {a b : Bytes} (h : labels a = labels b) : a = b := by
  by_cases ea : a = []
  · subst ea
    rw [labels_nil] at h
    exact (labels_eq_nil h.symm).symm
  · by_cases eb : b = []
    · subst eb
      rw [labels_nil] at h
      exact labels_eq_nil h
    · rw [labels_cons ea, labels_cons eb] at h
      rw [← join_split a, ← join_split b, h]
/-- Under is: the labels end with the other's labels. -/
theorem under_suffix {a b : Bytes} (h : underL a b = true) : ∃ x, labels a = x ++ labels b ∧ (a ≠ b → x ≠ []) := by
  unfold underL at h
  rcases Bool.or_eq_true _ _ ▸ h with h | h
  · have := of_decide_eq_true h
    subst this
    rw [labels_nil]
    exact ⟨labels a, by simp, fun k e => k (labels_eq_nil e)⟩
  · rcases Bool.or_eq_true _ _ ▸ h with h | h
    · have := of_decide_eq_true h
      subst this
      exact ⟨[], rfl, fun k => absurd rfl k⟩
    · obtain ⟨p, rfl⟩ := of_decide_eq_true h
      by_cases eb : b = []
      · subst eb
        rw [labels_nil]
        exact ⟨_, (List.append_nil _).symm, fun _ e => by have := labels_eq_nil e; simp at this⟩
      · rw [labels_cons eb, labels_cons (by simp), split_join]
        exact ⟨split p, rfl, fun _ => split_ne p⟩
theorem under_of_suffix {a b : Bytes} {x : List Bytes} (h : labels a = x ++ labels b) : underL a b = true := by
  unfold underL
  by_cases eb : b = []
  · simp [eb]
  · have hb := labels_cons eb
    have ea : a ≠ [] := fun e => by
      subst e
      rw [labels_nil, hb] at h
      exact split_ne b (List.append_eq_nil_iff.1 h.symm).2
    rw [labels_cons ea, hb] at h
    cases x with
    | nil =>
      have : a = b := by rw [← join_split a, ← join_split b, h]; rfl
      simp [this]
    | cons p ps =>
      have : a = join (p :: ps) ++ 46 :: b := by
        rw [← join_split a, h, join_append _ _ (by simp) (split_ne b), join_split b]
      have : (46 :: b) <:+ a := ⟨join (p :: ps), this.symm⟩
      simp [this]
theorem and3 {a b c : Bool} : (a && b && c) = true ↔ a = true ∧ b = true ∧ c = true := by
  cases a <;> cases b <;> cases c <;> simp
theorem before_asymm {a b : Bytes} (h : beforeB a b = true) : beforeB b a = false := by
  obtain ⟨ha, hb, h⟩ := and3.1 h
  unfold beforeB beforeL
  rw [befL_asymm _ _ h, Bool.and_false]
theorem before_irrefl (a : Bytes) : beforeB a a = false := by
  unfold beforeB beforeL
  rw [befL_irrefl, Bool.and_false]
theorem before_total {a b : Bytes} (ha : okB a = true) (hb : okB b = true) (h : beforeB a b = false) (k : beforeB b a = false) : a = b := by
  unfold beforeB at h k
  rw [ha, hb, Bool.true_and, Bool.true_and] at h k
  have := befL_total _ _ h k
  exact labels_inj (List.reverse_inj.1 this)
theorem before_ok {a b : Bytes} (h : beforeB a b = true) : okB a = true ∧ okB b = true := ⟨(and3.1 h).1, (and3.1 h).2.1⟩
theorem under_before {c d : Bytes} (h : underB c d = true) (hn : c ≠ d) : beforeB d c = true := by
  obtain ⟨hc, hd, h⟩ := and3.1 h
  obtain ⟨x, e, hx⟩ := under_suffix h
  refine and3.2 ⟨hd, hc, ?_⟩
  unfold beforeL
  rw [e, List.reverse_append]
  exact befL_front _ _ (fun k => hx hn (List.reverse_eq_nil_iff.1 k))
theorem under_count {c d : Bytes} (h : underB c d = true) : (labels d).length ≤ (labels c).length := by
  obtain ⟨x, e, _⟩ := under_suffix (and3.1 h).2.2
  rw [e, List.length_append]
  omega
theorem under_between {a c d : Bytes} (h : underB c d = true) (h1 : beforeB d a = true) (h2 : beforeB a c = true) : underB a d = true := by
  obtain ⟨hc, hd, h⟩ := and3.1 h
  obtain ⟨_, ha, h1⟩ := and3.1 h1
  obtain ⟨_, _, h2⟩ := and3.1 h2
  obtain ⟨x, e, _⟩ := under_suffix h
  unfold beforeL at h1 h2
  rw [e, List.reverse_append] at h2
  obtain ⟨y, e'⟩ := befL_between _ _ _ h1 h2
  refine and3.2 ⟨ha, hd, under_of_suffix (x := y.reverse) ?_⟩
  rw [← List.reverse_inj, e', List.reverse_append, List.reverse_reverse]
/-- The first label and the rest. -/
theorem labels_after {l : Bytes} (h : l ≠ []) (hok : okB l = true) : ∃ p, labels l = p :: labels (after l) := by
  rw [labels_cons h]
  by_cases hd : ∀ c ∈ l, c ≠ 46
  · rw [split_whole hd, after_whole hd]
    exact ⟨l, rfl⟩
  · have hex : ∃ p r, l = p ++ 46 :: r ∧ ∀ c ∈ p, c ≠ 46 := by
      clear hok h
      induction l with
      | nil => exact absurd (fun c hc => by simp at hc) hd
      | cons c q ih =>
        by_cases hc : c = 46
        · subst hc; exact ⟨[], q, rfl, by simp⟩
        · obtain ⟨p, r, e, hp⟩ := ih (fun k => hd (fun x hx => (List.mem_cons.1 hx).elim (fun e => e ▸ hc) (k x)))
          refine ⟨c :: p, r, by rw [e]; rfl, fun x hx => ?_⟩
          rcases List.mem_cons.1 hx with rfl | hx
          · exact hc
          · exact hp x hx
    obtain ⟨p, r, rfl, hp⟩ := hex
    rw [after_cut hp, split_cut hp]
    refine ⟨p, ?_⟩
    by_cases er : r = []
    · subst er
      have hall : (labels (p ++ [46])).all labelOk = true := by
        unfold okB at hok
        simp only [Bool.and_eq_true] at hok
        exact hok.2.1
      rw [labels_cons (by simp), split_cut hp, split_nil] at hall
      simp [labelOk] at hall
    · rw [labels_cons er]
theorem ok_after {l : Bytes} (hok : okB l = true) : okB (after l) = true := by
  by_cases h : l = []
  · subst h; rfl
  · obtain ⟨p, e⟩ := labels_after h hok
    have hl := after_length l
    unfold okB at hok ⊢
    simp only [Bool.and_eq_true, decide_eq_true_eq] at hok ⊢
    rw [e] at hok
    refine ⟨by omega, ?_, ?_⟩
    · have := hok.2.1
      rw [List.all_cons, Bool.and_eq_true] at this
      exact this.2
    · have := hok.2.2
      simp at this
      omega
theorem under_after {l : Bytes} (hok : okB l = true) : underB l (after l) = true := by
  refine and3.2 ⟨hok, ok_after hok, ?_⟩
  by_cases h : l = []
  · subst h; rfl
  · obtain ⟨p, e⟩ := labels_after h hok
    exact under_of_suffix (x := [p]) e
end Go.Proofs.Ytdbldhcelbllgaa.Nm
