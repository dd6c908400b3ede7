/-
  A name in plain words: the pieces between the dots, when it is a name, what is behind the first dot, what ends with what, and the order from the end on. No program in sight.
-/
import Derived.Test.YtceddedlfdgbhaaGreatDoorMem
import Derived.Lib.Strings
namespace Go.Proofs.YtceddedlfdgbhaaGreatDoor.Nm
open Go.RowKit
abbrev Bytes := List UInt8
/-- A text of these bytes. -/
abbrev B (l : Bytes) : ByteArray := ⟨l.toArray⟩
abbrev bs (s : ByteArray) : Bytes := s.data.toList
theorem B_bs (s : ByteArray) : B (bs s) = s := by cases s; simp
theorem bs_B (l : Bytes) : bs (B l) = l := by simp
theorem bs_length (s : ByteArray) : (bs s).length = s.size := by cases s; simp [ByteArray.size]
theorem B_size (l : Bytes) : (B l).size = l.length := by simp [ByteArray.size]
theorem bs_inj {a b : ByteArray} (h : bs a = bs b) : a = b := by rw [← B_bs a, ← B_bs b, h]
theorem B_inj {a b : Bytes} (h : B a = B b) : a = b := by rw [← bs_B a, ← bs_B b, h]
theorem bs_extract (s : ByteArray) (a b : Nat) : bs (s.extract a b) = ((bs s).drop a).take (b - a) := by
  unfold bs
  rw [Go.Lib.extract_data]
theorem bs_tail (s : ByteArray) (a : Nat) : bs (s.extract a s.size) = (bs s).drop a := by
  rw [bs_extract, List.take_of_length_le (by rw [List.length_drop, bs_length]; omega)]
theorem bs_front (s : ByteArray) (b : Nat) : bs (s.extract 0 b) = (bs s).take b := by rw [bs_extract]; simp
/-- The pieces between the dots of any bytes, empty ones among them. -/
def split : Bytes → List Bytes
  | [] => [[]]
  | c :: r => if c = 46 then [] :: split r else match split r with
    | [] => [[c]]
    | p :: ps => (c :: p) :: ps
theorem split_nil : split [] = [[]] := rfl
theorem split_dot (r : Bytes) : split (46 :: r) = [] :: split r := by simp [split]
theorem split_ne (l : Bytes) : split l ≠ [] := by
  cases l with
  | nil => simp [split]
  | cons c r =>
    unfold split
    split
    · simp
    · split <;> simp
theorem split_other {c : UInt8} (hc : c ≠ 46) (r : Bytes) : ∃ p ps, split r = p :: ps ∧ split (c :: r) = (c :: p) :: ps := by
  cases h : split r with
  | nil => exact absurd h (split_ne r)
  | cons p ps => exact ⟨p, ps, rfl, by simp [split, hc, h]⟩
theorem split_whole {l : Bytes} (h : ∀ c ∈ l, c ≠ 46) : split l = [l] := by
  induction l with
  | nil => rfl
  | cons c r ih =>
    obtain ⟨p, ps, e, e'⟩ := split_other (h c (by simp)) r
    rw [ih (fun x hx => h x (by simp [hx]))] at e
    cases e
    exact e'
theorem split_cut {p : Bytes} (h : ∀ c ∈ p, c ≠ 46) (r : Bytes) : split (p ++ 46 :: r) = p :: split r := by
  induction p with
  | nil => exact split_dot r
  | cons c q ih =>
    have e0 := ih (fun x hx => h x (by simp [hx]))
    obtain ⟨p', ps, e, e'⟩ := split_other (h c (by simp)) (q ++ 46 :: r)
    rw [e0] at e
    cases e
    exact e'
theorem split_join (p r : Bytes) : split (p ++ 46 :: r) = split p ++ split r := by
  induction p with
  | nil => rw [List.nil_append, split_dot, split_nil]; rfl
  | cons c q ih =>
    by_cases hc : c = 46
    · subst hc
      rw [List.cons_append, split_dot, split_dot, ih, List.cons_append]
    · obtain ⟨p1, ps1, e1, e1'⟩ := split_other hc (q ++ 46 :: r)
      obtain ⟨p2, ps2, e2, e2'⟩ := split_other hc q
      rw [ih, e2, List.cons_append] at e1
      cases e1
      rw [List.cons_append, e1', e2', List.cons_append]
theorem split_no_dot {l p : Bytes} (h : p ∈ split l) : ∀ c ∈ p, c ≠ 46 := by
  induction l generalizing p with
  | nil => rw [split_nil] at h; simp at h; subst h; simp
  | cons c r ih =>
    by_cases hc : c = 46
    · subst hc
      rw [split_dot] at h
      rcases List.mem_cons.1 h with rfl | h
      · simp
      · exact ih h
    · obtain ⟨q, ps, e, e'⟩ := split_other hc r
      rw [e'] at h
      rcases List.mem_cons.1 h with rfl | h
      · intro x hx
        rcases List.mem_cons.1 hx with rfl | hx
        · exact hc
        · exact ih (by rw [e]; simp) x hx
      · exact ih (by rw [e]; simp [h])
theorem split_short {l p : Bytes} (h : p ∈ split l) : p.length ≤ l.length := by
  induction l generalizing p with
  | nil => rw [split_nil] at h; simp at h; subst h; simp
  | cons c r ih =>
    by_cases hc : c = 46
    · subst hc
      rw [split_dot] at h
      rcases List.mem_cons.1 h with rfl | h
      · simp
      · have := ih h; simp; omega
    · obtain ⟨q, ps, e, e'⟩ := split_other hc r
      rw [e'] at h
      rcases List.mem_cons.1 h with rfl | h
      · have := ih (p := q) (by rw [e]; simp); simp; omega
      · have := ih (p := p) (by rw [e]; simp [h]); simp; omega
theorem split_count (l : Bytes) : (split l).length ≤ l.length + 1 := by
  induction l with
  | nil => rw [split_nil]; simp
  | cons c r ih =>
    by_cases hc : c = 46
    · subst hc; rw [split_dot]; simp; omega
    · obtain ⟨q, ps, e, e'⟩ := split_other hc r
      rw [e'] ; rw [e] at ih; simp at ih ⊢; omega
/-- The labels of any bytes; the root has none. -/
def labels (l : Bytes) : List Bytes := if l = [] then [] else split l
theorem labels_nil : labels [] = [] := rfl
theorem labels_cons {l : Bytes} (h : l ≠ []) : labels l = split l := by simp [labels, h]
theorem labels_short {l p : Bytes} (h : p ∈ labels l) : p.length ≤ l.length := by
  unfold labels at h
  split at h
  · simp at h
  · exact split_short h
theorem labels_count (l : Bytes) : (labels l).length ≤ l.length + 1 := by
  unfold labels
  split
  · simp
  · exact split_count l
theorem labels_eq_nil {l : Bytes} (h : labels l = []) : l = [] := by
  by_cases e : l = []
  · exact e
  · rw [labels_cons e] at h
    exact absurd h (split_ne l)
def byteOk (b : UInt8) : Bool := decide (97 ≤ b.toNat) && decide (b.toNat ≤ 122) || decide (48 ≤ b.toNat) && decide (b.toNat ≤ 57) || decide (b.toNat = 45)
def labelOk (l : Bytes) : Bool := l.all byteOk && (decide (1 ≤ l.length) && decide (l.length ≤ 12))
/-- Is it a name? -/
def okB (l : Bytes) : Bool := decide (l.length ≤ 60) && ((labels l).all labelOk && decide ((labels l).length ≤ 6))
theorem okB_long {l : Bytes} (h : 60 < l.length) : okB l = false := by
  unfold okB
  rw [decide_eq_false (by omega), Bool.false_and]
theorem okB_root : okB [] = true := rfl
/-- What is behind the first dot; nothing where there is none. -/
def after : Bytes → Bytes
  | [] => []
  | c :: r => if c = 46 then r else after r
theorem after_whole {l : Bytes} (h : ∀ c ∈ l, c ≠ 46) : after l = [] := by
  induction l with
  | nil => rfl
  | cons c r ih =>
    unfold after
    rw [if_neg (h c (by simp))]
    exact ih (fun x hx => h x (by simp [hx]))
theorem after_cut {p : Bytes} (h : ∀ c ∈ p, c ≠ 46) (r : Bytes) : after (p ++ 46 :: r) = r := by
  induction p with
  | nil => simp [after]
  | cons c q ih =>
    rw [List.cons_append]
    unfold after
    rw [if_neg (h c (by simp))]
    exact ih (fun x hx => h x (by simp [hx]))
theorem after_length (l : Bytes) : (after l).length ≤ l.length := by
  induction l with
  | nil => simp [after]
  | cons c r ih =>
    unfold after
    split
    · simp
    · simp; omega
def parentB (l : Bytes) : Bytes := if okB l = true then after l else []
/-- Does it end with that one: the root, itself, or behind a dot? -/
def underL (a b : Bytes) : Bool := decide (b = []) || (decide (a = b) || decide ((46 :: b) <:+ a))
def underB (a b : Bytes) : Bool := okB a && okB b && underL a b
/-- The order from the end on. -/
def befL : List Bytes → List Bytes → Bool
  | _, [] => false
  | [], _ :: _ => true
  | p :: x, q :: y => if p = q then befL x y else decide (p < q)
def beforeL (a b : Bytes) : Bool := befL (labels a).reverse (labels b).reverse
def beforeB (a b : Bytes) : Bool := okB a && okB b && beforeL a b
def starB (l : Bytes) : Bytes := if okB l = true ∧ l ≠ [] then [42, 46] ++ after l else []
/-- A byte's place and the bytes ahead of it. -/
theorem cut_at {l : Bytes} {i : Nat} (hi : i < l.length) (hd : l[i] = 46) (hn : ∀ j, (hj : j < l.length) → j < i → l[j] ≠ 46) :
    l = l.take i ++ 46 :: l.drop (i + 1) ∧ ∀ c ∈ l.take i, c ≠ 46 := by
  refine ⟨?_, fun c hc => ?_⟩
  · have := List.take_append_drop i l
    rw [List.drop_eq_getElem_cons hi, hd] at this
    exact this.symm
  · obtain ⟨j, hj, rfl⟩ := List.mem_iff_getElem.1 hc
    rw [List.length_take] at hj
    rw [List.getElem_take]
    exact hn j (by omega) (by omega)
theorem whole_of {l : Bytes} (hn : ∀ j, (hj : j < l.length) → l[j] ≠ 46) : ∀ c ∈ l, c ≠ 46 := by
  intro c hc
  obtain ⟨j, hj, rfl⟩ := List.mem_iff_getElem.1 hc
  exact hn j hj
theorem dot_cases (l : Bytes) : (∀ c ∈ l, c ≠ 46) ∨ ∃ p r, l = p ++ 46 :: r ∧ ∀ c ∈ p, c ≠ 46 := by
  induction l with
  | nil => exact .inl (by simp)
  | cons c q ih =>
    by_cases hc : c = 46
    · subst hc; exact .inr ⟨[], q, rfl, by simp⟩
    · rcases ih with h | ⟨p, r, e, hp⟩
      · exact .inl (fun x hx => (List.mem_cons.1 hx).elim (fun e => e ▸ hc) (h x))
      · exact .inr ⟨c :: p, r, by rw [e]; rfl, fun x hx => (List.mem_cons.1 hx).elim (fun e => e ▸ hc) (hp x)⟩
theorem last_cases (l : Bytes) : (∀ c ∈ l, c ≠ 46) ∨ ∃ p r, l = p ++ 46 :: r ∧ ∀ c ∈ r, c ≠ 46 := by
  induction l with
  | nil => exact .inl (by simp)
  | cons c q ih =>
    rcases ih with h | ⟨p, r, e, hr⟩
    · by_cases hc : c = 46
      · subst hc; exact .inr ⟨[], q, rfl, h⟩
      · exact .inl (fun x hx => (List.mem_cons.1 hx).elim (fun e => e ▸ hc) (h x))
    · exact .inr ⟨c :: p, r, by rw [e]; rfl, hr⟩
end Go.Proofs.YtceddedlfdgbhaaGreatDoor.Nm
