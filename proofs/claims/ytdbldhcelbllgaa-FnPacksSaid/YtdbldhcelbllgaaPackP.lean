/-
  Names packed, in plain words: how a list of names is packed, how a name is read at a place, and that what was packed is read again. No program in sight.
-/
import Derived.Test.YtdbldhcelbllgaaNameF
namespace Go.Proofs.Ytdbldhcelbllgaa.Nm
open Go.RowKit
/-- The first place of a rest. -/
def find : List (Bytes × Nat) → Bytes → Option Nat
  | [], _ => none
  | (q, p) :: t, r => if q = r then some p else find t r
theorem find_mem {R : List (Bytes × Nat)} {r : Bytes} {p : Nat} (h : find R r = some p) : (r, p) ∈ R := by
  induction R with
  | nil => cases h
  | cons x t ih =>
    obtain ⟨q, p'⟩ := x
    unfold find at h
    split at h
    · next e => cases h; subst e; simp
    · exact List.mem_cons_of_mem _ (ih h)
/-- One name, its labels given, behind what is packed already. -/
def packL (b : Bytes) (R : List (Bytes × Nat)) : List Bytes → Bytes × List (Bytes × Nat)
  | [] => (b ++ [0], R)
  | l :: ls => match find R (join (l :: ls)) with
    | some p => (b ++ [UInt8.ofNat (192 + p / 256), UInt8.ofNat (p % 256)], R)
    | none => packL (b ++ UInt8.ofNat l.length :: l) (R ++ [(join (l :: ls), b.length)]) ls
def packN (b : Bytes) (R : List (Bytes × Nat)) : List (List Bytes) → Bytes
  | [] => b
  | n :: ns => packN (packL b R n).1 (packL b R n).2 ns
/-- A list of names, packed. -/
def pack (L : List Bytes) : Bytes := packN [] [] (L.map labels)
/-- A name's label behind what was read of it. -/
def addL (n x : Bytes) : Bytes := if n = [] then x else n ++ 46 :: x
def addAll (n : Bytes) : List Bytes → Bytes
  | [] => n
  | l :: ls => addAll (addL n l) ls
/-- The name at a place, and where it ends there: at most so many steps. -/
def nameAt (s : Bytes) : Nat → Nat → Bytes → Option Nat → Option (Bytes × Nat)
  | 0, _, _, _ => none
  | f + 1, p, n, e => match s[p]? with
    | none => none
    | some h =>
      if h.toNat = 0 then some (n, e.getD (p + 1))
      else if h.toNat ≤ 12 ∧ p + 1 + h.toNat ≤ s.length then nameAt s f (p + 1 + h.toNat) (addL n ((s.drop (p + 1)).take h.toNat)) e
      else if 192 ≤ h.toNat ∧ p + 1 < s.length then nameAt s f ((h.toNat - 192) * 256 + (s[p + 1]?.getD 0).toNat) n (some (e.getD (p + 2)))
      else none
/-- At a place of s so many labels are read in so many steps, and the name ends there. -/
def RdsK (s : Bytes) : Nat → Nat → List Bytes → Nat → Prop
  | 0, _, _, _ => False
  | k + 1, p, ls, e =>
    (k = 0 ∧ ls = [] ∧ s[p]? = some 0 ∧ e = p + 1) ∨
    (∃ l t, ls = l :: t ∧ 1 ≤ l.length ∧ l.length ≤ 12 ∧ s[p]? = some (UInt8.ofNat l.length) ∧ (s.drop (p + 1)).take l.length = l ∧ RdsK s k (p + 1 + l.length) t e) ∨
    ∃ q h lo e', s[p]? = some h ∧ 192 ≤ h.toNat ∧ s[p + 1]? = some lo ∧ q = (h.toNat - 192) * 256 + lo.toNat ∧ q < p ∧ RdsK s k q ls e' ∧ e = p + 2
def Rds (s : Bytes) (p : Nat) (ls : List Bytes) (k e : Nat) : Prop := RdsK s k p ls e
theorem Rds.fin {s : Bytes} {p : Nat} (h : s[p]? = some 0) : Rds s p [] 1 (p + 1) := .inl ⟨rfl, rfl, h, rfl⟩
theorem Rds.lab {s : Bytes} {p k e : Nat} {l : Bytes} {ls : List Bytes} (h1 : 1 ≤ l.length) (h12 : l.length ≤ 12) (h0 : s[p]? = some (UInt8.ofNat l.length)) (ht : (s.drop (p + 1)).take l.length = l) (hr : Rds s (p + 1 + l.length) ls k e) : Rds s p (l :: ls) (k + 1) e :=
  .inr (.inl ⟨l, ls, rfl, h1, h12, h0, ht, hr⟩)
theorem Rds.ptr {s : Bytes} {p q k e : Nat} {h lo : UInt8} {ls : List Bytes} (h0 : s[p]? = some h) (h192 : 192 ≤ h.toNat) (h1 : s[p + 1]? = some lo) (hq : q = (h.toNat - 192) * 256 + lo.toNat) (hb : q < p) (hr : Rds s q ls k e) : Rds s p ls (k + 1) (p + 2) :=
  .inr (.inr ⟨q, h, lo, e, h0, h192, h1, hq, hb, hr, rfl⟩)
theorem Rds.ind {s : Bytes} {M : Nat → List Bytes → Nat → Nat → Prop} (fin : ∀ p, s[p]? = some 0 → M p [] 1 (p + 1))
    (lab : ∀ p k e (l : Bytes) ls, 1 ≤ l.length → l.length ≤ 12 → s[p]? = some (UInt8.ofNat l.length) → (s.drop (p + 1)).take l.length = l → M (p + 1 + l.length) ls k e → M p (l :: ls) (k + 1) e)
    (ptr : ∀ p q k e (h lo : UInt8) ls, s[p]? = some h → 192 ≤ h.toNat → s[p + 1]? = some lo → q = (h.toNat - 192) * 256 + lo.toNat → q < p → M q ls k e → M p ls (k + 1) (p + 2)) :
    ∀ (k p : Nat) (ls : List Bytes) (e : Nat), Rds s p ls k e → M p ls k e
  | 0, _, _, _, h => h.elim
  | k + 1, p, ls, e, h => by
    rcases h with ⟨rfl, rfl, h0, rfl⟩ | ⟨l, t, rfl, h1, h12, h0, ht, hr⟩ | ⟨q, c, lo, e', h0, h192, h1, hq, hb, hr, rfl⟩
    · exact fin p h0
    · exact lab p k e l t h1 h12 h0 ht (Rds.ind fin lab ptr k _ _ _ hr)
    · exact ptr p q k e' c lo ls h0 h192 h1 hq hb (Rds.ind fin lab ptr k _ _ _ hr)
theorem Rds.name {s : Bytes} {p k e : Nat} {ls : List Bytes} (h : Rds s p ls k e) : ∀ (f : Nat) (n : Bytes) (eo : Option Nat), k ≤ f → nameAt s f p n eo = some (addAll n ls, eo.getD e) := by
  refine Rds.ind (M := fun p ls k e => ∀ (f : Nat) (n : Bytes) (eo : Option Nat), k ≤ f → nameAt s f p n eo = some (addAll n ls, eo.getD e)) ?_ ?_ ?_ _ _ _ _ h
  · intro p h0 f n eo hf
    obtain ⟨g, rfl⟩ : ∃ g, f = g + 1 := ⟨f - 1, by omega⟩
    unfold nameAt
    rw [h0]
    simp [addAll]
  · intro p k e l ls h1 h12 h0 ht ih f n eo hf
    obtain ⟨g, rfl⟩ : ∃ g, f = g + 1 := ⟨f - 1, by omega⟩
    have hn : (UInt8.ofNat l.length).toNat = l.length := by simp; omega
    have hlen : p + 1 + l.length ≤ s.length := by
      have := congrArg List.length ht
      rw [List.length_take, List.length_drop] at this
      omega
    unfold nameAt
    rw [h0]
    simp only [hn]
    rw [if_neg (by omega), if_pos ⟨h12, hlen⟩, ht, ih g _ _ (by omega)]
    rfl
  · intro p q k e h lo ls h0 h192 h1 hq _ ih f n eo hf
    obtain ⟨g, rfl⟩ : ∃ g, f = g + 1 := ⟨f - 1, by omega⟩
    have hlen : p + 1 < s.length := (List.getElem?_eq_some_iff.1 h1).1
    unfold nameAt
    rw [h0]
    simp only
    rw [if_neg (by omega), if_neg (by omega), if_pos ⟨h192, hlen⟩, h1]
    simp only [Option.getD_some]
    rw [← hq, ih g _ _ (by omega)]
    simp
theorem Rds.more {s : Bytes} {p k e : Nat} {ls : List Bytes} (h : Rds s p ls k e) (t : Bytes) : Rds (s ++ t) p ls k e := by
  have up : ∀ {i : Nat} {c : UInt8}, s[i]? = some c → (s ++ t)[i]? = some c := fun {i c} hi => by
    rw [List.getElem?_append_left (List.getElem?_eq_some_iff.1 hi).1]
    exact hi
  refine Rds.ind (M := fun p ls k e => Rds (s ++ t) p ls k e) ?_ ?_ ?_ _ _ _ _ h
  · intro p h0
    exact .fin (up h0)
  · intro p k e l ls h1 h12 h0 ht ih
    refine .lab h1 h12 (up h0) ?_ ih
    have hlen : p + 1 + l.length ≤ s.length := by
      have := congrArg List.length ht
      rw [List.length_take, List.length_drop] at this
      omega
    rw [List.drop_append_of_le_length (by omega), List.take_append_of_le_length (by rw [List.length_drop]; omega)]
    exact ht
  · intro p q k e h lo ls h0 h192 h1 hq hb ih
    exact .ptr (up h0) h192 (up h1) hq hb ih
/-- Labels that a name may have. -/
def Good (ls : List Bytes) : Prop := ∀ l ∈ ls, labelOk l = true
theorem label_facts {l : Bytes} (h : labelOk l = true) : 1 ≤ l.length ∧ l.length ≤ 12 ∧ ∀ c ∈ l, c ≠ 46 := by
  unfold labelOk at h
  simp only [Bool.and_eq_true, decide_eq_true_eq] at h
  refine ⟨h.2.1, h.2.2, fun c hc e => ?_⟩
  have := List.all_eq_true.1 h.1 c hc
  rw [e] at this
  revert this
  decide
theorem split_of_join : ∀ (ls : List Bytes), ls ≠ [] → Good ls → split (join ls) = ls
  | [], h, _ => absurd rfl h
  | [l], _, hg => split_whole (label_facts (hg l (by simp))).2.2
  | l :: m :: r, _, hg => by
    show split (l ++ 46 :: join (m :: r)) = _
    rw [split_cut (label_facts (hg l (by simp))).2.2, split_of_join (m :: r) (by simp) (fun x hx => hg x (by simp [hx]))]
theorem join_inj {a b : List Bytes} (ha : a ≠ []) (hb : b ≠ []) (ga : Good a) (gb : Good b) (h : join a = join b) : a = b := by
  rw [← split_of_join a ha ga, ← split_of_join b hb gb, h]
theorem join_cons_length (l : Bytes) (ls : List Bytes) (h : ls ≠ []) : (join (l :: ls)).length = l.length + 1 + (join ls).length := by
  cases ls with
  | nil => exact absurd rfl h
  | cons m r => show (l ++ 46 :: join (m :: r)).length = _; simp; omega
theorem join_longer (l : Bytes) (ls : List Bytes) (hl : 1 ≤ l.length) : (join ls).length < (join (l :: ls)).length := by
  cases ls with
  | nil => show ([] : Bytes).length < l.length; simp; omega
  | cons m r => rw [join_cons_length l (m :: r) (by simp)]; omega
/-- A rest stands at its place, ready to be read. -/
def ReadE (s : Bytes) (e : Bytes × Nat) : Prop := ∃ ls k z, ls ≠ [] ∧ e.1 = join ls ∧ Good ls ∧ k ≤ 2 * ls.length ∧ e.2 < s.length ∧ Rds s e.2 ls k z
theorem ReadE.more {s : Bytes} {e : Bytes × Nat} (h : ReadE s e) (t : Bytes) : ReadE (s ++ t) e := by
  obtain ⟨ls, k, z, h1, h2, h3, h4, h5, h6⟩ := h
  exact ⟨ls, k, z, h1, h2, h3, h4, by rw [List.length_append]; omega, h6.more t⟩
/-- How many bytes the labels take, plainly. -/
def room : List Bytes → Nat
  | [] => 1
  | l :: ls => l.length + 1 + room ls
theorem room_pos (ls : List Bytes) : 1 ≤ room ls := by cases ls <;> simp [room]; omega
theorem packL_reads : ∀ (ls : List Bytes) (b : Bytes) (R C : List (Bytes × Nat)), Good ls → (∀ e ∈ R, ReadE b e) → (∀ e ∈ C, (join ls).length < e.1.length) → b.length + room ls ≤ 16384 →
    ∃ x D, packL b (R ++ C) ls = (b ++ x, R ++ C ++ D) ∧ x.length ≤ room ls ∧ 1 ≤ x.length ∧ (∃ k, k ≤ 2 * ls.length + 1 ∧ Rds (b ++ x) b.length ls k (b ++ x).length) ∧ ∀ e ∈ D, ReadE (b ++ x) e
  | [], b, R, C, _, _, _, _ => by
    refine ⟨[0], [], by simp [packL], by simp [room], by simp, ⟨1, by simp, ?_⟩, by simp⟩
    have := Rds.fin (s := b ++ [0]) (p := b.length) (by simp)
    simpa using this
  | l :: ls, b, R, C, hg, hR, hC, hb => by
    have hl := label_facts (hg l (by simp))
    have hg' : Good ls := fun x hx => hg x (by simp [hx])
    cases hf : find (R ++ C) (join (l :: ls)) with
    | some p =>
      have hm := find_mem hf
      have hmR : (join (l :: ls), p) ∈ R := by
        rcases List.mem_append.1 hm with h | h
        · exact h
        · exact absurd (hC _ h) (by simp)
      obtain ⟨ms, k, z, h1, h2, h3, h4, h5, h6⟩ := hR _ hmR
      obtain rfl : l :: ls = ms := join_inj (by simp) h1 hg h3 h2
      have hp : p < 16384 := by simp only at h5; omega
      refine ⟨[UInt8.ofNat (192 + p / 256), UInt8.ofNat (p % 256)], [], by simp [packL, hf], ?_, by simp, ⟨k + 1, by omega, ?_⟩, by simp⟩
      · have := room_pos ls; simp [room]; omega
      · have hh : (UInt8.ofNat (192 + p / 256)).toNat = 192 + p / 256 := by simp; omega
        have hlo : (UInt8.ofNat (p % 256)).toNat = p % 256 := by simp
        have := Rds.ptr (s := b ++ [UInt8.ofNat (192 + p / 256), UInt8.ofNat (p % 256)]) (p := b.length) (q := p) (h := UInt8.ofNat (192 + p / 256)) (lo := UInt8.ofNat (p % 256)) (by simp) (by rw [hh]; omega) (by rw [List.getElem?_append_right (by omega)]; simp) (by rw [hh, hlo]; omega) h5 (h6.more _)
        simpa using this
    | none =>
      have hjl := join_longer l ls hl.1
      obtain ⟨x, D, e, hx, hx1, ⟨k, hk, hr⟩, hD⟩ := packL_reads ls (b ++ UInt8.ofNat l.length :: l) R (C ++ [(join (l :: ls), b.length)]) hg' (fun e he => (hR e he).more _) (fun e he => by
        rcases List.mem_append.1 he with h | h
        · have := hC e h; omega
        · simp at h; subst h; exact hjl) (by simp only [List.length_append, List.length_cons]; simp only [room] at hb; omega)
      have eb : b ++ UInt8.ofNat l.length :: l ++ x = b ++ (UInt8.ofNat l.length :: l ++ x) := by simp
      rw [eb] at e hr hD
      have hrd : Rds (b ++ (UInt8.ofNat l.length :: l ++ x)) b.length (l :: ls) (k + 1) (b ++ (UInt8.ofNat l.length :: l ++ x)).length := by
        refine .lab hl.1 hl.2.1 (by simp) ?_ ?_
        · have : (b ++ (UInt8.ofNat l.length :: l ++ x)).drop (b.length + 1) = l ++ x := by
            rw [← List.drop_drop, List.drop_left]
            rfl
          rw [this, List.take_left]
        · rw [show b.length + 1 + l.length = (b ++ UInt8.ofNat l.length :: l).length by simp; omega]
          exact hr
      refine ⟨UInt8.ofNat l.length :: l ++ x, (join (l :: ls), b.length) :: D, ?_, ?_, by simp, ⟨k + 1, by simp; omega, hrd⟩, ?_⟩
      · unfold packL
        rw [hf]
        simp only
        rw [List.append_assoc, e]
        simp
      · simp [room]; omega
      · intro q hq
        rcases List.mem_cons.1 hq with rfl | hq
        · exact ⟨l :: ls, k + 1, _, by simp, rfl, hg, by simp; omega, by simp, hrd⟩
        · exact hD q hq
/-- Names, by their labels. -/
def GoodN (ns : List (List Bytes)) : Prop := ∀ n ∈ ns, Good n ∧ n.length ≤ 6
def roomN : List (List Bytes) → Nat
  | [] => 0
  | n :: ns => room n + roomN ns
/-- What is read, name by name, from a place on: at most so many names. -/
def unL (s : Bytes) : Nat → Nat → List Bytes → Option (List Bytes)
  | 0, _, out => some out
  | f + 1, p, out => if p < s.length then match nameAt s 20 p [] none with
      | none => none
      | some x => unL s f x.2 (out ++ [x.1])
    else some out
theorem unL_end (s : Bytes) (f : Nat) (out : List Bytes) : unL s f s.length out = some out := by
  cases f with
  | zero => rfl
  | succ g => unfold unL; rw [if_neg (by omega)]
theorem addL_ne {n x : Bytes} (h : x ≠ []) : addL n x ≠ [] := by
  unfold addL
  split
  · exact h
  · simp
theorem addAll_ne : ∀ (ls : List Bytes) (n : Bytes), n ≠ [] → ls ≠ [] → addAll n ls = n ++ 46 :: join ls
  | [], _, _, h => absurd rfl h
  | [l], n, hn, _ => by show addL n l = _; unfold addL; rw [if_neg hn]; rfl
  | l :: m :: r, n, hn, _ => by
    have e : addL n l = n ++ 46 :: l := by unfold addL; rw [if_neg hn]
    show addAll (addL n l) (m :: r) = n ++ 46 :: (l ++ 46 :: join (m :: r))
    rw [e, addAll_ne (m :: r) _ (by simp) (by simp)]
    simp
theorem addAll_nil (ls : List Bytes) (h : Good ls) : addAll [] ls = join ls := by
  cases ls with
  | nil => rfl
  | cons l r =>
    have hl := (label_facts (h l (by simp))).1
    have hne : l ≠ [] := fun e => by subst e; simp at hl
    have e : addL [] l = l := by unfold addL; rw [if_pos rfl]
    show addAll (addL [] l) r = _
    rw [e]
    cases r with
    | nil => rfl
    | cons m q => rw [addAll_ne _ _ hne (by simp)]; rfl
theorem packN_front : ∀ (ns : List (List Bytes)) (b : Bytes) (R : List (Bytes × Nat)), GoodN ns → (∀ e ∈ R, ReadE b e) → b.length + roomN ns ≤ 16384 → ∃ t, packN b R ns = b ++ t ∧ t.length ≤ roomN ns
  | [], b, R, _, _, _ => ⟨[], by simp [packN], by simp [roomN]⟩
  | n :: ns, b, R, hg, hR, hb => by
    obtain ⟨x, D, e, hx, _, _, hD⟩ := packL_reads n b R [] (hg n (by simp)).1 hR (by simp) (by simp only [roomN] at hb; omega)
    rw [List.append_nil] at e
    obtain ⟨t, e', ht⟩ := packN_front ns (b ++ x) (R ++ D) (fun m hm => hg m (by simp [hm])) (fun q hq => by
      rcases List.mem_append.1 hq with h | h
      · exact (hR q h).more x
      · exact hD q h) (by rw [List.length_append]; simp only [roomN] at hb; omega)
    refine ⟨x ++ t, ?_, ?_⟩
    · unfold packN
      rw [e]
      simp only
      rw [e', List.append_assoc]
    · rw [List.length_append]; simp only [roomN]; omega
theorem packN_reads : ∀ (ns : List (List Bytes)) (b : Bytes) (R : List (Bytes × Nat)) (f : Nat) (out : List Bytes), GoodN ns → (∀ e ∈ R, ReadE b e) → b.length + roomN ns ≤ 16384 → ns.length ≤ f →
    unL (packN b R ns) f b.length out = some (out ++ ns.map join)
  | [], b, R, f, out, _, _, _, _ => by
    show unL b f b.length out = _
    rw [unL_end]
    simp
  | n :: ns, b, R, f, out, hg, hR, hb, hf => by
    obtain ⟨g, rfl⟩ : ∃ g, f = g + 1 := ⟨f - 1, by simp at hf; omega⟩
    obtain ⟨x, D, e, hx, hx1, ⟨k, hk, hr⟩, hD⟩ := packL_reads n b R [] (hg n (by simp)).1 hR (by simp) (by simp only [roomN] at hb; omega)
    rw [List.append_nil] at e
    have hR' : ∀ q ∈ R ++ D, ReadE (b ++ x) q := fun q hq => by
      rcases List.mem_append.1 hq with h | h
      · exact (hR q h).more x
      · exact hD q h
    have hg' : GoodN ns := fun m hm => hg m (by simp [hm])
    have hb' : (b ++ x).length + roomN ns ≤ 16384 := by rw [List.length_append]; simp only [roomN] at hb; omega
    have ih := packN_reads ns (b ++ x) (R ++ D) g (out ++ [join n]) hg' hR' hb' (by simp at hf; omega)
    obtain ⟨t, et, _⟩ := packN_front ns (b ++ x) (R ++ D) hg' hR' hb'
    have ep : packN b R (n :: ns) = packN (b ++ x) (R ++ D) ns := by
      show packN (packL b R n).1 (packL b R n).2 ns = _
      rw [e]
    rw [ep]
    unfold unL
    have hlt : b.length < (packN (b ++ x) (R ++ D) ns).length := by rw [et]; simp; omega
    rw [if_pos hlt]
    have hn : nameAt (packN (b ++ x) (R ++ D) ns) 20 b.length [] none = some (join n, (b ++ x).length) := by
      rw [et, (hr.more t).name 20 [] none (by have := (hg n (by simp)).2; omega), addAll_nil n (hg n (by simp)).1]
      rfl
    rw [hn]
    simp only
    rw [ih]
    simp
/-- A list of names. -/
def okN (L : List Bytes) : Bool := L.all okB && decide (L.length ≤ 20)
theorem okN_facts {L : List Bytes} (h : okN L = true) : (∀ l ∈ L, okB l = true) ∧ L.length ≤ 20 := by
  unfold okN at h
  simp only [Bool.and_eq_true, decide_eq_true_eq] at h
  exact ⟨List.all_eq_true.1 h.1, h.2⟩
theorem ok_labels {l : Bytes} (h : okB l = true) : Good (labels l) ∧ (labels l).length ≤ 6 := by
  unfold okB at h
  simp only [Bool.and_eq_true, decide_eq_true_eq] at h
  exact ⟨List.all_eq_true.1 h.2.1, h.2.2⟩
theorem join_labels (l : Bytes) : join (labels l) = l := by
  unfold labels
  split
  · next h => rw [h]; rfl
  · exact join_split l
theorem room_join : ∀ (ls : List Bytes), ls ≠ [] → room ls = (join ls).length + 2
  | [], h => absurd rfl h
  | [l], _ => by show l.length + 1 + 1 = l.length + 2; omega
  | l :: m :: r, _ => by
    show l.length + 1 + room (m :: r) = _
    rw [room_join (m :: r) (by simp), join_cons_length l (m :: r) (by simp)]
    omega
/-- How many bytes a list of names has without pairs. -/
def plainN : List Bytes → Nat
  | [] => 0
  | l :: L => (if l = [] then 1 else l.length + 2) + plainN L
theorem room_labels (l : Bytes) : room (labels l) = if l = [] then 1 else l.length + 2 := by
  by_cases h : l = []
  · subst h; rfl
  · rw [if_neg h, room_join _ (by rw [labels_cons h]; exact split_ne l), join_labels]
theorem roomN_plain : ∀ L : List Bytes, roomN (L.map labels) = plainN L
  | [] => rfl
  | l :: L => by
    show room (labels l) + roomN (L.map labels) = _
    rw [room_labels, roomN_plain L]
    rfl
theorem plainN_le : ∀ (L : List Bytes), (∀ l ∈ L, okB l = true) → plainN L ≤ 62 * L.length
  | [], _ => by simp [plainN]
  | l :: L, h => by
    have ih := plainN_le L (fun x hx => h x (by simp [hx]))
    have hl : l.length ≤ 60 := by
      have := h l (by simp)
      unfold okB at this
      simp only [Bool.and_eq_true, decide_eq_true_eq] at this
      exact this.1
    unfold plainN
    rw [List.length_cons]
    split <;> omega
theorem goodN_of {L : List Bytes} (h : ∀ l ∈ L, okB l = true) : GoodN (L.map labels) := by
  intro n hn
  obtain ⟨l, hl, rfl⟩ := List.mem_map.1 hn
  exact ok_labels (h l hl)
/-- **What is packed is read again**, and takes no more bytes than plainly. -/
theorem unL_pack {L : List Bytes} (h : okN L = true) : unL (pack L) 21 0 [] = some L ∧ (pack L).length ≤ plainN L := by
  obtain ⟨h1, h2⟩ := okN_facts h
  have hp := plainN_le L h1
  have hb : ([] : Bytes).length + roomN (L.map labels) ≤ 16384 := by rw [roomN_plain]; simp; omega
  refine ⟨?_, ?_⟩
  · have := packN_reads (L.map labels) [] [] 21 [] (goodN_of h1) (by simp) hb (by simp; omega)
    rw [List.nil_append, List.map_map] at this
    rw [show (join ∘ labels : Bytes → Bytes) = id from funext join_labels, List.map_id] at this
    exact this
  · obtain ⟨t, e, ht⟩ := packN_front (L.map labels) [] [] (goodN_of h1) (by simp) hb
    rw [roomN_plain] at ht
    unfold pack
    rw [e]
    exact ht
theorem pack_inj {L M : List Bytes} (hL : okN L = true) (hM : okN M = true) (h : pack L = pack M) : L = M := by
  have := (unL_pack hL).1
  rw [h, (unL_pack hM).1] at this
  exact (Option.some.inj this).symm
/-- The names of which a text is what they are packed as. -/
def unpack (s : Bytes) : Option (List Bytes) := match unL s 21 0 [] with
  | none => none
  | some out => if okN out = true ∧ pack out = s then some out else none
theorem unpack_pack {L : List Bytes} (h : okN L = true) : unpack (pack L) = some L := by
  unfold unpack
  rw [(unL_pack h).1]
  exact if_pos ⟨h, rfl⟩
theorem unpack_some {s : Bytes} {L : List Bytes} (h : unpack s = some L) : okN L = true ∧ pack L = s := by
  unfold unpack at h
  split at h
  · cases h
  · next out e =>
    split at h
    · next k => cases h; exact k
    · cases h
theorem unpack_iff (s : Bytes) (L : List Bytes) : unpack s = some L ↔ okN L = true ∧ pack L = s :=
  ⟨unpack_some, fun h => by rw [← h.2]; exact unpack_pack h.1⟩
end Go.Proofs.Ytdbldhcelbllgaa.Nm
