/-
  How the program reads names again, in plain words: labels are counted and pairs lead back; of a text that is packed it reads the names, and so it takes just what is packed. No program in sight.
-/
import Derived.Test.YtdbldhcelbllgaaPackP
namespace Go.Proofs.Ytdbldhcelbllgaa.Nm
open Go.RowKit
/-- The labels at a place, behind those that were read, and where the name ends (0: not known yet): at most so many steps. -/
def rd (s : Bytes) : Nat → Nat → List Bytes → Nat → Option (List Bytes × Nat)
  | 0, _, _, _ => none
  | f + 1, p, L, e => match s[p]? with
    | none => none
    | some h =>
      if h.toNat = 0 then some (L, if e = 0 then p + 1 else e)
      else if h.toNat ≤ 12 then
        if L.length = 6 ∨ s.length - (p + 1) < h.toNat then none
        else rd s f (p + 1 + h.toNat) (L ++ [(s.drop (p + 1)).take h.toNat]) e
      else if 192 ≤ h.toNat then
        if p + 1 = s.length then none
        else if p ≤ (h.toNat - 192) * 256 + (s[p + 1]?.getD 0).toNat then none
        else rd s f ((h.toNat - 192) * 256 + (s[p + 1]?.getD 0).toNat) L (if e = 0 then p + 2 else e)
      else none
theorem Rds.rd {s : Bytes} {p k e : Nat} {ls : List Bytes} (h : Rds s p ls k e) : ∀ (f : Nat) (L : List Bytes) (eo : Nat), k ≤ f → L.length + ls.length ≤ 6 → Nm.rd s f p L eo = some (L ++ ls, if eo = 0 then e else eo) := by
  refine Rds.ind (M := fun p ls k e => ∀ (f : Nat) (L : List Bytes) (eo : Nat), k ≤ f → L.length + ls.length ≤ 6 → Nm.rd s f p L eo = some (L ++ ls, if eo = 0 then e else eo)) ?_ ?_ ?_ _ _ _ _ h
  · intro p h0 f L eo hf _
    obtain ⟨g, rfl⟩ : ∃ g, f = g + 1 := ⟨f - 1, by omega⟩
    unfold Nm.rd
    rw [h0]
    simp
  · intro p k e l ls h1 h12 h0 ht ih f L eo hf hL
    obtain ⟨g, rfl⟩ : ∃ g, f = g + 1 := ⟨f - 1, by omega⟩
    have hn : (UInt8.ofNat l.length).toNat = l.length := by simp; omega
    have hlen : p + 1 + l.length ≤ s.length := by
      have := congrArg List.length ht
      rw [List.length_take, List.length_drop] at this
      omega
    rw [List.length_cons] at hL
    unfold Nm.rd
    rw [h0]
    simp only [hn]
    rw [if_neg (by omega), if_pos h12, if_neg (by omega), ht, ih g _ _ (by omega) (by rw [List.length_append]; simp; omega)]
    simp
  · intro p q k e h lo ls h0 h192 h1 hq hb ih f L eo hf hL
    obtain ⟨g, rfl⟩ : ∃ g, f = g + 1 := ⟨f - 1, by omega⟩
    have hlen : p + 1 < s.length := (List.getElem?_eq_some_iff.1 h1).1
    unfold Nm.rd
    rw [h0]
    simp only
    rw [if_neg (by omega), if_neg (by omega), if_pos h192, if_neg (by omega), h1]
    simp only [Option.getD_some]
    rw [← hq, if_neg (by omega), ih g _ _ (by omega) hL]
    by_cases he : eo = 0
    · simp [he]
    · simp [he]
theorem rd_some {s : Bytes} : ∀ (f p : Nat) (L : List Bytes) (e : Nat) (M : List Bytes) (z : Nat), rd s f p L e = some (M, z) → L.length ≤ 6 → (∀ l ∈ L, l.length ≤ 12) →
    M.length ≤ 6 ∧ (∀ l ∈ M, l.length ≤ 12) ∧ (e = 0 → p < z ∧ z ≤ s.length) ∧ (e ≠ 0 → z = e)
  | 0, _, _, _, _, _, h, _, _ => by simp [rd] at h
  | f + 1, p, L, e, M, z, h, hL, hl => by
    unfold rd at h
    split at h
    · cases h
    next c hc =>
    have hp : p < s.length := (List.getElem?_eq_some_iff.1 hc).1
    split at h
    · cases h
      refine ⟨hL, hl, fun he => ?_, fun he => ?_⟩
      · rw [if_pos he]; omega
      · rw [if_neg he]
    split at h
    · split at h
      · cases h
      next h12 hno =>
      obtain ⟨h1, h2, h3, h4⟩ := rd_some f _ _ _ _ _ h (by simp; omega) (fun l hm => by
        rcases List.mem_append.1 hm with hm | hm
        · exact hl l hm
        · simp only [List.mem_singleton] at hm
          subst hm
          rw [List.length_take]; omega)
      exact ⟨h1, h2, fun he => by have := h3 he; omega, h4⟩
    split at h
    · split at h
      · cases h
      next hend =>
      split at h
      · cases h
      obtain ⟨h1, h2, h3, h4⟩ := rd_some f _ _ _ _ _ h hL hl
      refine ⟨h1, h2, fun he => ?_, fun he => ?_⟩
      · have := h4 (by rw [if_pos he]; omega)
        rw [if_pos he] at this
        omega
      · have := h4 (by rw [if_neg he]; exact he)
        rw [if_neg he] at this
        exact this
    · cases h
/-- So many steps are enough. -/
def rdF (s : Bytes) : Nat := 7 * (s.length + 1)
/-- The names from a place on, behind those that were read. -/
def rdN (s : Bytes) : Nat → Nat → List Bytes → Option (List Bytes)
  | 0, _, _ => none
  | f + 1, p, out => if p < s.length then match rd s (rdF s) p [] 0 with
      | none => none
      | some x => if out.length = 20 then none else rdN s f x.2 (out ++ [join x.1])
    else some out
theorem packN_rdN : ∀ (ns : List (List Bytes)) (b : Bytes) (R : List (Bytes × Nat)) (f : Nat) (out : List Bytes), GoodN ns → (∀ e ∈ R, ReadE b e) → b.length + roomN ns ≤ 16384 → ns.length < f → out.length + ns.length ≤ 20 →
    rdN (packN b R ns) f b.length out = some (out ++ ns.map join)
  | [], b, R, f, out, _, _, _, hf, _ => by
    obtain ⟨g, rfl⟩ : ∃ g, f = g + 1 := ⟨f - 1, by simp at hf; omega⟩
    show rdN b (g + 1) b.length out = _
    unfold rdN
    rw [if_neg (by omega)]
    simp
  | n :: ns, b, R, f, out, hg, hR, hb, hf, ho => by
    obtain ⟨g, rfl⟩ : ∃ g, f = g + 1 := ⟨f - 1, by simp at hf; omega⟩
    rw [List.length_cons] at hf ho
    obtain ⟨x, D, e, hx, hx1, ⟨k, hk, hr⟩, hD⟩ := packL_reads n b R [] (hg n (by simp)).1 hR (by simp) (by simp only [roomN] at hb; omega)
    rw [List.append_nil] at e
    have hR' : ∀ q ∈ R ++ D, ReadE (b ++ x) q := fun q hq => by
      rcases List.mem_append.1 hq with h | h
      · exact (hR q h).more x
      · exact hD q h
    have hg' : GoodN ns := fun m hm => hg m (by simp [hm])
    have hb' : (b ++ x).length + roomN ns ≤ 16384 := by rw [List.length_append]; simp only [roomN] at hb; omega
    have ih := packN_rdN ns (b ++ x) (R ++ D) g (out ++ [join n]) hg' hR' hb' (by omega) (by simp; omega)
    obtain ⟨t, et, _⟩ := packN_front ns (b ++ x) (R ++ D) hg' hR' hb'
    have ep : packN b R (n :: ns) = packN (b ++ x) (R ++ D) ns := by
      show packN (packL b R n).1 (packL b R n).2 ns = _
      rw [e]
    rw [ep]
    unfold rdN
    have hlt : b.length < (packN (b ++ x) (R ++ D) ns).length := by rw [et]; simp; omega
    rw [if_pos hlt]
    have hn : rd (packN (b ++ x) (R ++ D) ns) (rdF (packN (b ++ x) (R ++ D) ns)) b.length [] 0 = some (n, (b ++ x).length) := by
      have h6 := (hg n (by simp)).2
      have := (hr.more t).rd (rdF (packN (b ++ x) (R ++ D) ns)) [] 0 (by unfold rdF; omega) (by simp; omega)
      rw [← et] at this
      rw [this]
      simp
    rw [hn]
    simp only
    rw [if_neg (by omega), ih]
    simp
theorem rdN_pack {L : List Bytes} (h : okN L = true) : rdN (pack L) 21 0 [] = some L := by
  obtain ⟨h1, h2⟩ := okN_facts h
  have hp := plainN_le L h1
  have hb : ([] : Bytes).length + roomN (L.map labels) ≤ 16384 := by rw [roomN_plain]; simp; omega
  have := packN_rdN (L.map labels) [] [] 21 [] (goodN_of h1) (by simp) hb (by simp; omega) (by simp; omega)
  rw [List.nil_append, List.map_map] at this
  rw [show (join ∘ labels : Bytes → Bytes) = id from funext join_labels, List.map_id] at this
  exact this
/-- What Packed answers. -/
def packB (L : List Bytes) : Bytes := if okN L = true then pack L else []
theorem packB_length (L : List Bytes) : (packB L).length ≤ 1240 := by
  unfold packB
  split
  · next h =>
    obtain ⟨h1, h2⟩ := okN_facts h
    have := (unL_pack h).2
    have := plainN_le L h1
    omega
  · simp
/-- What Plain answers. -/
def plainB (L : List Bytes) : Int := if okN L = true then plainN L else -1
/-- **The program's way to read takes just what is packed.** -/
theorem unpack_rdN (s : Bytes) : (match rdN s 21 0 [] with | none => none | some L => if packB L = s then some L else none) = unpack s := by
  cases hu : unpack s with
  | some L =>
    obtain ⟨h1, h2⟩ := unpack_some hu
    subst h2
    rw [rdN_pack h1]
    simp [packB, h1]
  | none =>
    split
    · rfl
    next L hL =>
    by_cases hp : packB L = s
    · exfalso
      by_cases ho : okN L = true
      · rw [packB, if_pos ho] at hp
        rw [(unpack_iff s L).2 ⟨ho, hp⟩] at hu
        cases hu
      · rw [packB, if_neg ho] at hp
        subst hp
        have : rdN ([] : Bytes) 21 0 [] = some [] := rfl
        rw [this] at hL
        cases hL
        exact ho rfl
    · rw [if_neg hp]
theorem spec_unpack (s : Bytes) : (match unL s 21 0 [] with | none => none | some L => if okN L = true ∧ pack L = s then some L else none) = unpack s := rfl
end Go.Proofs.Ytdbldhcelbllgaa.Nm
