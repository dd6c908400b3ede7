/-
  Sorting by places, in plain words: where a Record goes in, and the Ttls one after the other. No program in sight.
-/
import Derived.Test.YtgebhkfopahdoaaRecM
namespace Go.Proofs.Ytgebhkfopahdoaa.Rc
open Go.RowKit
/-- The Records of a list in memory. -/
abbrev bR (L : List Rw) : List Rec := L.map toR
theorem bR_length (L : List Rw) : (bR L).length = L.length := List.length_map _
theorem bR_at {L : List Rw} {i : Nat} (h : i < L.length) : (bR L)[i]'(by simpa using h) = toR (rat L i) := by rw [rat_at h]; simp
theorem bR_inj {L M : List Rw} (h : bR L = bR M) : L = M := by
  have := congrArg (List.map ofR) h
  rwa [List.map_map, List.map_map, show (ofR ∘ toR : Rw → Rw) = id from funext ofR_toR, List.map_id, List.map_id] at this
theorem ofR_map (l : List Rec) : bR (l.map ofR) = l := by rw [bR, List.map_map, show (toR ∘ ofR : Rec → Rec) = id from funext toR_ofR, List.map_id]
/-- It goes in at the first place that is not before it. -/
theorem ins_at : ∀ (out : List Rec) (r : Rec) (k : Nat), k ≤ out.length → (∀ j (hj : j < out.length), j < k → befR out[j] r = true) → (∀ (hk : k < out.length), befR out[k] r = false) →
    (∀ (hk : k < out.length), befR r out[k] = false → ins out r = out) ∧ ((∀ (hk : k < out.length), befR r out[k] = true) → ins out r = out.take k ++ r :: out.drop k)
  | [], r, k, hk, _, _ => by
    have : k = 0 := by simpa using hk
    subst this
    exact ⟨fun h => by simp at h, fun _ => rfl⟩
  | x :: t, r, 0, _, _, h2 => by
    have hx : befR x r = false := h2 (by simp)
    refine ⟨fun hk h => ?_, fun h => ?_⟩
    · have h' : befR r x = false := h
      unfold ins
      rw [hx, h']
      rfl
    · have h' : befR r x = true := h (by simp)
      unfold ins
      rw [hx, h']
      rfl
  | x :: t, r, k + 1, hk, h1, h2 => by
    have hx : befR x r = true := h1 0 (by simp) (by omega)
    obtain ⟨i1, i2⟩ := ins_at t r k (by simpa using hk) (fun j hj hjk => h1 (j + 1) (by simp; omega) (by omega)) (fun hk' => h2 (by simp; omega))
    have e : ins (x :: t) r = x :: ins t r := by
      conv => lhs; unfold ins
      rw [hx]
      rfl
    refine ⟨fun hk' h => ?_, fun h => ?_⟩
    · rw [e, i1 (by simpa using hk') h]
    · rw [e, i2 (fun hk' => h (by simp; omega))]
      rfl
theorem sortK_take (l : List Rec) (i : Nat) (h : i < l.length) : sortK (l.take (i + 1)) = ins (sortK (l.take i)) l[i] := by
  unfold sortK
  rw [List.take_add_one, List.getElem?_eq_getElem h, List.foldl_append]
  rfl
theorem minT_take (l : List Rec) (r : Rec) (m : Int) (k : Nat) (h : k < l.length) : minT (l.take (k + 1)) r m = if l[k].name = r.name ∧ l[k].typ = r.typ then min (minT (l.take k) r m) l[k].ttl else minT (l.take k) r m := by
  unfold minT
  rw [List.take_add_one, List.getElem?_eq_getElem h, List.foldl_append]
  rfl
/-- The Ttls one after the other: the first i have theirs. -/
def part (l out : List Rec) (i : Nat) : List Rec := (out.take i).map (withT l) ++ out.drop i
theorem part_zero (l out : List Rec) : part l out 0 = out := by simp [part]
theorem part_all (l out : List Rec) : part l out out.length = out.map (withT l) := by simp [part]
theorem part_length (l out : List Rec) (i : Nat) : (part l out i).length = out.length := by
  unfold part
  rw [List.length_append, List.length_map, List.length_take, List.length_drop]
  omega
theorem part_at (l out : List Rec) (i : Nat) (h : i < out.length) : (part l out i)[i]? = some out[i] := by
  unfold part
  rw [List.getElem?_append_right (by simp; omega), List.getElem?_drop]
  simp only [List.length_map, List.length_take]
  rw [show i + (i - min i out.length) = i by omega, List.getElem?_eq_getElem h]
theorem part_next (l out : List Rec) (i : Nat) (h : i < out.length) : part l out (i + 1) = (part l out i).set i (withT l out[i]) := by
  unfold part
  rw [List.take_add_one, List.getElem?_eq_getElem h, List.map_append, List.drop_eq_getElem_cons h, List.set_append_right _ _ (by simp; omega)]
  simp only [Option.toList_some, List.map_cons, List.map_nil, List.length_map, List.length_take]
  rw [show i - min i out.length = 0 by omega, List.set_cons_zero]
  simp
end Go.Proofs.Ytgebhkfopahdoaa.Rc
