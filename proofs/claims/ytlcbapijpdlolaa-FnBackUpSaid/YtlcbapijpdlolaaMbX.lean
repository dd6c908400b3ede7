/-
  What FnMembers and FnBackUp ask, in plain words.
-/
import Derived.Test.YtlcbapijpdlolaaMbB
namespace Go.Proofs.Ytlcbapijpdlolaa.Mk
set_option linter.unusedVariables false
/-- None of A is stronger than the one of its Id of what it was merged into. -/
theorem join_no_weaker {A B J : List En} (hA : Ris A) (h : IsJoin A B J) {x y : En} (hx : x ∈ J) (hy : y ∈ A) (k : y.key = x.key) : newB y x = false := by
  have e1 := look_mem h.ris hx
  have e2 := look_mem hA hy
  rw [k] at e2
  have := h.at' x.key
  rw [e1, e2] at this
  cases hb : look B x.key with
  | none =>
    rw [hb] at this
    simp only [pickE, Option.some.injEq] at this
    rw [this]
    exact new_irrefl y
  | some z =>
    rw [hb] at this
    simp only [pickE, Option.some.injEq] at this
    by_cases q : newB z y = true
    · rw [if_pos q] at this
      rw [this]
      exact new_asymm q
    · rw [if_neg q] at this
      rw [this]
      exact new_irrefl y
theorem look_map {f : En → En} {id : Int} (hf : ∀ x, x.key ≠ id → f x = x) (hg : ∀ x, x.key = id → (f x).key = id) (A : List En) {k : Int} (hk : k ≠ id) : look (A.map f) k = look A k := by
  induction A with
  | nil => rfl
  | cons a A ih =>
    rw [List.map_cons, look_cons, look_cons, ih]
    by_cases e : a.key = id
    · rw [if_neg (by rw [hg a e]; exact fun q => hk q.symm), if_neg (by rw [e]; exact fun q => hk q.symm)]
    · rw [hf a e]
end Go.Proofs.Ytlcbapijpdlolaa.Mk
namespace Go.Proofs.Ytlcbapijpdlolaa.Mm
open Go.ChangeShapes Go.WideShapes Go.ChangeAt Go.RowKit
open Go.Proofs.Ytlcbapijpdlolaa.Mk (okE newB okBk look Ris IsJoin mergeB backB upE)
set_option linter.unusedVariables false
theorem okE_iff (x : Rw) : okE (toE x) = true ↔ (0 ≤ x.1 ∧ x.1 ≤ 7) ∧ (0 ≤ x.2.1 ∧ x.2.1 ≤ 1000000) ∧ (0 ≤ x.2.2 ∧ x.2.2 ≤ 2) := by
  unfold okE toE
  simp only [Bool.and_eq_true, decide_eq_true_eq]
  constructor
  · rintro ⟨⟨⟨⟨⟨a, b⟩, c⟩, d⟩, e⟩, f⟩
    exact ⟨⟨a, b⟩, ⟨c, d⟩, e, f⟩
  · rintro ⟨⟨a, b⟩, ⟨c, d⟩, e, f⟩
    exact ⟨⟨⟨⟨⟨a, b⟩, c⟩, d⟩, e⟩, f⟩
/-- What FnMembers asks of right ones. -/
structure MemF (A J K1 K2 K4 K5 : List Rw) : Prop where
  ok : okBk (toB J) = true
  back : K1 = J
  once : K2 = J
  assoc : K4 = K5
  weak : ∀ x ∈ J, ∀ y ∈ A, y.1 = x.1 → newB (toE y) (toE x) = false
theorem mem_of {A B C J K1 K2 K3 K4 K5 : List Rw} (oA : okBk (toB A) = true) (oB : okBk (toB B) = true) (oC : okBk (toB C) = true) (hJ : toB J = mergeB (toB A) (toB B)) (h1 : toB K1 = mergeB (toB B) (toB A)) (h2 : toB K2 = mergeB (toB J) (toB A)) (h3 : toB K3 = mergeB (toB B) (toB C)) (h4 : toB K4 = mergeB (toB A) (toB K3)) (h5 : toB K5 = mergeB (toB J) (toB C)) : MemF A J K1 K2 K4 K5 := by
  have j := Mk.merge_is oA oB
  rw [← hJ] at j
  have oJ := Mk.merge_ok oA oB j
  have j3 := Mk.merge_is oB oC
  rw [← h3] at j3
  have o3 := Mk.merge_ok oB oC j3
  have j4 := Mk.merge_is oA o3
  have j5 := Mk.merge_is oJ oC
  refine ⟨oJ, toB_inj ?_, toB_inj ?_, toB_inj ?_, fun x hx y hy e => ?_⟩
  · rw [h1]; exact Mk.merge_of oB oA j.comm
  · rw [h2]; exact Mk.merge_of oJ oA j.again
  · rw [h4, h5]; exact (j.assoc j3 j5 j4).symm
  · exact Mk.join_no_weaker (Mk.ok_ris oA) j (List.mem_map.2 ⟨x, hx, rfl⟩) (List.mem_map.2 ⟨y, hy, rfl⟩) e
theorem mem_none {A B J : List Rw} (h : ¬ (okBk (toB A) = true ∧ okBk (toB B) = true)) (hJ : toB J = mergeB (toB A) (toB B)) : J = [] := by
  rw [Mk.merge_no h] at hJ
  exact toB_inj (M := []) hJ
theorem one_ok {i t s : Int} (hi : 0 ≤ i ∧ i ≤ 7) (ht : 0 ≤ t ∧ t ≤ 1000000) (hs : 0 ≤ s ∧ s ≤ 2) : okBk (toB [(i, t, s)]) = true := by
  refine Mk.ok_mk (by simp) (fun e he => ?_) (List.pairwise_singleton _ _)
  simp only [toB, List.map_cons, List.map_nil, List.mem_singleton] at he
  subst he
  exact (okE_iff _).2 ⟨hi, ht, hs⟩
theorem set_ok {L : List Rw} {i : Nat} {y : Rw} (h : okBk (toB L) = true) (hi : i < L.length) (e : (rat L i).1 = y.1) (hy : okE (toE y) = true) : okBk (toB (L.set i y)) = true := by
  have hk : ∀ j, j < L.length → kat (L.set i y) j = kat L j := fun j hj => by
    unfold kat
    rw [rat_set hi]
    by_cases q : i = j
    · rw [if_pos q, ← q, e]
    · rw [if_neg q]
  refine book_yes (by have := Mk.ok_len h; rw [toB_length] at this; simpa using this) (fun j hj => ?_) (fun j hj => ?_)
  · rw [rat_set hi]
    by_cases q : i = j
    · rw [if_pos q]; exact hy
    · rw [if_neg q]; exact Mk.ok_all h (List.mem_map.2 ⟨_, rat_mem (by simpa using hj), rfl⟩)
  · have hj' : j + 1 < L.length := by simpa using hj
    rw [hk j (by omega), hk (j + 1) hj']
    exact ris_to (Mk.ok_ris h) j hj'
theorem turn_ok {L : List Rw} {id st : Int} (h : (turnR L id st).2 = true) : okBk (toB L) = true ∧ ∃ i, i < L.length ∧ (rat L i).1 = id ∧ (rat L i).2.2 = st := by
  cases e : okBk (toB L) with
  | false => rw [turn_no e] at h; cases h
  | true =>
    refine ⟨rfl, ?_⟩
    unfold turnR at h
    rw [if_pos e] at h
    obtain ⟨x, hx, q⟩ := List.any_eq_true.1 h
    obtain ⟨i, hi, rfl⟩ := List.mem_iff_getElem.1 hx
    have := of_decide_eq_true q
    exact ⟨i, hi, by rw [rat_at hi]; exact this.1, by rw [rat_at hi]; exact this.2⟩
/-- Not both at once. -/
theorem turn_two (L : List Rw) (id : Int) : ((turnR L id 0).2 && (turnR L id 1).2) = false := by
  cases h0 : (turnR L id 0).2 with
  | false => rfl
  | true =>
    cases h1 : (turnR L id 1).2 with
    | false => rfl
    | true =>
      obtain ⟨ok, i, hi, a, b⟩ := turn_ok h0
      obtain ⟨_, j, hj, c, d⟩ := turn_ok h1
      have := one_id ok hi hj (by unfold kat; rw [a, c])
      subst this
      rw [b] at d
      cases d
/-- Who was doubted is not doubted again, and can be dropped. -/
theorem turn_then {L : List Rw} {id : Int} (h : (turnR L id 0).2 = true) : (turnR (turnR L id 0).1 id 0).2 = false ∧ (turnR (turnR L id 0).1 id 1).2 = true := by
  obtain ⟨ok, i, hi, a, b⟩ := turn_ok h
  have hx := Mk.ok_all ok (List.mem_map.2 ⟨_, rat_mem hi, rfl⟩ : toE (rat L i) ∈ toB L)
  rw [turn_hit ok hi a b]
  have ok' : okBk (toB (L.set i (id, (rat L i).2.1, 0 + 1))) = true := set_ok ok hi a (by
    obtain ⟨p, q, _⟩ := (okE_iff _).1 hx
    rw [a] at p
    exact (okE_iff _).2 ⟨p, q, by show (0 : Int) ≤ 0 + 1 ∧ (0 : Int) + 1 ≤ 2; decide⟩)
  have hi' : i < (L.set i (id, (rat L i).2.1, 0 + 1)).length := by simpa using hi
  refine ⟨?_, ?_⟩
  · rw [turn_miss ok' (fun j hj => ?_)]
    rw [rat_set hi]
    by_cases q : i = j
    · rw [if_pos q]; rintro ⟨_, c⟩; exact absurd (show (0 : Int) + 1 = 0 from c) (by decide)
    · rw [if_neg q]; rintro ⟨c, _⟩; exact q (one_id ok hi (by simpa using hj) (by unfold kat; rw [a, c]))
  · rw [turn_hit ok' hi' (by rw [rat_set hi, if_pos rfl]) (by rw [rat_set hi, if_pos rfl]; rfl)]
/-- What FnBackUp asks of who is back. -/
theorem back_of {L B M : List Rw} {id : Int} (h : (backB (toB L) id).2 = true) (hB : toB B = (backB (toB L) id).1) (hM : toB M = mergeB (toB B) (toB L)) : okBk (toB B) = true ∧ M = B ∧ ∀ x ∈ M, x.1 = id → x.2.2 = 0 := by
  cases ok : okBk (toB L) with
  | false => rw [Mk.back_no ok] at h; cases h
  | true =>
    by_cases k : 0 ≤ id ∧ id ≤ 7
    · by_cases hx : ∃ i, i < L.length ∧ (rat L i).1 = id
      · obtain ⟨i, hi, e⟩ := hx
        have hl := look_hit ok hi e
        have hxi := Mk.ok_all ok (List.mem_map.2 ⟨_, rat_mem hi, rfl⟩ : toE (rat L i) ∈ toB L)
        by_cases ht : (toE (rat L i)).time = 1000000
        · rw [Mk.back_max ok k hl ht] at h; cases h
        · rw [Mk.back_up ok k hl ht] at hB
          have hB' := hB
          rw [← map_up ok hi e] at hB
          have eB := toB_inj hB
          have okB : okBk (toB B) = true := by
            rw [eB]
            refine set_ok ok hi e ?_
            obtain ⟨_, ⟨p, q⟩, _⟩ := (okE_iff _).1 hxi
            have ht' : (rat L i).2.1 ≠ 1000000 := ht
            exact (okE_iff _).2 ⟨k, ⟨by show 0 ≤ (rat L i).2.1 + 1; omega, by show (rat L i).2.1 + 1 ≤ 1000000; omega⟩, by show (0 : Int) ≤ 0 ∧ (0 : Int) ≤ 2; decide⟩
          have hiB : i < B.length := by rw [eB]; simpa using hi
          have rB : rat B i = (id, (rat L i).2.1 + 1, 0) := by rw [eB, rat_set hi, if_pos rfl]
          have j : IsJoin (toB B) (toB L) (toB B) := ⟨Mk.ok_ris okB, fun q => by
            by_cases hq : q = id
            · subst hq
              have l2 := look_hit okB hiB (by rw [rB])
              rw [l2, hl, rB]
              have : newB (toE (rat L i)) (toE (q, (rat L i).2.1 + 1, 0)) = false := by
                rw [new_str]
                simp only [Bool.or_eq_false_iff, Bool.and_eq_false_iff, decide_eq_false_iff_not]
                omega
              show _ = some (if newB (toE (rat L i)) (toE (q, (rat L i).2.1 + 1, 0)) then _ else _)
              rw [this]
              rfl
            · have : Mk.look (toB B) q = Mk.look (toB L) q := by
                rw [hB']
                exact Mk.look_map (fun x hx => if_neg hx) (fun x hx => by rw [if_pos hx]; rfl) _ hq
              rw [this, Mk.pick_self]⟩
          have eM : M = B := toB_inj (by rw [hM]; exact Mk.merge_of okB ok j)
          refine ⟨okB, eM, fun x hx hi2 => ?_⟩
          rw [eM] at hx
          obtain ⟨n, hn, rfl⟩ := List.mem_iff_getElem.1 hx
          have := one_id okB hiB hn (by unfold kat; rw [rB, rat_at hn, hi2])
          subst this
          rw [← rat_at hn, rB]
      · have hl : Mk.look (toB L) id = none := look_miss (fun j hj q => hx ⟨j, hj, q⟩)
        have ok1 : okBk [upE id 0] = true := Mk.ok_mk (by simp) (fun e he => by
          rw [List.mem_singleton.1 he]
          exact Mk.upE_ok k (by decide)) (List.pairwise_singleton _ _)
        have j := Mk.merge_is ok ok1
        rw [Mk.back_new ok k hl j] at hB
        simp only at hB
        rw [← hB] at j
        have okB := Mk.merge_ok ok ok1 j
        have eM : M = B := toB_inj (by rw [hM]; exact Mk.merge_of okB ok j.again)
        refine ⟨okB, eM, fun x hx' hi2 => ?_⟩
        rw [eM] at hx'
        rcases j.mem (List.mem_map.2 ⟨x, hx', rfl⟩ : toE x ∈ toB B) with q | q
        · exact absurd hi2 (Mk.look_none hl _ q)
        · have q' := List.mem_singleton.1 q
          have : (toE x).node = 0 := by rw [q']; rfl
          exact this
    · rw [Mk.back_out ok k] at h; cases h
end Go.Proofs.Ytlcbapijpdlolaa.Mm
