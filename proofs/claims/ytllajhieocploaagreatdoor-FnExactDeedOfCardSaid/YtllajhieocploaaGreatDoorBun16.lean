/-
  What a law's list says of the program's errors of errors.New's make (and, where the law meets errors.As, of the library's handle of the type error), and that they stay.
  Keys of secrets; the secrets that a Roll has; what is Served, of the program.
  What is Served, of the specification.
  A slice as a value: where it begins, how long it is, how much room it has.
  One Replica: two slices, a book and Members; what the laws do with it: the measure, the copy, whether two are alike.
-/
import Derived.Test.YtllajhieocploaaGreatDoorBun2
import Derived.Test.YtllajhieocploaaGreatDoorBun15
import Derived.Stop.LaidErr
import Derived.LaidHandle
import Derived.Test.YtllajhieocploaaGreatDoorBun12
import Derived.Test.YtllajhieocploaaGreatDoorBun11
import Derived.Test.YtllajhieocploaaGreatDoorBoxM
import Derived.Deep.RegionHeld3
import Derived.Test.YtllajhieocploaaGreatDoorMem
import Derived.WalkKit
import Derived.Test.YtllajhieocploaaGreatDoorBun10
import Derived.Test.YtllajhieocploaaGreatDoorBun1
namespace Go.Proofs.YtllajhieocploaaGreatDoor.Se
open Go.RowKit Go.ChangeShapes
set_option linter.unusedVariables false
theorem star : "*" ++ "errors.errorString" = "*errors.errorString" := by decide
theorem row (u : TypeId) (h : Tryz.prog.typeName? 3 u = some "*errors.errorString") : u = 231 :=
  typeName_ptr_named (nm := "errors.errorString") (by rw [star]; kernel_rfl) (by kernel_rfl) (by decide) u (by rw [star]; exact h)
theorem cellsE : Tryz.prog.cellsOf 247 = 1 := by kernel_rfl
theorem cellsS : Tryz.prog.cellsOf 9 = 1 := by kernel_rfl
theorem at_of_var {w : World} {n : String} {g : Nat} {a : Addr} (hg : Tryz.prog.globalNamed n = some g) (h : w.var? Tryz.prog n = some #[.iface 231 (.pointer (some a))]) : At w g a := by
  unfold At
  simpa using World.var?_cell hg h 0
theorem var_kept {w w' : World} {n : String} {cs : Array Value} (h : w.var? Tryz.prog n = some cs) (k : Below w.heap.size w w') : w'.var? Tryz.prog n = some cs := by
  unfold World.var? at h ⊢
  cases hg : Tryz.prog.globalNamed n with
  | none => simp [hg] at h
  | some g =>
    simp only [hg, Option.bind_some] at h ⊢
    have hlt : g < w.heap.size := by
      rcases Nat.lt_or_ge g w.heap.size with h' | h'
      · exact h'
      · simp [Array.getElem?_eq_none h'] at h
    rw [k.block g hlt]
    exact h
theorem vars_nil {H : Type} (enc : TypeId × Value → H) {W : World} (sp : Nat → Bool) : DataW.TrodVars enc Tryz.prog W sp [] [] [] := rfl
theorem vars_cons {H : Type} (enc : TypeId × Value → H) {W : World} {n : String} {g : Nat} {x : Value} {ns : List String} {gs : List (DataW H)} {q : List MemPlace}
    (hg : Tryz.prog.globalNamed n = some g) (ht : (Tryz.prog.globals[g]?).map (·.type) = some 129) (h : W.var? Tryz.prog n = some #[x]) (ix : IsIface x) {sp : Nat → Bool} (r : DataW.TrodVars enc Tryz.prog W sp ns gs q) :
    DataW.TrodVars enc Tryz.prog W sp (n :: ns) (tok enc x :: gs) (.cell g 0 :: q) :=
  ⟨g, 129, #[x], 1, [], q, hg, ht, h, trod_held Tryz.underlying129 ix 0, r, rfl⟩
end Go.Proofs.YtllajhieocploaaGreatDoor.Se
namespace Go.Proofs.YtllajhieocploaaGreatDoor.Ro
open Go.ChangeShapes Go.WideShapes Go.ChangeAt Go.RowKit
open Cv Cu
open Go.Proofs.YtllajhieocploaaGreatDoor.Pt (Ln lat)
set_option linter.unusedVariables false
theorem sec_nat {x : Int} (h : secB x = true) : ∃ n : Nat, x = n ∧ 0 < n ∧ n < 2549 := by
  simp only [secB, inB, Bool.and_eq_true, decide_eq_true_eq] at h
  exact ⟨x.toNat, by omega, by omega, by omega⟩
def keyI (x : Int) : Ln := (((ns (2791, 6375) x.toNat).1 : Int), ((ns (2791, 6375) x.toNat).2 : Int))
theorem keyI_nat (n : Nat) : keyI n = (((ns (2791, 6375) n).1 : Int), ((ns (2791, 6375) n).2 : Int)) := rfl
theorem spec_times (x : Int) (h : secB x = true) (w : World) : Calls Tryz.prog 106 #[.int .i64 x, .agg #[.int .i64 2791, .int .i64 6375]] w fun e w' => e = .returned (.agg #[.int .i64 (keyI x).1, .int .i64 (keyI x).2]) ∧ Below w.heap.size w w' := by
  obtain ⟨n, rfl, h1, h2⟩ := sec_nat h
  rw [keyI_nat]
  exact l2Times_any 2791 6375 n w ok_base (by omega)
theorem impl_KeyOf_sec (x : Int) (h : secB x = true) (w : World) : Calls Tryz.prog 78 #[.int .i64 x] w fun e w' => e = .returned (.tuple #[.agg #[.int .i64 (keyI x).1, .int .i64 (keyI x).2], .bool true]) ∧ Below w.heap.size w w' := by
  obtain ⟨n, rfl, h1, h2⟩ := sec_nat h
  rw [keyI_nat]
  exact impl_KeyOf_yes n w h1 h2
/-- The secrets of a Roll; what is Served. -/
def secR (p m o n a : Int) : List Int := if rollOk p m o n a = false then [] else if p = 1 then [m, o] else [m, o, n]
def serR (p m o n a : Int) : List Ln := (secR p m o n a).map keyI
theorem ser_length (p m o n a : Int) : (serR p m o n a).length = (secR p m o n a).length := by simp [serR]
theorem sec_length (p m o n a : Int) : (secR p m o n a).length ≤ 3 := by
  unfold secR
  split
  · simp
  · split <;> simp
theorem roll_secs {p m o n a : Int} (h : rollOk p m o n a = true) : secB m = true ∧ secB o = true ∧ (p = 1 → n = 0) ∧ (p ≠ 1 → secB n = true) := by
  unfold rollOk rollB at h
  by_cases h1 : p = 1
  · rw [if_pos h1] at h
    simp only [Bool.and_eq_true, beq_iff_eq] at h
    exact ⟨h.1, h.2.1, fun _ => h.2.2.2, fun e => absurd h1 e⟩
  · rw [if_neg h1] at h
    simp only [Bool.and_eq_true] at h
    exact ⟨h.1, h.2.1, fun e => absurd e h1, fun _ => h.2.2.2.2⟩
theorem sec_all {p m o n a x : Int} (h : x ∈ secR p m o n a) : secB x = true := by
  unfold secR at h
  cases hr : rollOk p m o n a with
  | false => simp [hr] at h
  | true =>
    obtain ⟨hm, ho, _, hn⟩ := roll_secs hr
    rw [if_neg (by simp [hr])] at h
    by_cases h1 : p = 1
    · rw [if_pos h1] at h
      simp at h
      rcases h with rfl | rfl
      · exact hm
      · exact ho
    · rw [if_neg h1] at h
      simp at h
      rcases h with rfl | rfl | rfl
      · exact hm
      · exact ho
      · exact hn h1
attribute [local go_sem] as_st_nil as_st_st as_st_rd as_st_mv as_rd_nil as_rd_st as_rd_rd as_rd_mv as_mv_nil as_mv_st as_mv_rd as_mv_mv
theorem own_i0 (w : World) {k : Nat} (h : w.heap.size = k) (b : Nat) (hb : b ≤ k) : Iv.Own (w.alloc (.cells #[] 2)) b (.slice (some ⟨k, 0, none⟩) 0 0) [] := by
  subst h
  exact (Iv.Own.new w).mono hb
theorem own_i2 (w : World) (m o : Int) {k : Nat} (h : w.heap.size = k) (b : Nat) (hb : b ≤ k) : Iv.Own (w.alloc (.cells #[.int .i64 m, .int .i64 o] 2)) b (.slice (some ⟨k, 0, none⟩) 2 2) [m, o] := by
  subst h
  exact ⟨by simp [Iv.icells], .inr ⟨w.heap.size, 2, _, rfl, hb, heap_alloc_new w _, Nat.le_refl _, by decide, rfl, rfl⟩⟩
theorem own_i3 (w : World) (m o n : Int) {k : Nat} (h : w.heap.size = k) (b : Nat) (hb : b ≤ k) : Iv.Own (w.alloc (.cells #[.int .i64 m, .int .i64 o, .int .i64 n] 2)) b (.slice (some ⟨k, 0, none⟩) 3 3) [m, o, n] := by
  subst h
  exact ⟨by simp [Iv.icells], .inr ⟨w.heap.size, 3, _, rfl, hb, heap_alloc_new w _, Nat.le_refl _, by decide, rfl, rfl⟩⟩
theorem own_apart {w : World} {base base' e e' s s' n n' : Nat} {v v' : Value} {xs xs' : List Value} (h : w.ownsRow base e s v n xs) (h' : w.ownsRow base' e' s' v' n' xs') (hne : e ≠ e') : v.ownBlock = none ∨ v.ownBlock ≠ v'.ownBlock := by
  rcases h.2 with ⟨rfl, _⟩ | ⟨g, cap, cur, rfl, _, hg, _⟩
  · exact .inl rfl
  · refine .inr (fun k => ?_)
    rcases h'.2 with ⟨rfl, _⟩ | ⟨g', cap', cur', rfl, _, hg', _⟩
    · cases k
    · cases k
      rw [hg] at hg'
      cases hg'
      exact hne rfl
set_option maxRecDepth 100000 in
set_option maxHeartbeats 4000000 in
theorem secretsOf_nil (w : World) : Calls Tryz.prog 77 #[.nilIface] w fun e w' => ∃ v, e = .returned v ∧ Iv.Own w' w.heap.size v [] ∧ Below w.heap.size w w' := by
  go_enter Tryz.func77, Tryz.ntmps77
  go_wp2
  go_ret
  exact ⟨_, rfl, own_i0 _ (by simp) _ (by omega), by go_grown⟩
set_option maxRecDepth 100000 in
set_option maxHeartbeats 4000000 in
theorem secretsOf_st (m o a : Int) (w : World) : Calls Tryz.prog 77 #[stV m o a] w fun e w' => ∃ v, e = .returned v ∧ Iv.Own w' w.heap.size v [m, o] ∧ Below w.heap.size w w' := by
  go_enter Tryz.func77, Tryz.ntmps77
  go_wp2
  go_ret
  exact ⟨_, rfl, own_i2 _ _ _ (by simp) _ (by omega), by go_grown⟩
set_option maxRecDepth 100000 in
set_option maxHeartbeats 4000000 in
theorem secretsOf_rd (m o n a : Int) (w : World) : Calls Tryz.prog 77 #[rdV m o n a] w fun e w' => ∃ v, e = .returned v ∧ Iv.Own w' w.heap.size v [m, o, n] ∧ Below w.heap.size w w' := by
  go_enter Tryz.func77, Tryz.ntmps77
  go_wp2
  go_ret
  exact ⟨_, rfl, own_i3 _ _ _ _ (by simp) _ (by omega), by go_grown⟩
set_option maxRecDepth 100000 in
set_option maxHeartbeats 4000000 in
theorem secretsOf_mv (m o n a : Int) (w : World) : Calls Tryz.prog 77 #[mvV m o n a] w fun e w' => ∃ v, e = .returned v ∧ Iv.Own w' w.heap.size v [m, o, n] ∧ Below w.heap.size w w' := by
  go_enter Tryz.func77, Tryz.ntmps77
  go_wp2
  go_ret
  exact ⟨_, rfl, own_i3 _ _ _ _ (by simp) _ (by omega), by go_grown⟩
theorem impl_secretsOf (p m o n a : Int) (w : World) : Calls Tryz.prog 77 #[shV p m o n a] w fun e w' => ∃ v, e = .returned v ∧ Iv.Own w' w.heap.size v (secR p m o n a) ∧ Below w.heap.size w w' := by
  unfold shV secR
  cases hr : rollOk p m o n a with
  | false => exact secretsOf_nil w
  | true =>
    rw [if_neg (show ¬ true = false by decide), if_neg (show ¬ true = false by decide)]
    by_cases h1 : p = 1
    · rw [if_pos h1, if_pos h1]
      exact secretsOf_st m o a w
    · rw [if_neg h1, if_neg h1]
      by_cases h2 : p = 2
      · rw [if_pos h2]
        exact secretsOf_rd m o n a w
      · rw [if_neg h2]
        exact secretsOf_mv m o n a w
theorem infoPt : (Tryz.prog.info? 48).map (fun i => (i.zero, i.size, i.bytes)) = some (some (.agg #[.int .i64 0, .int .i64 0]), 2, 16) := by kernel_rfl
theorem fresh_cells (w : World) (x y : Int) (T : TypeId) : ∀ j u, ([Value.int .i64 x, Value.int .i64 y] : List Value)[j]? = some u → (w.alloc (.cells #[.int .i64 x, .int .i64 y] T)).cell? ((⟨w.heap.size, 0, none⟩ : Addr).add j) = some u := by
  intro j u hj
  match j, hj with
  | 0, hj => simp at hj; subst hj; simp [Addr.add]
  | 1, hj => simp at hj; subst hj; simp [Addr.add]
theorem take_map (L : List Int) (i : Nat) (h : i < L.length) : (L.map keyI).take i ++ [keyI (Iv.iat L i)] = (L.map keyI).take (i + 1) := by
  rw [Iv.iat_at h, List.take_add_one, List.getElem?_map, List.getElem?_eq_getElem h]
  rfl
set_option maxRecDepth 100000 in
set_option maxHeartbeats 8000000 in
theorem impl_Served (p m o n a : Int) (w : World) : Calls Tryz.prog 41 #[rv p m o n a] w fun e w' => ∃ v, e = .returned v ∧ Pt.Own w' w.heap.size v (serR p m o n a) ∧ Below w.heap.size w w' := by
  obtain ⟨i0, hi0, hz0, hz1, hz2⟩ := info_parts infoPt
  have C := hidIt (fun W => impl_shapeOf p m o n a W)
  have D := hidIt (fun W => impl_secretsOf p m o n a W)
  have hlen := sec_length p m o n a
  have HA : Hid (∀ i, i < (secR p m o n a).length → secB (Iv.iat (secR p m o n a) i) = true) := hidIt (fun i hi => sec_all (by rw [Iv.iat_at hi]; exact List.getElem_mem hi))
  have HS : Hid (serR p m o n a = (secR p m o n a).map keyI) := hidIt rfl
  generalize serR p m o n a = R at HS ⊢
  generalize secR p m o n a = L at HA HS D hlen
  generalize shV p m o n a = s at C D
  have HB := hidIt (show Below w.heap.size w (((w.alloc (rbox p m o n a 38)).alloc (.cells #[] 48)).alloc (rbox p m o n a 38)) by go_grown)
  have HO : Hid (Pt.Own (((w.alloc (rbox p m o n a 38)).alloc (.cells #[] 48)).alloc (rbox p m o n a 38)) w.heap.size (.slice (some ⟨w.heap.size + 1, 0, none⟩) 0 0) []) := by
    have h := ((Pt.Own.new (w.alloc (rbox p m o n a 38))).alloc (rbox p m o n a 38)).mono (b' := w.heap.size) (by simp)
    exact hidIt (by simpa using h)
  generalize hn : L.length = k at *
  have HN := hidIt hn
  clear hn
  go_enter Tryz.func41, Tryz.ntmps41
  go_wp2_with (fail)
  refine (C.out _).mono ?_
  rintro e w1 ⟨rfl, rfl⟩
  go_wp2_with (fail)
  refine (D.out _).mono ?_
  rintro e w2 ⟨v2, rfl, hR, k2⟩
  replace hR := hR.mono (b' := w.heap.size) (by simp; omega)
  obtain ⟨b, cap, rfl, hcap, _⟩ := hR.form
  rw [HN.out] at hR hcap ⊢
  replace HB := hidIt (HB.out.trans (k2.mono HB.out.size))
  replace HO := hidIt (HO.out.kept k2)
  have HR := hidIt hR
  clear hR k2 C D
  go_wp2_with (fail)
  go_loopw [3, 13] (fun v y wx => ∃ i : Nat, y = .int .i64 i ∧ i ≤ k ∧ Pt.Own wx w.heap.size v (R.take i) ∧ Iv.Own wx w.heap.size (.slice b k cap) L ∧ Below w.heap.size w wx) (fun _ y _ => (k - intOf y).toNat)
  case atStart => exact ⟨0, rfl, by omega, by simpa using HO.out, HR.out, HB.out⟩
  case round =>
    obtain ⟨i, rfl, hi, hO, hR, hB⟩ := hrel
    replace HO := hidIt hO
    replace HR := hidIt hR
    replace HB := hidIt hB
    clear hO hR hB
    by_cases hin : i < k
    · have hin' : (i : Int) < (k : Int) := by omega
      obtain ⟨b', cap', eb, _, _, hRd, _⟩ := HR.out.form
      have eb1 := (Value.slice.inj eb).1
      subst eb1
      clear eb
      obtain ⟨b1, o1, rfl, c0⟩ := hRd.cell i (by rw [HN.out]; exact hin)
      clear hRd
      have CK := hidIt (fun W => impl_KeyOf_sec _ (HA.out i hin) W)
      have HT := hidIt (take_map L i (by rw [HN.out]; exact hin))
      generalize Iv.iat L i = x at c0 CK HT
      generalize keyI x = q at CK HT
      obtain ⟨qx, qy⟩ := q
      go_wp2_with (fail)
      refine (CK.out _).mono ?_
      rintro e w3 ⟨rfl, k3⟩
      have HB3 := hidIt ((HB.out.trans (k3.mono HB.out.size)).alloc (by have := HB.out.size; have := k3.size; omega) (.cells #[.int .i64 qx, .int .i64 qy] 48))
      have HR3 := hidIt ((HR.out.kept k3).alloc (.cells #[.int .i64 qx, .int .i64 qy] 48))
      have HO3 := hidIt ((HO.out.kept k3).alloc (.cells #[.int .i64 qx, .int .i64 qy] 48))
      clear k3 HB HR HO
      have hlen3 : (R.take i).length ≤ 3 := by rw [List.length_take]; omega
      go_wp2_with (first | (at_builtin; refine wpList_append_own _ rfl _ _ 46 rfl w.heap.size 48 i0 (.agg #[.int .i64 0, .int .i64 0]) 2 16 Tryz.underlying46 hi0 hz0 hz1 hz2 rfl (by decide) _ _ _ rfl (World.ownsRow.alloc HO3.out (.cells #[.int .i64 qx, .int .i64 qy] 48)) ⟨w3.heap.size + 1, 0, none⟩ 1 1 [.int .i64 qx, .int .i64 qy] rfl rfl ?c2 (Pt.lcells_one [(qx, qy)]) ?c3 ?c4 ?c5 ?_))
      case c2 =>
        have h := fresh_cells (w3.alloc (.cells #[.int .i64 qx, .int .i64 qy] 48)) qx qy 48
        simpa using h
      case c3 => unfold maxLen; omega
      case c4 => omega
      case c5 => have := HB3.out.size; simp at this; simp; omega
      intro v' w9 hown hgrow _
      have HO9 := hidIt (Pt.Own.more (L := R.take i) (x := (qx, qy)) (by rw [List.length_take]; exact hown))
      have kk := Pt.grown_below (Pt.Own.alloc HO3.out (.cells #[.int .i64 qx, .int .i64 qy] 48)) hgrow (B := w.heap.size) (Nat.le_refl _) (by have := HB3.out.size; simp at this; simp; omega)
      have HB9 := hidIt ((HB3.out.alloc (by have := HB3.out.size; simp at this; simp; omega) (.cells #[.int .i64 qx, .int .i64 qy] 48)).trans kk)
      have HR9 : Hid (Iv.Own w9 w.heap.size (.slice (some ⟨b1, o1, none⟩) k cap) L) := hidIt (World.ownsRow.kept (HR3.out.alloc (.cells #[.int .i64 qx, .int .i64 qy] 48)) hgrow (own_apart (HR3.out.alloc (.cells #[.int .i64 qx, .int .i64 qy] 48)) (Pt.Own.alloc HO3.out (.cells #[.int .i64 qx, .int .i64 qy] 48)) (by decide)))
      clear hown hgrow kk
      go_wp2_with (fail)
      refine ⟨⟨i + 1, by simp, by omega, ?_, HR9.out, HB9.out⟩, by simp [intOf]; omega⟩
      rw [HS.out, ← HT.out, ← HS.out]
      exact HO9.out
    · have hin' : ¬ (i : Int) < (k : Int) := by omega
      go_wp2_with (fail)
      go_ret
      refine ⟨_, rfl, ?_, HB.out⟩
      have h := HO.out
      rw [List.take_of_length_le (by rw [HS.out, List.length_map, HN.out]; omega)] at h
      exact h
end Go.Proofs.YtllajhieocploaaGreatDoor.Ro
namespace Go.Proofs.YtllajhieocploaaGreatDoor.Ro
open Go.ChangeShapes Go.WideShapes Go.ChangeAt Go.RowKit
open Cv Cu
open Go.Proofs.YtllajhieocploaaGreatDoor.Pt (Ln lat)
set_option linter.unusedVariables false
/-- An append onto a row of one's own, as one step of a region that draws its order. -/
theorem step_append_own {P : Program} {ops : Array Oper} {o : Oper} {a : Act} {w : World} {K : Act → World → Prop} {Q : Exit → Act → World → Prop} {E : Prop}
    (hg : o.guard = none) (s x : Operand) (t : TypeId) (hop : o.op = Op.call { callee := Callee.builtin Builtin.append, args := #[s, x], argTypes := #[t, t] })
    (base : Nat) (e : TypeId) (i : TypeInfo) (z : Value) (size bytes : Nat) (h1 : P.underlying t = some (.slice e)) (h2 : P.info? e = some i) (h3 : i.zero = some z) (h4 : i.size = size) (h5 : i.bytes = bytes) (h6 : z.cells.size = size) (h7 : 0 < size)
    (v : Value) (n : Nat) (xs : List Value) (hs : a.eval s = v) (hown : w.ownsRow base e size v n xs)
    (ad : Addr) (m c : Nat) (news : List Value) (hx : a.eval x = .slice (some ad) m c) (hn : news.length = m * size) (hc : ∀ j u, news[j]? = some u → w.cell? (ad.add j) = some u) (h1c : ∀ u ∈ news, u.oneCell' = true)
    (b1 : n + m ≤ maxLen) (b2 : (n + m) * bytes ≤ 140737488355328) (hb : base ≤ w.heap.size)
    (hK : ∀ v' w', w'.ownsRow base e size v' (n + m) (xs ++ news) → w.grownBy w' v.ownBlock → K (a.put o.dst v') w') :
    if Region.wanted o (yielded ops a.tmps) = true then Oper.wp P o a w K Q else E := by
  have hw : Region.wanted o (yielded ops a.tmps) = true := by simp [Region.wanted, hg]
  rw [if_pos hw]
  obtain ⟨v', w', hrun, r1, r2, _⟩ := run_append_own (P := P) w base t o.type e i z size bytes h1 h2 h3 h4 h5 h6 h7 v n xs hown ad m c news hn hc h1c b1 b2 hb
  unfold Oper.wp
  simp [execOp, hop, resolve, invoke, builtin, hs, hx, hrun, Result.andThen]
  exact hK v' w' r1 r2
theorem own_two (w : World) (x y p q : Int) : Pt.Own (w.alloc (.cells #[.int .i64 x, .int .i64 y, .int .i64 p, .int .i64 q] 48)) w.heap.size (.slice (some ⟨w.heap.size, 0, none⟩) 2 2) [(x, y), (p, q)] :=
  ⟨by simp [Pt.lcells], .inr ⟨w.heap.size, 2, _, rfl, Nat.le_refl _, heap_alloc_new w _, Nat.le_refl _, by decide, rfl, rfl⟩⟩
theorem box_beside {w w' : World} {b c : Nat} {cs : Array Value} (h : Bo.Box w b cs) (k : Only c w w') (hne : ¬ b = c) : Bo.Box w' b cs :=
  ⟨Nat.lt_of_lt_of_le h.lt k.size, fun i => by rw [k.cell (p := ⟨b, i, none⟩) h.lt hne]; exact h.at' i, fun i => by rw [k.frozen (p := ⟨b, i, none⟩) h.lt hne]; exact h.fr i⟩
theorem only_of_grown {w w' : World} {c : Nat} (g : w.grownBy w' (some c)) : Only c w w' := ⟨g.os, g.tape, g.output, g.size, fun k hk hne => g.block k hk (fun e => hne (Option.some.inj e))⟩
set_option maxRecDepth 100000 in
set_option maxHeartbeats 8000000 in
theorem spec_l10Served (p m o n a : Int) (w : World) (hr : rollOk p m o n a = true) : Calls Tryz.prog 74 #[rv p m o n a] w fun e w' => ∃ v, e = .returned v ∧ Pt.Own w' w.heap.size v (serR p m o n a) ∧ Below w.heap.size w w' := by
  obtain ⟨i0, hi0, hz0, hz1, hz2⟩ := info_parts infoPt
  obtain ⟨hm, ho, hn1, hn2⟩ := roll_secs hr
  have e1 : p = 1 → serR p m o n a = [keyI m, keyI o] := fun h => by rw [serR, secR, if_neg (by simp [hr]), if_pos h]; rfl
  have e2 : p ≠ 1 → serR p m o n a = [keyI m, keyI o] ++ [keyI n] := fun h => by rw [serR, secR, if_neg (by simp [hr]), if_neg h]; rfl
  have CM := hidIt (fun W => spec_times m hm W)
  have CO := hidIt (fun W => spec_times o ho W)
  have CN := hidIt (fun (h : p ≠ 1) W => spec_times n (hn2 h) W)
  have hpos : p ≠ 1 → 0 < n := fun h => by have := hn2 h; simp [secB, inB] at this; omega
  generalize serR p m o n a = R at e1 e2 ⊢
  generalize keyI m = km at CM e1 e2
  generalize keyI o = ko at CO e1 e2
  generalize keyI n = kn at CN e2
  obtain ⟨mx, my⟩ := km
  obtain ⟨ox, oy⟩ := ko
  obtain ⟨nx, ny⟩ := kn
  have CB := hidIt (fun W => spec_Base W)
  have BX := hidIt (Bo.Box.new w #[.int .i64 p, .int .i64 m, .int .i64 o, .int .i64 n, .int .i64 a] 38)
  have HB := hidIt ((Below.refl w.heap.size w).alloc (Nat.le_refl _) (rbox p m o n a 38))
  have E1 := hidIt e1
  have E2 := hidIt e2
  have HP := hidIt hpos
  have HN1 := hidIt hn1
  clear e1 e2 hpos hn1 hn2 hm ho hr
  go_enter Tryz.func74, Tryz.ntmps74
  go_wp2_with (fail)
  generalize w.alloc (.cells #[.int .i64 p, .int .i64 m, .int .i64 o, .int .i64 n, .int .i64 a] 38) = wz at BX HB ⊢
  have hgB : w.heap.size ≤ w.heap.size := Nat.le_refl _
  generalize hgg : w.heap.size = g at BX ⊢
  have HG := hidIt hgg
  clear hgg
  have SZ : wz.drew.cell? ⟨g, 1, none⟩ = some (.int .i64 m) ∧ wz.drew.cell? ⟨g, 2, none⟩ = some (.int .i64 o) := ⟨BX.out.drew.c 1 rfl, BX.out.drew.c 2 rfl⟩
  go_region_held3 (fun w' => w'.cell? ⟨g, 1, none⟩ = some (.int .i64 m) ∧ w'.cell? ⟨g, 2, none⟩ = some (.int .i64 o))
    (first | (with_reducible assumption) | fail)
    (first
    | (have h0 := BXB.out; clear h0; go_at_call 107; refine (CB.out _).mono ?_; rintro e wC ⟨rfl, kC⟩; have BXC := hidIt (BXB.out.kept kC); have HBC := hidIt (HBB.out.trans (kC.mono HBB.out.size)); clear kC; have SC : wC.cell? ⟨g, 1, none⟩ = some (.int .i64 m) ∧ wC.cell? ⟨g, 2, none⟩ = some (.int .i64 o) := ⟨BXC.out.c 1 rfl, BXC.out.c 2 rfl⟩)
    | (go_at_call 107; refine (CB.out _).mono ?_; rintro e wA ⟨rfl, kA⟩; have BXA := hidIt (BX.out.drew.kept kA); have HBA := hidIt (HB.out.drew.trans (kA.mono HB.out.size)); clear kA; have SA : wA.cell? ⟨g, 1, none⟩ = some (.int .i64 m) ∧ wA.cell? ⟨g, 2, none⟩ = some (.int .i64 o) := ⟨BXA.out.c 1 rfl, BXA.out.c 2 rfl⟩)
    | (have h0 := BXC.out; clear h0; go_at_call 106; refine (CO.out _).mono ?_; rintro e wD ⟨rfl, kD⟩; have BXD := hidIt (BXC.out.kept kD); have HBD := hidIt (HBC.out.trans (kD.mono HBC.out.size)); clear kD; have SD : wD.cell? ⟨g, 1, none⟩ = some (.int .i64 m) ∧ wD.cell? ⟨g, 2, none⟩ = some (.int .i64 o) := ⟨BXD.out.c 1 rfl, BXD.out.c 2 rfl⟩; have SE : (wD.alloc (.cells #[.int .i64 mx, .int .i64 my, .int .i64 ox, .int .i64 oy] 48)).cell? ⟨g, 1, none⟩ = some (.int .i64 m) ∧ (wD.alloc (.cells #[.int .i64 mx, .int .i64 my, .int .i64 ox, .int .i64 oy] 48)).cell? ⟨g, 2, none⟩ = some (.int .i64 o) := ⟨(BXD.out.alloc _).c 1 rfl, (BXD.out.alloc _).c 2 rfl⟩)
    | (go_at_call 106; refine (CM.out _).mono ?_; rintro e wB ⟨rfl, kB⟩; have BXB := hidIt (BXA.out.kept kB); have HBB := hidIt (HBA.out.trans (kB.mono HBA.out.size)); clear kB; have SB : wB.cell? ⟨g, 1, none⟩ = some (.int .i64 m) ∧ wB.cell? ⟨g, 2, none⟩ = some (.int .i64 o) := ⟨BXB.out.c 1 rfl, BXB.out.c 2 rfl⟩))
  have HO := hidIt ((own_two wD mx my ox oy).mono (b' := w.heap.size) HBD.out.size)
  have HBE := hidIt (HBD.out.alloc HBD.out.size (.cells #[.int .i64 mx, .int .i64 my, .int .i64 ox, .int .i64 oy] 48))
  have BXE := hidIt (BXD.out.alloc (.cells #[.int .i64 mx, .int .i64 my, .int .i64 ox, .int .i64 oy] 48))
  have hsz : w.heap.size ≤ wD.heap.size := HBD.out.size
  have hgd : ¬ g = wD.heap.size := by have := BXD.out.lt; omega
  clear SZ SA SB SC SD SE BXA BXB BXC BXD HBA HBB HBC HBD BX HB
  have hslt : wD.heap.size < wD.heap.size + 1 := by omega
  generalize wD.alloc (.cells #[.int .i64 mx, .int .i64 my, .int .i64 ox, .int .i64 oy] 48) = wy at HO HBE BXE ⊢
  generalize wD.heap.size = gd at *
  have d3 := BXE.out.c 3 (v := .int .i64 n) rfl
  by_cases h1 : p = 1
  · have hn0 := HN1.out h1
    have hn' : ¬ (0 : Int) < n := by omega
    have er := hidIt (E1.out h1)
    clear h1 hn0
    go_wp2_with (fail)
    go_ret
    exact ⟨_, rfl, by rw [er.out]; exact HO.out, HBE.out⟩
  · have hn' := HP.out h1
    have er := hidIt (E2.out h1)
    have CN1 := hidIt (CN.out h1)
    clear h1
    go_wp2_with (fail)
    have SZ : wy.drew.cell? ⟨g, 3, none⟩ = some (.int .i64 n) := BXE.out.drew.c 3 rfl
    clear d3
    go_region_held3 (fun w' => w'.cell? ⟨g, 3, none⟩ = some (.int .i64 n))
      (first | (with_reducible assumption) | fail)
      (first
      | (go_at_call 107; refine (CB.out _).mono ?_; rintro e wA ⟨rfl, kA⟩; have BXA := hidIt (BXE.out.drew.kept kA); have HBA := hidIt (HBE.out.drew.trans (kA.mono HBE.out.size)); have HOA := hidIt (Pt.Own.kept (w := wy.drew) HO.out kA); clear kA; have SA : wA.cell? ⟨g, 3, none⟩ = some (.int .i64 n) := BXA.out.c 3 rfl)
      | (go_at_call 106; refine (CN1.out _).mono ?_; rintro e wB ⟨rfl, kB⟩; have BXB := hidIt (BXA.out.kept kB); have HBB := hidIt (HBA.out.trans (kB.mono HBA.out.size)); have HOB := hidIt ((HOA.out.kept kB).alloc (.cells #[.int .i64 nx, .int .i64 ny] 48)); have hsB := hidIt HBB.out.size; clear kB; have SB : wB.cell? ⟨g, 3, none⟩ = some (.int .i64 n) := BXB.out.c 3 rfl; have SC : (wB.alloc (.cells #[.int .i64 nx, .int .i64 ny] 48)).cell? ⟨g, 3, none⟩ = some (.int .i64 n) := (BXB.out.alloc _).c 3 rfl)
      | (refine step_append_own (by rfl) (.tmp 16) (.tmp 21) 46 (by rfl) w.heap.size 48 i0 (.agg #[.int .i64 0, .int .i64 0]) 2 16 Tryz.underlying46 hi0 hz0 hz1 hz2 rfl (by decide) (.slice (some ⟨gd, 0, none⟩) 2 2) 2 (Pt.lcells [(mx, my), (ox, oy)]) (by simp [Act.eval]) HOB.out ⟨wB.heap.size, 0, none⟩ 1 1 [.int .i64 nx, .int .i64 ny] (by simp [Act.eval]) rfl (fresh_cells wB nx ny 48) (Pt.lcells_one [(nx, ny)]) (by decide) (by decide) (by have := hsB.out; simp; omega) ?_; intro v5 w5 ho5 hg5; have BX5 := hidIt (box_beside (BXB.out.alloc (.cells #[.int .i64 nx, .int .i64 ny] 48)) (only_of_grown hg5) hgd); have S5 : w5.cell? ⟨g, 3, none⟩ = some (.int .i64 n) := BX5.out.c 3 rfl))
    have HO5 := hidIt (Pt.Own.more (L := [(mx, my), (ox, oy)]) (x := (nx, ny)) ho5)
    have kk := Pt.grown_below HOB.out hg5 (B := w.heap.size) (Nat.le_refl _) (by have := hsB.out; simp; omega)
    have HB5 := hidIt ((HBB.out.alloc hsB.out (.cells #[.int .i64 nx, .int .i64 ny] 48)).trans kk)
    clear ho5 hg5 kk S5 SA SB SC SZ HOA HOB BXA BXB HBA HBB
    go_wp2_with (fail)
    go_ret
    exact ⟨_, rfl, by rw [er.out]; exact HO5.out, HB5.out⟩
end Go.Proofs.YtllajhieocploaaGreatDoor.Ro
namespace Go.Proofs.YtllajhieocploaaGreatDoor.Vv
open Go.ChangeShapes Go.WideShapes Go.ChangeAt Go.RowKit
set_option linter.unusedVariables false
theorem hidIt {p : Prop} (h : p) : Hid p := h
/-- A slice: where it begins, how long it is, how much room it has. -/
abbrev Sl := Option Addr × Nat × Nat
abbrev sv (x : Sl) : Value := .slice x.1 x.2.1 x.2.2
end Go.Proofs.YtllajhieocploaaGreatDoor.Vv
namespace Go.Proofs.YtllajhieocploaaGreatDoor.Rp
open Go.ChangeShapes Go.WideShapes Go.ChangeAt Go.RowKit
open Go.Proofs.YtllajhieocploaaGreatDoor.Vv (Sl sv hidIt)
open Go.Proofs.YtllajhieocploaaGreatDoor.Rc (BelowBy BelowBy.one wp_region_below calls_below calls_same)
set_option linter.unusedVariables false
abbrev Rep := List En.Rw × List Mm.Rw
/-- A slice that reads as a list of Entries. -/
structure RdE (w : World) (s : Sl) (L : List En.Rw) : Prop where
  len : s.2.1 = L.length
  rd : En.Rd w s.1 L
  na : s.1 = none → s.2.2 = 0
  le : L.length ≤ s.2.2
  cap : s.2.2 ≤ 9223372036854775807
structure RdM (w : World) (s : Sl) (L : List Mm.Rw) : Prop where
  len : s.2.1 = L.length
  rd : Mm.Rd w s.1 L
  na : s.1 = none → s.2.2 = 0
  le : L.length ≤ s.2.2
  cap : s.2.2 ≤ 9223372036854775807
theorem RdE.kept {w w' : World} {s : Sl} {L : List En.Rw} (h : RdE w s L) (k : Below w.heap.size w w') : RdE w' s L := ⟨h.len, h.rd.kept k, h.na, h.le, h.cap⟩
theorem RdM.kept {w w' : World} {s : Sl} {L : List Mm.Rw} (h : RdM w s L) (k : Below w.heap.size w w') : RdM w' s L := ⟨h.len, h.rd.kept k, h.na, h.le, h.cap⟩
theorem rdE_of {w : World} {base : Nat} {s : Sl} {L : List En.Rw} (h : En.Own w base (sv s) L) : RdE w s L := by
  obtain ⟨a, c, e, h1, h2, r, h4, _⟩ := h.form
  obtain ⟨s0, s1, s2⟩ := s
  simp only [sv, Value.slice.injEq] at e
  obtain ⟨rfl, rfl, rfl⟩ := e
  exact ⟨rfl, r, h4, h1, h2⟩
theorem rdM_of {w : World} {base : Nat} {s : Sl} {L : List Mm.Rw} (h : Mm.Own w base (sv s) L) : RdM w s L := by
  obtain ⟨a, c, e, h1, h2, r, h4, _⟩ := h.form
  obtain ⟨s0, s1, s2⟩ := s
  simp only [sv, Value.slice.injEq] at e
  obtain ⟨rfl, rfl, rfl⟩ := e
  exact ⟨rfl, r, h4, h1, h2⟩
theorem slE {w : World} {base : Nat} {v : Value} {L : List En.Rw} (h : En.Own w base v L) : ∃ s : Sl, v = sv s := by
  obtain ⟨a, c, e, _⟩ := h.form
  exact ⟨(a, L.length, c), e⟩
theorem slM {w : World} {base : Nat} {v : Value} {L : List Mm.Rw} (h : Mm.Own w base v L) : ∃ s : Sl, v = sv s := by
  obtain ⟨a, c, e, _⟩ := h.form
  exact ⟨(a, L.length, c), e⟩
theorem on {W a b : World} (h : Below W.heap.size W a) (k : Below a.heap.size a b) : Below W.heap.size W b := h.trans (k.mono h.size)
/-- How many Entries and Members a Replica has. -/
def bulk1 (r : Rep) : Nat := r.1.length + r.2.length
set_option maxRecDepth 100000 in
set_option maxHeartbeats 4000000 in
theorem sz_any (s t : Sl) (r : Rep) (l : Int) (w : World) (hE : RdE w s r.1) (hM : RdM w t r.2) (hs : ∀ j, j < r.1.length → (En.rat r.1 j).1.size ≤ 9223372036854775807 ∧ (En.rat r.1 j).2.1.size ≤ 9223372036854775807) (h0 : 0 ≤ l) (h1 : l ≤ 1048576) :
    Calls Tryz.prog 16 #[.agg #[sv s, sv t], .int .i64 l] w fun e w' => ∃ q : Int, e = .returned (.int .i64 q) ∧ En.Le2 q l (bulk1 r) ∧ Below w.heap.size w w' := by
  obtain ⟨s0, s1, s2⟩ := s
  obtain ⟨t0, t1, t2⟩ := t
  obtain ⟨e1, rE, nE, lE, cE⟩ := hE
  obtain ⟨e2, rM, nM, lM, cM⟩ := hM
  simp only at e1 rE nE lE cE e2 rM nM lM cM
  subst e1 e2
  have C1 := hidIt (fun W (k : En.Rd W s0 r.1) => En.szS_any s0 s2 r.1 l W k (by omega) hs h0 h1)
  have C2 := hidIt (fun l' W (k : Mm.Rd W t0 r.2) => Mm.szS_any t0 t2 r.2 l' W k (by omega))
  have HE := hidIt rE
  have HM := hidIt rM
  clear rE rM hs
  unfold bulk1
  generalize r.1.length = m1 at *
  generalize r.2.length = m2 at *
  have BX := hidIt (Bo.Box.new w #[.slice s0 m1 s2, .slice t0 m2 t2] 25)
  have HB := hidIt ((Below.refl w.heap.size w).alloc (Nat.le_refl _) (.cells #[.slice s0 m1 s2, .slice t0 m2 t2] 25))
  go_enter Tryz.func16, Tryz.ntmps16
  go_wp2_with (fail)
  refine (C1.out _ (HE.out.kept HB.out)).mono ?_
  rintro e w1 ⟨q, rfl, hq, _, k1⟩
  have HQ := hidIt hq
  have HB1 := hidIt (on HB.out k1)
  have b1 := (BX.out.kept k1).c 1 rfl
  have q1 := hq.le
  clear k1 hq
  by_cases hneg : q < 0
  · go_wp2_with (fail)
    go_ret
    first | exact ⟨-1, rfl, ⟨by omega, fun h => by omega⟩, HB1.out⟩ | exact ⟨⟨by omega, fun h => by omega⟩, HB1.out⟩
  · go_wp2_with (fail)
    refine (C2.out q _ (HM.out.kept HB1.out) (by omega) (by omega)).mono ?_
    rintro e w2 ⟨p, rfl, hp, _, k2⟩
    have HP := hidIt hp
    have HB2 := hidIt (on HB1.out k2)
    have p1 := hp.le
    clear k2 hp
    by_cases hneg2 : p < 0
    · go_wp2_with (fail)
      go_ret
      first | exact ⟨-1, rfl, ⟨by omega, fun h => by omega⟩, HB2.out⟩ | exact ⟨⟨by omega, fun h => by omega⟩, HB2.out⟩
    · go_wp2_with (fail)
      go_ret
      have h1 := HQ.out.sum (by omega)
      have h2 := HP.out.sum (by omega)
      first | exact ⟨p, rfl, ⟨by omega, fun h => by omega⟩, HB2.out⟩ | exact ⟨⟨by omega, fun h => by omega⟩, HB2.out⟩
/-- A Replica of the call's own comes back. -/
def TwoP (w : World) (r : Rep) (e : Ending) (w' : World) : Prop := ∃ s t : Sl, e = .returned (.agg #[sv s, sv t]) ∧ En.Own w' w.heap.size (sv s) r.1 ∧ Mm.Own w' w.heap.size (sv t) r.2 ∧ Below w.heap.size w w'
theorem TwoP.of {w w' : World} {r : Rep} {e : Ending} {s t : Sl} (h : e = .returned (.agg #[sv s, sv t])) (h1 : En.Own w' w.heap.size (sv s) r.1) (h2 : Mm.Own w' w.heap.size (sv t) r.2) (h3 : Below w.heap.size w w') : TwoP w r e w' := ⟨s, t, h, h1, h2, h3⟩
theorem TwoP.out {w w' : World} {r : Rep} {e : Ending} (h : TwoP w r e w') : ∃ s t : Sl, e = .returned (.agg #[sv s, sv t]) ∧ En.Own w' w.heap.size (sv s) r.1 ∧ Mm.Own w' w.heap.size (sv t) r.2 ∧ Below w.heap.size w w' := h
set_option maxRecDepth 100000 in
set_option maxHeartbeats 8000000 in
theorem to_any (s t : Sl) (r : Rep) (w : World) (hE : RdE w s r.1) (hM : RdM w t r.2) (h1 : r.1.length ≤ 1048576) (h2 : r.2.length ≤ 1048576) :
    Calls Tryz.prog 25 #[.agg #[sv s, sv t]] w fun e w' => TwoP w r e w' := by
  obtain ⟨s0, s1, s2⟩ := s
  obtain ⟨t0, t1, t2⟩ := t
  obtain ⟨e1, rE, nE, lE, cE⟩ := hE
  obtain ⟨e2, rM, nM, lM, cM⟩ := hM
  simp only at e1 rE nE lE cE e2 rM nM lM cM
  subst e1 e2
  have C1 := hidIt (fun W (k : En.Rd W s0 r.1) => En.toS_any s0 s2 r.1 W k h1)
  have C2 := hidIt (fun W (k : Mm.Rd W t0 r.2) => Mm.toS_any t0 t2 r.2 W k h2)
  have HE := hidIt rE
  have HM := hidIt rM
  clear rE rM
  generalize r.1.length = m1 at *
  generalize r.2.length = m2 at *
  have BA : Hid (Bo.Box (((w.alloc (.cells #[.slice s0 m1 s2, .slice t0 m2 t2] 25)).alloc (.cells #[.slice none 0 0, .slice none 0 0] 37)).alloc (.cells #[.slice none 0 0, .slice none 0 0] 37)) w.heap.size #[.slice s0 m1 s2, .slice t0 m2 t2]) := hidIt (((Bo.Box.new w _ _).alloc _).alloc _)
  have BB : Hid (Bo.Box (((w.alloc (.cells #[.slice s0 m1 s2, .slice t0 m2 t2] 25)).alloc (.cells #[.slice none 0 0, .slice none 0 0] 37)).alloc (.cells #[.slice none 0 0, .slice none 0 0] 37)) (w.heap.size + 1) #[.slice none 0 0, .slice none 0 0]) := hidIt ((Bo.Box.newAt (by simp)).alloc _)
  have BC : Hid (Bo.Box (((w.alloc (.cells #[.slice s0 m1 s2, .slice t0 m2 t2] 25)).alloc (.cells #[.slice none 0 0, .slice none 0 0] 37)).alloc (.cells #[.slice none 0 0, .slice none 0 0] 37)) (w.heap.size + 1 + 1) #[.slice none 0 0, .slice none 0 0]) := hidIt (Bo.Box.newAt (by simp))
  have HB : Hid (Below w.heap.size w (((w.alloc (.cells #[.slice s0 m1 s2, .slice t0 m2 t2] 25)).alloc (.cells #[.slice none 0 0, .slice none 0 0] 37)).alloc (.cells #[.slice none 0 0, .slice none 0 0] 37))) := hidIt ((((Below.refl w.heap.size w).alloc (Nat.le_refl _) _).alloc (by simp) _).alloc (by simp; omega) _)
  go_enter Tryz.func25, Tryz.ntmps25
  go_wp2_with (fail)
  refine (C1.out _ (HE.out.kept HB.out)).mono ?_
  rintro e w1 ⟨v1, rfl, hO1, k⟩
  obtain ⟨⟨x0, x1, x2⟩, rfl⟩ := slE hO1
  have ne1 : w.heap.size ≠ w.heap.size + 1 + 1 := by omega
  have ne2 : w.heap.size + 1 ≠ w.heap.size + 1 + 1 := by omega
  have ne3 : w.heap.size + 1 + 1 ≠ w.heap.size := by omega
  have ne4 : w.heap.size + 1 + 1 ≠ w.heap.size + 1 := by omega
  have hle : w.heap.size ≤ w.heap.size + 1 + 1 := by omega
  have hle1 : w.heap.size ≤ w.heap.size + 1 := by omega
  replace BA := hidIt (BA.out.kept k)
  replace BB := hidIt (BB.out.kept k)
  replace BC := hidIt (BC.out.kept k)
  replace HB := hidIt (on HB.out k)
  have HO1 : Hid (En.Own w1 (w.heap.size + 1 + 1 + 1) (.slice x0 x1 x2) r.1) := hidIt (hO1.mono (by simp))
  have hn3 : w.heap.size ≤ w.heap.size + 1 + 1 + 1 := by omega
  have lt1 : Hid (∀ q, (Value.slice x0 x1 x2).ownBlock = some q → w.heap.size + 1 + 1 < q ∧ w.heap.size + 1 < q) := hidIt (fun q hq => by have := (World.ownsRow.lt HO1.out q hq).1; omega)
  clear hO1 k HE C1
  generalize w.heap.size + 1 + 1 + 1 = n3 at *
  generalize w.heap.size + 1 + 1 = n2 at *
  generalize w.heap.size + 1 = n1 at *
  have a1 := BA.out.c 1 (v := .slice t0 m2 t2) rfl
  have c0 := BC.out.c 0 (v := .slice none 0 0) rfl
  have f0 := BC.out.fr 0
  have BC2 := hidIt (BC.out.put (c' := #[.slice x0 x1 x2, .slice none 0 0]) 0 (.slice x0 x1 x2) (by simp) rfl)
  have BB2 := hidIt (BB.out.other (v := .slice x0 x1 x2) (i := 0) ne4)
  have HB2 := hidIt (HB.out.setCell (p := ⟨n2, 0, none⟩) hle (.slice x0 x1 x2))
  have HO2 := hidIt (En.Own.only (c := n2) HO1.out ((Only.refl _ _).setCell 0 (.slice x0 x1 x2)) (.inr fun q hq e => by have := (lt1.out q hq).1; omega))
  clear BC BB HB HO1
  go_wp2_with (fail)
  generalize w1.setCell ⟨n2, 0, none⟩ (.slice x0 x1 x2) = wa at BC2 BB2 HB2 HO2 ⊢
  refine (C2.out _ (HM.out.kept HB2.out)).mono ?_
  rintro e w3 ⟨v3, rfl, hO3, k⟩
  obtain ⟨⟨y0, y1, y2⟩, rfl⟩ := slM hO3
  have HB3 := hidIt (on HB2.out k)
  have BC3 := hidIt (BC2.out.kept k)
  have BB3 := hidIt (BB2.out.kept k)
  have HO3 := hidIt (HO2.out.kept k)
  have hn2 : n2 < wa.heap.size := BC2.out.lt
  have hn1 : n1 < wa.heap.size := BB2.out.lt
  have lt3 : Hid (∀ q, (Value.slice y0 y1 y2).ownBlock = some q → n2 < q ∧ n1 < q) := hidIt (fun q hq => by have := (World.ownsRow.lt hO3 q hq).1; omega)
  have HM3 : Hid (Mm.Own w3 w.heap.size (.slice y0 y1 y2) r.2) := hidIt (hO3.mono HB2.out.size)
  clear hO3 k HM C2 BC2 BB2 HO2 a1 c0 f0 HB2 BA
  have c0 := BC3.out.c 0 (v := .slice x0 x1 x2) rfl
  have c1 := BC3.out.c 1 (v := .slice none 0 0) rfl
  have f1 := BC3.out.fr 1
  have b0 := BB3.out.c 0 (v := .slice none 0 0) rfl
  have b1 := BB3.out.c 1 (v := .slice none 0 0) rfl
  have g0 := BB3.out.fr 0
  have g1 := BB3.out.fr 1
  have Y1 := hidIt ((Only.refl n2 w3).setCell 1 (.slice y0 y1 y2))
  have HO4 := hidIt (HO3.out.only Y1.out (.inr fun q hq e => by have := (lt1.out q hq).1; omega))
  have HM4 := hidIt (HM3.out.only Y1.out (.inr fun q hq e => by have := (lt3.out q hq).1; omega))
  have Y2 := hidIt (((Only.refl n1 (w3.setCell ⟨n2, 1, none⟩ (.slice y0 y1 y2))).setCell 0 (.slice x0 x1 x2)).setCell 1 (.slice y0 y1 y2))
  have HO5 := hidIt (HO4.out.only Y2.out (.inr fun q hq e => by have := (lt1.out q hq).2; omega))
  have HM5 := hidIt (HM4.out.only Y2.out (.inr fun q hq e => by have := (lt3.out q hq).2; omega))
  have HB4 := hidIt (((HB3.out.setCell (p := ⟨n2, 1, none⟩) hle (.slice y0 y1 y2)).setCell (p := ⟨n1, 0, none⟩) hle1 (.slice x0 x1 x2)).setCell (p := ⟨n1, 1, none⟩) hle1 (.slice y0 y1 y2))
  have RB := hidIt (((BB3.out.other (v := .slice y0 y1 y2) (i := 1) ne4).put (c' := #[.slice x0 x1 x2, .slice none 0 0]) 0 (.slice x0 x1 x2) (by simp) rfl).put (c' := #[.slice x0 x1 x2, .slice y0 y1 y2]) 1 (.slice y0 y1 y2) (by simp) rfl)
  clear HO3 HM3 HO4 HM4 Y1 Y2 HB3 BC3 BB3
  go_wp2_with (fail)
  generalize ((w3.setCell ⟨n2, 1, none⟩ (.slice y0 y1 y2)).setCell ⟨n1, 0, none⟩ (.slice x0 x1 x2)).setCell ⟨n1, 1, none⟩ (.slice y0 y1 y2) = wz at HO5 HM5 HB4 RB ⊢
  have q0 := RB.out.c 0 (v := .slice x0 x1 x2) rfl
  have q1 := RB.out.c 1 (v := .slice y0 y1 y2) rfl
  clear c0 c1 b0 b1 f1 g0 g1
  refine bodyPost_end (v := .agg #[.slice x0 x1 x2, .slice y0 y1 y2]) (by simp [results, Tryz.results25, go_sem, q0, q1]) rfl ?_
  exact TwoP.of (s := (x0, x1, x2)) (t := (y0, y1, y2)) rfl (HO5.out.mono hn3) HM5.out HB4.out
set_option maxRecDepth 100000 in
set_option maxHeartbeats 8000000 in
theorem eq_same (s t s' t' : Sl) (r : Rep) (w : World) (hE : RdE w s r.1) (hM : RdM w t r.2) (hE' : RdE w s' r.1) (hM' : RdM w t' r.2) :
    Calls Tryz.prog 34 #[.agg #[sv s, sv t], .agg #[sv s', sv t']] w fun e w' => e = .returned (.bool true) ∧ Below w.heap.size w w' := by
  obtain ⟨s0, s1, s2⟩ := s
  obtain ⟨t0, t1, t2⟩ := t
  obtain ⟨p0, p1, p2⟩ := s'
  obtain ⟨q0, q1, q2⟩ := t'
  obtain ⟨e1, rE, _, _, cE⟩ := hE
  obtain ⟨e2, rM, _, _, cM⟩ := hM
  obtain ⟨e3, rE', _, _, _⟩ := hE'
  obtain ⟨e4, rM', _, _, _⟩ := hM'
  simp only at e1 rE cE e2 rM cM e3 rE' e4 rM'
  have C1 := hidIt (fun W (k : En.Rd W s0 r.1) (k' : En.Rd W p0 r.1) => En.eqS_same s0 p0 s2 p2 r.1 W k k' (by omega))
  have C2 := hidIt (fun W (k : Mm.Rd W t0 r.2) (k' : Mm.Rd W q0 r.2) => Mm.eqS_same t0 q0 t2 q2 r.2 W k k' (by omega))
  rw [← e3] at e1
  rw [← e4] at e2
  subst e1 e2
  rw [← e3] at C1
  rw [← e4] at C2
  have H1 := hidIt rE
  have H2 := hidIt rM
  have H3 := hidIt rE'
  have H4 := hidIt rM'
  clear rE rM rE' rM' e3 e4 cE cM
  have BA := hidIt ((Bo.Box.new w #[.slice s0 s1 s2, .slice t0 t1 t2] 37).alloc (.cells #[.slice p0 s1 p2, .slice q0 t1 q2] 37))
  have BB : Hid (Bo.Box ((w.alloc (.cells #[.slice s0 s1 s2, .slice t0 t1 t2] 37)).alloc (.cells #[.slice p0 s1 p2, .slice q0 t1 q2] 37)) (w.heap.size + 1) #[.slice p0 s1 p2, .slice q0 t1 q2]) := hidIt (Bo.Box.newAt (by simp))
  have HB := hidIt (((Below.refl w.heap.size w).alloc (Nat.le_refl _) (.cells #[.slice s0 s1 s2, .slice t0 t1 t2] 37)).alloc (by simp) (.cells #[.slice p0 s1 p2, .slice q0 t1 q2] 37))
  go_enter Tryz.func34, Tryz.ntmps34
  go_wp2_with (fail)
  refine (C1.out _ (H1.out.kept HB.out) (H3.out.kept HB.out)).mono ?_
  rintro e w1 ⟨rfl, k1⟩
  have a1 := (BA.out.kept k1).c 1 (v := .slice t0 t1 t2) rfl
  have b1 := (BB.out.kept k1).c 1 (v := .slice q0 t1 q2) rfl
  have HB1 := hidIt (on HB.out k1)
  clear k1 BA BB HB
  go_wp2_with (fail)
  refine (C2.out _ (H2.out.kept HB1.out) (H4.out.kept HB1.out)).mono ?_
  rintro e w2 ⟨rfl, k2⟩
  have HB2 := hidIt (on HB1.out k2)
  clear k2
  go_wp2_with (fail)
  go_ret
  exact ⟨rfl, HB2.out⟩
end Go.Proofs.YtllajhieocploaaGreatDoor.Rp
