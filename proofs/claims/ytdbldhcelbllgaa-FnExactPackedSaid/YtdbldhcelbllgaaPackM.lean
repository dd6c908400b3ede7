/-
  The packer: a row of bytes and a map of places behind one pointer; what its methods do to it, and that they touch nothing else.
-/
import Derived.Test.YtdbldhcelbllgaaPackR
import Derived.Test.YtdbldhcelbllgaaNameR
import Derived.Test.YtdbldhcelbllgaaNameI
import Derived.Test.YtdbldhcelbllgaaNameB
import Derived.Maps.OwnSet
import Derived.Maps.OwnOps
import Derived.Lib.AppendStr
import Derived.Lib.Builder
namespace Go.Proofs.Ytdbldhcelbllgaa.Nm
open Go.ChangeShapes Go.WideShapes Go.ChangeAt Go.RowKit
open Go.Maps (Keyed string_keyed)
theorem keyLaw : Keyed Try.prog 9 := string_keyed Try.underlying9
theorem zeroInt (w : World) : (zeroValue 3).run Try.prog w = .ok (.int .i64 0) w := by kernel_rfl
theorem bcells_str (s : ByteArray) : Go.Lib.strCells s = bcells (bs s) := rfl
theorem find_more (R : List (Bytes × Nat)) (r q : Bytes) (p : Nat) : find (R ++ [(r, p)]) q = match find R q with | some x => some x | none => if r = q then some p else none := by
  induction R with
  | nil => simp [find]
  | cons x t ih =>
    obtain ⟨y, z⟩ := x
    rw [List.cons_append]
    unfold find
    split
    · rfl
    · exact ih
/-- A map as read holds these places: of each rest the first. -/
structure Pl (D : DataW Unit) (R : List (Bytes × Nat)) : Prop where
  isMap : Maps.IsMap D
  no : ∀ r, find R r = none → Maps.has D (.string r) = false
  yes : ∀ r p, find R r = some p → Maps.has D (.string r) = true ∧ D.atKey (.string r) (.lit (.int .i64 0)) = .lit (.int .i64 (p : Int)) ∧ p < 16384
theorem Pl.none : Pl (.map []) [] := ⟨Maps.isMap_empty, fun _ _ => rfl, fun _ _ h => by cases h⟩
theorem Pl.put {D : DataW Unit} {R : List (Bytes × Nat)} (h : Pl D R) {r : Bytes} {p : Nat} (hr : find R r = .none) (hp : p < 16384) : Pl (D.put (.string r) (.lit (.int .i64 (p : Int)))) (R ++ [(r, p)]) := by
  refine ⟨h.isMap.put _ _, fun q hq => ?_, fun q x hq => ?_⟩
  · rw [find_more] at hq
    split at hq
    · cases hq
    next e =>
    split at hq
    · cases hq
    next hne =>
    rw [Maps.has_put_other (fun k => hne (Lit.string.inj k).symm)]
    exact h.no q e
  · rw [find_more] at hq
    split at hq
    next y e =>
      cases hq
      have hne : q ≠ r := fun k => by rw [k, hr] at e; cases e
      rw [Maps.has_put_other (fun k => hne (Lit.string.inj k)), Maps.atKey_put_other (fun k => hne (Lit.string.inj k))]
      exact h.yes q x e
    next e =>
    split at hq
    next k =>
      cases hq
      subst k
      have hk : WideAt.IsKeyLit (.string r) := by simp [WideAt.IsKeyLit]
      exact ⟨Maps.has_put_same h.isMap hk _, Maps.atKey_put_same h.isMap hk _ _, hp⟩
    · cases hq
/-- The packer at block pb has written the bytes b, and knows the places R. -/
structure Pk (w : World) (base pb : Nat) (b : Bytes) (R : List (Bytes × Nat)) : Prop where
  le : base ≤ pb
  all : ∃ v mb n D, w.heap[pb]? = some (.cells #[v, .map (some mb)] 44 (0, 0)) ∧ base ≤ mb ∧ w.ownsRow base 5 1 v b.length (bcells b) ∧ w.ownsMap Try.prog 9 (plainElem Try.prog 3) mb n D ∧ n ≤ R.length ∧ Pl D R
theorem pk_row {w : World} {base pb n mb : Nat} {v : Value} {xs : List Value} (h : w.heap[pb]? = some (.cells #[v, .map (some mb)] 44 (0, 0))) (o : w.ownsRow base 5 1 v n xs) : v.ownBlock ≠ some pb := by
  intro e
  rcases o.2 with ⟨rfl, _⟩ | ⟨g, cap, cur, rfl, _, hg, _⟩
  · cases e
  · cases e
    rw [h] at hg
    simp at hg
theorem pk_map {w : World} {pb mb n : Nat} {v : Value} {D : DataW Unit} (h : w.heap[pb]? = some (.cells #[v, .map (some mb)] 44 (0, 0))) (o : w.ownsMap Try.prog 9 (plainElem Try.prog 3) mb n D) : mb ≠ pb := by
  intro e
  subst e
  obtain ⟨es, clock, hb, _⟩ := o
  rw [h] at hb
  cases hb
theorem row_map {w : World} {base mb n m : Nat} {v : Value} {xs : List Value} {D : DataW Unit} (o : w.ownsRow base 5 1 v m xs) (h : w.ownsMap Try.prog 9 (plainElem Try.prog 3) mb n D) : v.ownBlock ≠ some mb := by
  intro e
  obtain ⟨es, clock, hb, _⟩ := h
  rcases o.2 with ⟨rfl, _⟩ | ⟨g, cap, cur, rfl, _, hg, _⟩
  · cases e
  · cases e
    rw [hb] at hg
    cases hg
theorem heap_put {w : World} {pb : Nat} {x v y : Value} {T : TypeId} (h : w.heap[pb]? = some (.cells #[x, y] T (0, 0))) : (w.setCell ⟨pb, 0, none⟩ v).heap[pb]? = some (.cells #[v, y] T (0, 0)) := by
  simp [World.setCell, Array.getElem?_modify, h]
theorem grown_set {w : World} {a : Addr} {v : Value} : w.grownBy (w.setCell a v) (some a.block) := by
  refine ⟨rfl, rfl, rfl, by simp [World.setCell], fun i hi hne => ?_⟩
  have hne' : a.block ≠ i := fun e => hne (by rw [e])
  simp [World.setCell, Array.getElem?_modify, hne']
theorem Pk.kept {w w' : World} {base pb : Nat} {b : Bytes} {R : List (Bytes × Nat)} (h : Pk w base pb b R) (k : Below w.heap.size w w') : Pk w' base pb b R := by
  obtain ⟨le, v, mb, n, D, hb, hm, ho, hM, hn, hP⟩ := h
  have hg : w.grownBy w' none := ⟨k.os, k.tape, k.output, k.size, fun i hi _ => k.block i hi⟩
  exact ⟨le, v, mb, n, D, (k.block pb (Array.getElem?_eq_some_iff.1 hb).1).trans hb, hm, World.ownsRow.kept ho hg (by cases v.ownBlock <;> simp), hM.kept hg (by simp), hn, hP⟩
theorem Pk.drew {w : World} {base pb : Nat} {b : Bytes} {R : List (Bytes × Nat)} (h : Pk w base pb b R) : Pk w.drew base pb b R := h.kept ⟨rfl, rfl, rfl, Nat.le_refl _, fun _ _ => rfl⟩
/-- The row behind a packer has grown, and is stored into its first field. -/
theorem Pk.stored {w w1 : World} {base pb mb n m : Nat} {b b' : Bytes} {R : List (Bytes × Nat)} {v v' : Value} {D : DataW Unit} (le : base ≤ pb) (hb : w.heap[pb]? = some (.cells #[v, .map (some mb)] 44 (0, 0))) (hm : base ≤ mb) (ho : w.ownsRow base 5 1 v m (bcells b))
    (hM : w.ownsMap Try.prog 9 (plainElem Try.prog 3) mb n D) (hn : n ≤ R.length) (hP : Pl D R) (ho' : w1.ownsRow base 5 1 v' b'.length (bcells b')) (hg : w.grownBy w1 v.ownBlock) :
    Pk (w1.setCell ⟨pb, 0, none⟩ v') base pb b' R := by
  have hlt := (Array.getElem?_eq_some_iff.1 hb).1
  have hb1 : w1.heap[pb]? = some (.cells #[v, .map (some mb)] 44 (0, 0)) := (hg.block pb hlt (fun e => pk_row hb ho e.symm)).trans hb
  have hb2 := heap_put (v := v') hb1
  have hM1 := hM.kept hg (fun e => row_map ho hM e.symm)
  have gs : w1.grownBy (w1.setCell ⟨pb, 0, none⟩ v') (some pb) := grown_set
  refine ⟨le, v', mb, n, D, hb2, hm, World.ownsRow.kept ho' gs (.inr (fun e => ?_)), hM1.kept gs (fun e => by cases e; exact pk_map hb1 hM1 rfl), hn, hP⟩
  rcases ho'.2 with ⟨rfl, _⟩ | ⟨g, cap, cur, rfl, _, hgg, _⟩
  · cases e
  · cases e
    rw [hb1] at hgg
    simp at hgg
theorem stored_below {w w1 : World} {base pb : Nat} {n : Nat} {v v' : Value} {xs : List Value} (le : base ≤ pb) (ho : w.ownsRow base 5 1 v n xs) (hg : w.grownBy w1 v.ownBlock) (hb : base ≤ w.heap.size) : Below base w (w1.setCell ⟨pb, 0, none⟩ v') :=
  ((Below.refl base w).grown hg hb (fun k hk => (World.ownsRow.lt ho k hk).1)).setCell (p := ⟨pb, 0, none⟩) le _
theorem own_form {w : World} {base n : Nat} {v : Value} {xs : List Value} (h : w.ownsRow base 5 1 v n xs) : ∃ a cap, v = .slice a n cap := by
  rcases h.2 with ⟨rfl, h0⟩ | ⟨g, cap, cur, rfl, _⟩
  · exact ⟨none, 0, by rw [h0]⟩
  · exact ⟨_, _, rfl⟩
theorem own_form3 {w : World} {base n : Nat} {v : Value} {xs : List Value} (h : w.ownsRow base 5 1 v n xs) : ∃ a m cap, v = .slice a m cap := by
  obtain ⟨a, cap, e⟩ := own_form h
  exact ⟨a, n, cap, e⟩
set_option maxHeartbeats 1000000 in
theorem newPacker_any (w : World) : Calls Try.prog 25 #[] w fun e w' => ∃ pb, e = .returned (.pointer (some ⟨pb, 0, none⟩)) ∧ Pk w' w.heap.size pb [] [] ∧ Below w.heap.size w w' := by
  have hmm := @run_makeMap Try.prog
  go_enter Try.func25, Try.ntmps25
  go_wp2
  go_ret
  refine ⟨_, rfl, ⟨by simp, .slice none 0 0, w.heap.size, 0, .map [], by have := (MapKept.heap_alloc (w.alloc (.map #[] 0)) (.cells #[.slice none 0 0, .map (some w.heap.size)] 44)).1; simpa using this, Nat.le_refl _, World.ownsRow_nil _ _ _ _, ?_, Nat.le_refl _, Pl.none⟩, ?_⟩
  · exact (World.ownsMap_made w _ _ _).alloc _
  · exact ((Below.refl _ w).alloc (Nat.le_refl _) _).alloc (by simp) _
theorem run_clear {P : Program} {t k e ty : TypeId} {R : Value → Option (DataW Unit × List MemPlace)} {w : World} {b n : Nat} {D : DataW Unit} (h : w.ownsMap P k R b n D) (ht : P.underlying t = some (.map k e)) :
    ∃ w', (Builtin.clear_ #[t] ty #[.map (some b)]).run P w = .ok (.tuple #[]) w' ∧ w'.ownsMap P k R b 0 (.map []) ∧ w.grownBy w' (some b) := by
  obtain ⟨es, clock, hb, F, _, _⟩ := h
  refine ⟨Go.ChangeMaps.setBlock w b (.map #[] clock), ?_, ⟨#[], clock, Go.ChangeMaps.heap_setBlock_same hb _, ⟨by simp, MapKept.stamped_empty clock, by simp⟩, Nat.le_refl _, rfl⟩, ⟨rfl, rfl, rfl, by simp [Go.ChangeMaps.setBlock], fun i _ hi => Go.ChangeMaps.heap_setBlock_other hb _ (fun e => hi (by rw [e]))⟩⟩
  simp [Builtin.clear_, run_underlying ht, MapKept.run_getObj_map hb, MapKept.run_setObj_map _ hb, Result.andThen, Go.ChangeMaps.setBlock]
set_option maxHeartbeats 1000000 in
theorem forget_any (base pb : Nat) (b : Bytes) (R : List (Bytes × Nat)) (w : World) (h : Pk w base pb b R) :
    Calls Try.prog 30 #[.pointer (some ⟨pb, 0, none⟩)] w fun e w' => e = .returned (.tuple #[]) ∧ Pk w' base pb b [] ∧ Below base w w' := by
  obtain ⟨le, v, mb, n, D, hb, hm, ho, hM, hn, hP⟩ := h
  obtain ⟨w1, hrun, hM1, hg⟩ := run_clear (ty := 0) hM Try.underlying42
  have c1 : w.cell? ⟨pb, 1, none⟩ = some (.map (some mb)) := by rw [Go.Lib.cell_of_heap hb]; rfl
  have HB := hidIt (And.intro hb (And.intro ho hM))
  clear hb ho hM
  go_enter Try.func30, Try.ntmps30
  go_wp2
  obtain ⟨hb, ho, hM⟩ := HB.out
  refine bodyPost_end (v := .tuple #[]) (by simp [results, Try.results30, go_sem]) rfl ⟨rfl, ⟨le, v, mb, 0, .map [], (hg.block pb (Array.getElem?_eq_some_iff.1 hb).1 (fun e => by cases e; exact pk_map hb hM rfl)).trans hb, hm, World.ownsRow.kept ho hg (.inr (row_map ho hM)), hM1, Nat.le_refl _, Pl.none⟩, ?_⟩
  exact ⟨hg.os, hg.tape, hg.output, hg.size, fun k hk => hg.block k (Nat.lt_trans (Nat.lt_of_lt_of_le hk hm) hM.lt) (fun e => by cases e; omega)⟩
theorem info8p : (Try.prog.info? 5).map (fun i => (i.zero, i.size, i.bytes)) = some (some (.int .u8 0), 1, 1) := by kernel_rfl
theorem pair_cells {p : Nat} (hp : p < 16384) : bcells [UInt8.ofNat (192 + p / 256), UInt8.ofNat (p % 256)] = [.int .u8 (192 + (p : Int) / 256), .int .u8 ((p : Int) % 256)] := by
  have h1 : (UInt8.ofNat (192 + p / 256)).toNat = 192 + p / 256 := by simp; omega
  have h2 : (UInt8.ofNat (p % 256)).toNat = p % 256 := by simp
  simp only [bcells, List.map_cons, List.map_nil, h1, h2]
  rfl
theorem two_new (w : World) (x y : Int) : ∀ j u, ([.int .u8 x, .int .u8 y] : List Value)[j]? = some u → (w.alloc (.cells #[.int .u8 x, .int .u8 y] 5)).cell? ((⟨w.heap.size, 0, none⟩ : Addr).add j) = some u := by
  intro j u hj
  match j, hj with
  | 0, hj => simp at hj; subst hj; simp [Addr.add]
  | 1, hj => simp at hj; subst hj; simp [Addr.add]
theorem one_newI (w : World) (x : Int) : ∀ j u, ([.int .u8 x] : List Value)[j]? = some u → (w.alloc (.cells #[.int .u8 x] 5)).cell? ((⟨w.heap.size, 0, none⟩ : Addr).add j) = some u := by
  intro j u hj
  match j, hj with
  | 0, hj => simp at hj; subst hj; simp [Addr.add]
theorem ints_one (l : List Int) : ∀ u ∈ l.map (Value.int .u8), u.oneCell' = true := by
  intro u hu
  obtain ⟨s, _, rfl⟩ := List.mem_map.1 hu
  rfl
theorem own_more {w : World} {base n : Nat} {v : Value} {b c : Bytes} (h : w.ownsRow base 5 1 v n (bcells b ++ bcells c)) (hn : n = b.length + c.length) : w.ownsRow base 5 1 v (b ++ c).length (bcells (b ++ c)) := by
  subst hn
  rw [List.length_append]
  exact rw_cells h
theorem grown_alloc {w w1 : World} {o : Obj} {row : Option Nat} (h : (w.alloc o).grownBy w1 row) : w.grownBy w1 row :=
  ⟨h.os, h.tape, h.output, Nat.le_trans (by simp) h.size, fun i hi hne => (h.block i (by simp; omega) hne).trans (by have := (World.grownBy_alloc w o none).block i hi (by simp); exact this)⟩
set_option maxRecDepth 100000 in
set_option maxHeartbeats 1000000 in
theorem pair_any (base pb : Nat) (b : Bytes) (R : List (Bytes × Nat)) (p : Nat) (w : World) (h : Pk w base pb b R) (hp : p < 16384) (hl : b.length ≤ 20000) (hbw : base ≤ w.heap.size) :
    Calls Try.prog 39 #[.pointer (some ⟨pb, 0, none⟩), .int .i64 (p : Int)] w fun e w' => e = .returned (.tuple #[]) ∧ Pk w' base pb (b ++ [UInt8.ofNat (192 + p / 256), UInt8.ofNat (p % 256)]) R ∧ Below base w w' := by
  obtain ⟨i0, hi, hz0, hz1, hz2⟩ := info_parts info8p
  obtain ⟨le, v, mb, n, D, hb, hm, ho, hM, hn, hP⟩ := h
  have c0 : w.cell? ⟨pb, 0, none⟩ = some v := by rw [Go.Lib.cell_of_heap hb]; rfl
  have hlt := (Array.getElem?_eq_some_iff.1 hb).1
  have HB := hidIt hb
  have HO := hidIt ho
  have HM := hidIt hM
  have HC := hidIt (pair_cells hp)
  clear hb ho hM
  have g1 : (0 : Int) ≤ (p : Int) := by omega
  have g2 : (p : Int) < 16384 := by omega
  go_enter Try.func39, Try.ntmps39
  go_wp2_with (at_builtin; refine wpList_append_own _ rfl _ _ 22 rfl base 5 i0 (.int .u8 0) 1 1 Try.underlying22 hi hz0 hz1 hz2 rfl (by decide) _ _ _ rfl (World.ownsRow.alloc HO.out _) ⟨w.heap.size, 0, none⟩ 2 2 [.int .u8 (192 + (p : Int) / 256), .int .u8 ((p : Int) % 256)] rfl rfl (two_new _ _ _) (ints_one [_, _]) ?c3 ?c4 ?c5 ?_)
  case c3 => unfold maxLen; omega
  case c4 => omega
  case c5 => simp; omega
  intro v' w1 hown hgrow _
  rw [← HC.out] at hown
  have hg := grown_alloc hgrow
  have hown' := own_more hown (by first | rfl | simp)
  obtain ⟨a', m', cap', rfl⟩ := own_form3 hown'
  have hb1 := (hg.block pb hlt (fun e => pk_row HB.out HO.out e.symm)).trans HB.out
  have d0 : w1.cell? ⟨pb, 0, none⟩ = some v := by rw [Go.Lib.cell_of_heap hb1]; rfl
  have f0 : w1.frozen? ⟨pb, 0, none⟩ = false := Go.Lib.frozen_of_heap hb1 0
  have HN := hidIt hown'
  have HG := hidIt hg
  clear hown hown' hgrow hg hb1
  go_wp2_with (fail)
  refine bodyPost_end (v := .tuple #[]) (by simp [results, Try.results39, go_sem]) rfl ⟨rfl, Pk.stored le HB.out hm HO.out HM.out hn hP HN.out HG.out, stored_below le HO.out HG.out hbw⟩
theorem len_cells (l : Bytes) (h : l.length ≤ 12) : bcells [UInt8.ofNat l.length] = [.int .u8 (l.length : Int)] := by
  have h1 : (UInt8.ofNat l.length).toNat = l.length := by simp; omega
  simp only [bcells, List.map_cons, List.map_nil, h1]
set_option maxRecDepth 100000 in
set_option maxHeartbeats 2000000 in
theorem label_any (base pb : Nat) (b l : Bytes) (R : List (Bytes × Nat)) (w : World) (h : Pk w base pb b R) (h12 : l.length ≤ 12) (hl : b.length ≤ 20000) (hbw : base ≤ w.heap.size) :
    Calls Try.prog 42 #[.pointer (some ⟨pb, 0, none⟩), .string (B l)] w fun e w' => e = .returned (.tuple #[]) ∧ Pk w' base pb (b ++ UInt8.ofNat l.length :: l) R ∧ Below base w w' := by
  obtain ⟨i0, hi, hz0, hz1, hz2⟩ := info_parts info8p
  obtain ⟨le, v, mb, n, D, hb, hm, ho, hM, hn, hP⟩ := h
  have c0 : w.cell? ⟨pb, 0, none⟩ = some v := by rw [Go.Lib.cell_of_heap hb]; rfl
  have hlt := (Array.getElem?_eq_some_iff.1 hb).1
  have HB := hidIt hb
  have HO := hidIt ho
  have HM := hidIt hM
  have HC := hidIt (len_cells l h12)
  have hz : (B l).size = l.length := B_size l
  have HL := hidIt (bs_B l)
  clear hb ho hM
  obtain ⟨s, hs⟩ : ∃ s, s = B l := ⟨_, rfl⟩
  rw [← hs] at hz ⊢
  have HS := hidIt hs
  rw [← hz] at h12
  have g1 : (s.size : Int) ≤ 12 := by omega
  have HZ := hidIt hz
  clear hs hz
  go_enter Try.func42, Try.ntmps42
  go_wp2_with (at_builtin; refine wpList_append_own _ rfl _ _ 22 rfl base 5 i0 (.int .u8 0) 1 1 Try.underlying22 hi hz0 hz1 hz2 rfl (by decide) _ _ _ rfl (World.ownsRow.alloc HO.out _) ⟨w.heap.size, 0, none⟩ 1 1 [.int .u8 (s.size : Int)] rfl rfl (one_newI _ _) (ints_one [_]) ?c3 ?c4 ?c5 ?_)
  case c3 => unfold maxLen; omega
  case c4 => omega
  case c5 => exact Nat.le_trans hbw (by simp)
  intro v' w1 hown hgrow _
  rw [HZ.out, ← HC.out] at hown
  have hg := grown_alloc hgrow
  have hown' := own_more hown (by first | rfl | simp)
  obtain ⟨a', m', cap', rfl⟩ := own_form3 hown'
  have hb1 := (hg.block pb hlt (fun e => pk_row HB.out HO.out e.symm)).trans HB.out
  have d0 : w1.cell? ⟨pb, 0, none⟩ = some v := by rw [Go.Lib.cell_of_heap hb1]; rfl
  have f0 : w1.frozen? ⟨pb, 0, none⟩ = false := Go.Lib.frozen_of_heap hb1 0
  have HK := hidIt (Pk.stored le HB.out hm HO.out HM.out hn hP hown' hg)
  have HW := hidIt (stored_below (pb := pb) (v' := .slice a' m' cap') le HO.out hg hbw)
  clear hown hown' hgrow hg hb1 HB HO HM hP hn hm
  obtain ⟨le2, v2, mb2, n2, D2, hb2, hm2, ho2, hM2, hn2, hP2⟩ := HK.out
  have d2 : (w1.setCell ⟨pb, 0, none⟩ (.slice a' m' cap')).cell? ⟨pb, 0, none⟩ = some v2 := by rw [Go.Lib.cell_of_heap hb2]; rfl
  have hlt2 := (Array.getElem?_eq_some_iff.1 hb2).1
  have HB2 := hidIt hb2
  have HO2 := hidIt ho2
  have HM2 := hidIt hM2
  have hk : (b ++ [UInt8.ofNat l.length]).length ≤ 20001 := by simp; omega
  clear hb2 ho2 hM2 HK
  generalize ec : (b ++ [UInt8.ofNat l.length]) = c at *
  have HE := hidIt ec
  clear ec
  go_wp2_with (at_builtin; refine Go.Lib.wpList_append_own_string _ rfl _ _ 22 9 rfl base 5 i0 Try.underlying22 Try.underlying9 hi hz0 hz1 hz2 _ _ _ rfl HO2.out s rfl ?e3 ?e4 ?e5 ?_)
  case e3 => unfold maxLen; omega
  case e4 => omega
  case e5 => exact Nat.le_trans hbw HW.out.size
  intro v3 w3 hown hgrow _
  rw [bcells_str, HS.out, bs_B] at hown
  have hown' := own_more hown (by rw [B_size])
  obtain ⟨a3, m3, cap3, rfl⟩ := own_form3 hown'
  have hb3 := (hgrow.block pb hlt2 (fun e => pk_row HB2.out HO2.out e.symm)).trans HB2.out
  have d3 : w3.cell? ⟨pb, 0, none⟩ = some v2 := by rw [Go.Lib.cell_of_heap hb3]; rfl
  have f3 : w3.frozen? ⟨pb, 0, none⟩ = false := Go.Lib.frozen_of_heap hb3 0
  have HN := hidIt hown'
  have HG := hidIt hgrow
  clear hown hown' hgrow hb3
  go_wp2_with (fail)
  refine bodyPost_end (v := .tuple #[]) (by simp [results, Try.results42, go_sem]) rfl ⟨rfl, ?_, HW.out.trans (stored_below le HO2.out HG.out (Nat.le_trans hbw HW.out.size))⟩
  have := Pk.stored le HB2.out hm2 HO2.out HM2.out hn2 hP2 HN.out HG.out
  rw [show b ++ UInt8.ofNat l.length :: l = c ++ l by rw [← HE.out]; simp]
  exact this
set_option maxRecDepth 100000 in
set_option maxHeartbeats 2000000 in
theorem note_any (base pb : Nat) (b : Bytes) (R : List (Bytes × Nat)) (s : ByteArray) (w : World) (h : Pk w base pb b R) (hs : s.size ≤ 1000) (hl : b.length < 16384) (hr : find R (bs s) = none) (hR : R.length ≤ 1000) :
    Calls Try.prog 40 #[.pointer (some ⟨pb, 0, none⟩), .string s] w fun e w' => e = .returned (.tuple #[]) ∧ Pk w' base pb b (R ++ [(bs s, b.length)]) ∧ Below base w w' := by
  obtain ⟨le, v, mb, n, D, hb, hm, ho, hM, hn, hP⟩ := h
  have c0 : w.cell? ⟨pb, 0, none⟩ = some v := by rw [Go.Lib.cell_of_heap hb]; rfl
  have c1 : w.cell? ⟨pb, 1, none⟩ = some (.map (some mb)) := by rw [Go.Lib.cell_of_heap hb]; rfl
  have HB := hidIt hb
  have HO := hidIt ho
  have HM := hidIt hM
  obtain ⟨a', cap', rfl⟩ := own_form ho
  have g1 : (b.length : Int) < 16384 := by omega
  have hkey : keyOf Try.prog 9 (.string s) = some (.string (bs s)) := Go.WideMaps.keyOf_string_mk Try.underlying9 (by unfold maxLen; omega)
  have hw : (Lit.int .i64 (b.length : Int)).wf = true := by
    have e1 : IntKind.i64.min = -9223372036854775808 := by decide
    have e2 : IntKind.i64.max = 9223372036854775807 := by decide
    simp only [Lit.wf, Bool.and_eq_true, decide_eq_true_eq, e1, e2]
    omega
  have HP := hidIt (hP.put hr hl)
  clear hb ho hM hP
  go_enter Try.func40, Try.ntmps40
  go_wp2_with (at_mapUpdate; refine wpList_mapUpdate_own _ rfl _ _ _ 42 rfl 9 3 keyLaw Try.underlying42 _ mb n D rfl HM.out (by unfold maxLen; omega) _ _ (.string (bs s)) rfl rfl hkey (.lit (.int .i64 (b.length : Int))) [] (plainElem_int Try.underlying3 hw) ?_)
  intro w1 hM1 hg
  go_wp2_with (fail)
  refine bodyPost_end (v := .tuple #[]) (by simp [results, Try.results40, go_sem]) rfl ⟨rfl, ⟨le, _, mb, n + 1, _, (hg.block pb (Array.getElem?_eq_some_iff.1 HB.out).1 (fun e => by cases e; exact pk_map HB.out HM.out rfl)).trans HB.out, hm, World.ownsRow.kept HO.out hg (.inr (row_map HO.out HM.out)), hM1, by simp; omega, HP.out⟩, ?_⟩
  exact ⟨hg.os, hg.tape, hg.output, hg.size, fun k hk => hg.block k (Nat.lt_trans (Nat.lt_of_lt_of_le hk hm) HM.out.lt) (fun e => by cases e; omega)⟩
end Go.Proofs.Ytdbldhcelbllgaa.Nm
