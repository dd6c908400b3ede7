/-
  Blind in plain words; Blind of the specification. (Written by wip/mkBli.py.)
-/
import Derived.Test.YtbdibkcamomgpaaActM
import Derived.Test.YtbdibkcamomgpaaBoxM
import Derived.Test.YtbdibkcamomgpaaRuF
import Derived.Test.YtbdibkcamomgpaaRuS
namespace Go.Proofs.Ytbdibkcamomgpaa.Ac
open Go.ChangeShapes Go.WideShapes Go.ChangeAt Go.RowKit
set_option linter.unusedVariables false
/-- What may not be read and is to be Blind. -/
def secB (R : List Ru.Rw) (x : Rw) : Bool := (x.1 == 1) && ((x.2.2.2.1.toList == [114, 111, 111, 116]) && (decide ((4 : Int) < (x.2.2.2.2.1.size : Int)) && (((x.2.2.2.2.1.extract 0 4).toList == [115, 118, 99, 47]) && (!(Ru.mayR R (Ru.bs x.2.2.2.2.1) false) && (!x.2.2.2.2.2.2.1 && decide ((x.2.2.2.2.2.1.size : Int) ≤ 40))))))
def bliA (R : List Ru.Rw) (x : Rw) : Rw := if secB R x then (x.1, x.2.1, x.2.2.1, x.2.2.2.1, x.2.2.2.2.1, ⟨#[45]⟩, x.2.2.2.2.2.2) else x
theorem bliA_no {R : List Ru.Rw} {x : Rw} (h : secB R x = false) : bliA R x = x := by unfold bliA; rw [h]; rfl
theorem bliA_yes {R : List Ru.Rw} {x : Rw} (h : secB R x = true) : bliA R x = (x.1, x.2.1, x.2.2.1, x.2.2.2.1, x.2.2.2.2.1, ⟨#[45]⟩, x.2.2.2.2.2.2) := by unfold bliA; rw [h]; rfl
def blindR (R : List Ru.Rw) (L : List Rw) : List Rw := if Ru.okR R && decide (L.length ≤ 200) then L.map (bliA R) else []
theorem blindR_len (R : List Ru.Rw) (L : List Rw) : (blindR R L).length ≤ 200 := by
  unfold blindR
  split
  · rename_i h
    simp only [Bool.and_eq_true, decide_eq_true_eq] at h
    rw [List.length_map]
    exact h.2
  · simp
set_option maxRecDepth 100000 in
set_option maxHeartbeats 32000000 in
theorem spec_Blind (a ra : Option Addr) (cap rcap : Nat) (L : List Rw) (R : List Ru.Rw) (t : ByteArray) (w : World) (h : Rd w a L) (hr : Ru.Rd w ra R) (hl : L.length ≤ 9223372036854775807) (hs : ∀ i, i < L.length → (rat L i).2.2.2.1.size ≤ 9223372036854775807 ∧ (rat L i).2.2.2.2.1.size ≤ 9223372036854775807 ∧ (rat L i).2.2.2.2.2.1.size ≤ 9223372036854775807 ∧ (rat L i).2.2.2.2.2.2.2.2.1.size ≤ 9223372036854775807 ∧ (rat L i).2.2.2.2.2.2.2.2.2.1.size ≤ 9223372036854775807) (hrl : R.length ≤ 9223372036854775807) (hrs : ∀ i, i < R.length → (Ru.rat R i).1.size ≤ 9223372036854775807) :
    Calls Try.prog 7 #[.slice a L.length cap, .string t, .slice ra R.length rcap] w fun e w' => ∃ v, e = .returned v ∧ Own w' w.heap.size v (blindR R L) ∧ Below w.heap.size w w' := by
  obtain ⟨i0, hi0, hz0, hz1, hz2⟩ := info_parts infoRw
  have CO := hidIt (fun W (k : Below w.heap.size w W) => Ru.spec_RulesOk ra rcap R W (hr.kept k) hrl hrs)
  have CM := hidIt (fun s W (k : Below w.heap.size w W) hk => Ru.spec_May ra rcap R s false W (hr.kept k) hrl hrs hk)
  have HR := hidIt h
  have HSh := hidIt hs
  have HTk := hidIt (fun i (hi : i < L.length) => take_rat (L := L) (i := i) hi)
  have N1 : Hid ((Ru.okR R && decide (L.length ≤ 200)) = false → blindR R L = []) := hidIt (fun z => by unfold blindR; rw [z]; rfl)
  have N2 : Hid ((Ru.okR R && decide (L.length ≤ 200)) = true → blindR R L = (L.take L.length).map (bliA R)) := hidIt (fun z => by unfold blindR; rw [z, List.take_length]; rfl)
  generalize blindR R L = ans at N1 N2 ⊢
  generalize Ru.okR R = k0 at CO N1 N2
  generalize hn : L.length = m at *
  have HN := hidIt hn
  clear h hr hs hn
  generalize R.length = mr at *
  have HB0 := hidIt ((Below.refl w.heap.size w).alloc (Nat.le_refl _) (.cells #[] 49))
  have HO0 : Hid (Own (w.alloc (.cells #[] 49)) w.heap.size (.slice (some ⟨w.heap.size, 0, none⟩) 0 0) []) := hidIt (Own.new w)
  cases k0 with
  | false =>
    have er := N1.out rfl
    subst er
    go_enter Try.func7, Try.ntmps7
    go_wp2_with (fail)
    refine (CO.out _ HB0.out).mono ?_
    rintro e w1 ⟨rfl, k1⟩
    have HO1 := hidIt (HO0.out.kept k1)
    have HB1 := hidIt (HB0.out.trans (k1.mono HB0.out.size))
    clear k1
    go_wp2_with (fail)
    go_ret
    exact ⟨_, rfl, HO1.out, HB1.out⟩
  | true =>
  by_cases h200 : m ≤ 200
  case neg =>
    have er := N1.out (by rw [decide_eq_false h200]; rfl)
    subst er
    have g2 : decide ((200 : Int) < (m : Int)) = true := decide_eq_true (by omega)
    go_enter Try.func7, Try.ntmps7
    go_wp2_with (fail)
    refine (CO.out _ HB0.out).mono ?_
    rintro e w1 ⟨rfl, k1⟩
    have HO1 := hidIt (HO0.out.kept k1)
    have HB1 := hidIt (HB0.out.trans (k1.mono HB0.out.size))
    clear k1
    go_wp2_with (fail)
    go_ret
    exact ⟨_, rfl, HO1.out, HB1.out⟩
  have er := N2.out (by rw [decide_eq_true h200]; rfl)
  have g2 : decide ((200 : Int) < (m : Int)) = false := decide_eq_false (by omega)
  go_enter Try.func7, Try.ntmps7
  go_wp2_with (fail)
  refine (CO.out _ HB0.out).mono ?_
  rintro e w1 ⟨rfl, k1⟩
  have HO1 := hidIt (HO0.out.kept k1)
  have HB1 := hidIt (HB0.out.trans (k1.mono HB0.out.size))
  have HAn := hidIt er
  clear k1 N1 N2 er HO0 HB0 CO
  go_wp2_with (fail)
  go_loopw [7, 8] (fun z y wx => ∃ (i : Nat) (va : Option Addr) (vc : Nat), y = .int .i64 i ∧ z = .slice va i vc ∧ i ≤ m ∧ Hid (Own wx w.heap.size (.slice va i vc) ((L.take i).map (bliA R))) ∧ Hid (Below w.heap.size w wx)) (fun _ y _ => (m - intOf y).toNat)
  case atStart => exact ⟨0, some ⟨w.heap.size, 0, none⟩, 0, rfl, rfl, by omega, hidIt (by rw [List.take_zero]; exact HO1.out), HB1⟩
  case round =>
    obtain ⟨i, va, vc, rfl, rfl, hi, HO, HB⟩ := hrel
    clear HO1 HB1 g2
    by_cases hin : i < m
    · have hin' : (i : Int) < (m : Int) := by omega
      have hi0' : (0 : Int) ≤ (i : Int) := by omega
      have hiL : i < L.length := by rw [HN.out]; exact hin
      obtain ⟨b, off, ea, c0, c1, c2, c3, c4, c5, c6, c7, c8, c9, c10, c11⟩ := (HR.out.kept HB.out).all (i := i) hiL
      subst ea
      have HTK := hidIt (HTk.out i hin)
      have hsi := HSh.out i hin
      obtain ⟨M, hMe⟩ : ∃ M, (L.take i).map (bliA R) = M := ⟨_, rfl⟩
      have HLn : Hid (M.length = i) := hidIt (by rw [← hMe, List.length_map, List.length_take]; omega)
      have HMe := hidIt hMe
      rw [hMe] at HO
      clear hMe
      obtain ⟨x, hx⟩ : ∃ x, rat L i = x := ⟨_, rfl⟩
      have HX := hidIt hx
      rw [hx] at c0 c1 c2 c3 c4 c5 c6 c7 c8 c9 c10 c11 hsi
      clear hx hiL
      obtain ⟨x0, x1, x2, x3, x4, x5, x6, x7, x8, x9, x10, x11⟩ := x
      have HS : Hid (secB R (x0, x1, x2, x3, x4, x5, x6, x7, x8, x9, x10, x11) = ((x0 == 1) && ((x3.toList == [114, 111, 111, 116]) && (decide ((4 : Int) < (x4.size : Int)) && (((x4.extract 0 4).toList == [115, 118, 99, 47]) && (!(Ru.mayR R (Ru.bs x4) false) && (!x6 && decide ((x5.size : Int) ≤ 40)))))))) := hidIt rfl
      simp only at c0 c1 c2 c3 c4 c5 c6 c7 c8 c9 c10 c11 hsi
      have hs4 := hsi.2.1
      cases hg0 : (x0 == 1) with
      | false =>
        have HSE : Hid (secB R (x0, x1, x2, x3, x4, x5, x6, x7, x8, x9, x10, x11) = false) := hidIt (by rw [HS.out]; simp [hg0])
        have hM : (L.take (i + 1)).map (bliA R) = M ++ [(x0, x1, x2, x3, x4, x5, x6, x7, x8, x9, x10, x11)] := by rw [HTK.out, HX.out]; simp only [List.map_append, List.map_cons, List.map_nil]; rw [HMe.out, bliA_no (by first | exact HSE.out | simp [HSE.out])]
        have HM2 := hidIt hM
        have kW : Below wr.heap.size wr (wr.alloc (.cells #[.int .i64 x0, .int .i64 x1, .int .i64 x2, .string x3, .string x4, .string x5, .bool x6, .int .i64 x7, .string x8, .string x9, .int .i64 x10, .int .i64 x11] 49)) := (Below.refl _ _).alloc (Nat.le_refl _) _
        have kA : Below wr.heap.size wr ((wr.alloc (.cells #[.int .i64 x0, .int .i64 x1, .int .i64 x2, .string x3, .string x4, .string x5, .bool x6, .int .i64 x7, .string x8, .string x9, .int .i64 x10, .int .i64 x11] 49)).alloc (.cells #[.int .i64 x0, .int .i64 x1, .int .i64 x2, .string x3, .string x4, .string x5, .bool x6, .int .i64 x7, .string x8, .string x9, .int .i64 x10, .int .i64 x11] 49)) := kW.alloc kW.size _
        have HRow : Hid (World.ownsRow ((wr.alloc (.cells #[.int .i64 x0, .int .i64 x1, .int .i64 x2, .string x3, .string x4, .string x5, .bool x6, .int .i64 x7, .string x8, .string x9, .int .i64 x10, .int .i64 x11] 49)).alloc (.cells #[.int .i64 x0, .int .i64 x1, .int .i64 x2, .string x3, .string x4, .string x5, .bool x6, .int .i64 x7, .string x8, .string x9, .int .i64 x10, .int .i64 x11] 49)) w.heap.size 49 12 (.slice va i vc) M.length (rcells M)) := hidIt (HO.out.kept kA)
        have HAl := hidIt kA
        have HFr : Hid (∀ j u, (rcells [((x0, x1, x2, x3, x4, x5, x6, x7, x8, x9, x10, x11) : Rw)])[j]? = some u → ((wr.alloc (.cells #[.int .i64 x0, .int .i64 x1, .int .i64 x2, .string x3, .string x4, .string x5, .bool x6, .int .i64 x7, .string x8, .string x9, .int .i64 x10, .int .i64 x11] 49)).alloc (.cells #[.int .i64 x0, .int .i64 x1, .int .i64 x2, .string x3, .string x4, .string x5, .bool x6, .int .i64 x7, .string x8, .string x9, .int .i64 x10, .int .i64 x11] 49)).cell? ((⟨wr.heap.size + 1, 0, none⟩ : Addr).add j) = some u) := hidIt (fun j u hj => by
          have z := fresh (wr.alloc (.cells #[.int .i64 x0, .int .i64 x1, .int .i64 x2, .string x3, .string x4, .string x5, .bool x6, .int .i64 x7, .string x8, .string x9, .int .i64 x10, .int .i64 x11] 49)) (x0, x1, x2, x3, x4, x5, x6, x7, x8, x9, x10, x11) 49 j u hj
          have z2 : (wr.alloc (.cells #[.int .i64 x0, .int .i64 x1, .int .i64 x2, .string x3, .string x4, .string x5, .bool x6, .int .i64 x7, .string x8, .string x9, .int .i64 x10, .int .i64 x11] 49)).heap.size = wr.heap.size + 1 := by simp
          rw [z2] at z
          exact z)
        clear hM kW kA
        go_wp2_with (first | (at_builtin; refine wpList_append_own _ rfl _ _ 26 rfl w.heap.size 49 i0 (.agg #[.int .i64 0, .int .i64 0, .int .i64 0, .string ByteArray.empty, .string ByteArray.empty, .string ByteArray.empty, .bool false, .int .i64 0, .string ByteArray.empty, .string ByteArray.empty, .int .i64 0, .int .i64 0]) 12 136 Try.underlying26 hi0 hz0 hz1 hz2 rfl (by decide) _ _ _ rfl HRow.out ⟨wr.heap.size + 1, 0, none⟩ 1 1 [.int .i64 x0, .int .i64 x1, .int .i64 x2, .string x3, .string x4, .string x5, .bool x6, .int .i64 x7, .string x8, .string x9, .int .i64 x10, .int .i64 x11] rfl rfl HFr.out (rcells_one [(x0, x1, x2, x3, x4, x5, x6, x7, x8, x9, x10, x11)]) ?ca1 ?ca2 ?ca3 ?_) | fail)
        case ca1 => unfold maxLen; rw [HLn.out]; omega
        case ca2 => rw [HLn.out]; omega
        case ca3 => exact Nat.le_trans HB.out.size HAl.out.size
        intro v' w9 hown hgrow hnil
        have oo : Own w9 w.heap.size v' ((L.take (i + 1)).map (bliA R)) := by rw [HM2.out]; exact Own.more (L := M) (M := [(x0, x1, x2, x3, x4, x5, x6, x7, x8, x9, x10, x11)]) hown
        have kG : Below w.heap.size w w9 := (HB.out.trans (HAl.out.mono HB.out.size)).trans (grown_below (L := M) HRow.out hgrow (Nat.le_refl _) (Nat.le_trans HB.out.size HAl.out.size))
        obtain ⟨za, zc, ez, _⟩ := oo.formN (m := i + 1) (by rw [List.length_map, List.length_take, HN.out]; omega)
        subst ez
        have HO9 := hidIt oo
        have HB9 := hidIt kG
        clear hown hgrow hnil oo kG HRow HFr HAl HM2
        go_wp2_with (fail)
        exact ⟨⟨i + 1, za, zc, by simp, rfl, by omega, HO9, HB9⟩, by simp [intOf]; omega⟩
      | true =>
      cases hg1 : (x3.toList == [114, 111, 111, 116]) with
      | false =>
        have HSE : Hid (secB R (x0, x1, x2, x3, x4, x5, x6, x7, x8, x9, x10, x11) = false) := hidIt (by rw [HS.out]; simp [hg0, hg1])
        have hM : (L.take (i + 1)).map (bliA R) = M ++ [(x0, x1, x2, x3, x4, x5, x6, x7, x8, x9, x10, x11)] := by rw [HTK.out, HX.out]; simp only [List.map_append, List.map_cons, List.map_nil]; rw [HMe.out, bliA_no (by first | exact HSE.out | simp [HSE.out])]
        have HM2 := hidIt hM
        have kW : Below wr.heap.size wr (wr.alloc (.cells #[.int .i64 x0, .int .i64 x1, .int .i64 x2, .string x3, .string x4, .string x5, .bool x6, .int .i64 x7, .string x8, .string x9, .int .i64 x10, .int .i64 x11] 49)) := (Below.refl _ _).alloc (Nat.le_refl _) _
        have kA : Below wr.heap.size wr ((wr.alloc (.cells #[.int .i64 x0, .int .i64 x1, .int .i64 x2, .string x3, .string x4, .string x5, .bool x6, .int .i64 x7, .string x8, .string x9, .int .i64 x10, .int .i64 x11] 49)).alloc (.cells #[.int .i64 x0, .int .i64 x1, .int .i64 x2, .string x3, .string x4, .string x5, .bool x6, .int .i64 x7, .string x8, .string x9, .int .i64 x10, .int .i64 x11] 49)) := kW.alloc kW.size _
        have HRow : Hid (World.ownsRow ((wr.alloc (.cells #[.int .i64 x0, .int .i64 x1, .int .i64 x2, .string x3, .string x4, .string x5, .bool x6, .int .i64 x7, .string x8, .string x9, .int .i64 x10, .int .i64 x11] 49)).alloc (.cells #[.int .i64 x0, .int .i64 x1, .int .i64 x2, .string x3, .string x4, .string x5, .bool x6, .int .i64 x7, .string x8, .string x9, .int .i64 x10, .int .i64 x11] 49)) w.heap.size 49 12 (.slice va i vc) M.length (rcells M)) := hidIt (HO.out.kept kA)
        have HAl := hidIt kA
        have HFr : Hid (∀ j u, (rcells [((x0, x1, x2, x3, x4, x5, x6, x7, x8, x9, x10, x11) : Rw)])[j]? = some u → ((wr.alloc (.cells #[.int .i64 x0, .int .i64 x1, .int .i64 x2, .string x3, .string x4, .string x5, .bool x6, .int .i64 x7, .string x8, .string x9, .int .i64 x10, .int .i64 x11] 49)).alloc (.cells #[.int .i64 x0, .int .i64 x1, .int .i64 x2, .string x3, .string x4, .string x5, .bool x6, .int .i64 x7, .string x8, .string x9, .int .i64 x10, .int .i64 x11] 49)).cell? ((⟨wr.heap.size + 1, 0, none⟩ : Addr).add j) = some u) := hidIt (fun j u hj => by
          have z := fresh (wr.alloc (.cells #[.int .i64 x0, .int .i64 x1, .int .i64 x2, .string x3, .string x4, .string x5, .bool x6, .int .i64 x7, .string x8, .string x9, .int .i64 x10, .int .i64 x11] 49)) (x0, x1, x2, x3, x4, x5, x6, x7, x8, x9, x10, x11) 49 j u hj
          have z2 : (wr.alloc (.cells #[.int .i64 x0, .int .i64 x1, .int .i64 x2, .string x3, .string x4, .string x5, .bool x6, .int .i64 x7, .string x8, .string x9, .int .i64 x10, .int .i64 x11] 49)).heap.size = wr.heap.size + 1 := by simp
          rw [z2] at z
          exact z)
        clear hM kW kA
        go_wp2_with (first | (at_builtin; refine wpList_append_own _ rfl _ _ 26 rfl w.heap.size 49 i0 (.agg #[.int .i64 0, .int .i64 0, .int .i64 0, .string ByteArray.empty, .string ByteArray.empty, .string ByteArray.empty, .bool false, .int .i64 0, .string ByteArray.empty, .string ByteArray.empty, .int .i64 0, .int .i64 0]) 12 136 Try.underlying26 hi0 hz0 hz1 hz2 rfl (by decide) _ _ _ rfl HRow.out ⟨wr.heap.size + 1, 0, none⟩ 1 1 [.int .i64 x0, .int .i64 x1, .int .i64 x2, .string x3, .string x4, .string x5, .bool x6, .int .i64 x7, .string x8, .string x9, .int .i64 x10, .int .i64 x11] rfl rfl HFr.out (rcells_one [(x0, x1, x2, x3, x4, x5, x6, x7, x8, x9, x10, x11)]) ?ca1 ?ca2 ?ca3 ?_) | fail)
        case ca1 => unfold maxLen; rw [HLn.out]; omega
        case ca2 => rw [HLn.out]; omega
        case ca3 => exact Nat.le_trans HB.out.size HAl.out.size
        intro v' w9 hown hgrow hnil
        have oo : Own w9 w.heap.size v' ((L.take (i + 1)).map (bliA R)) := by rw [HM2.out]; exact Own.more (L := M) (M := [(x0, x1, x2, x3, x4, x5, x6, x7, x8, x9, x10, x11)]) hown
        have kG : Below w.heap.size w w9 := (HB.out.trans (HAl.out.mono HB.out.size)).trans (grown_below (L := M) HRow.out hgrow (Nat.le_refl _) (Nat.le_trans HB.out.size HAl.out.size))
        obtain ⟨za, zc, ez, _⟩ := oo.formN (m := i + 1) (by rw [List.length_map, List.length_take, HN.out]; omega)
        subst ez
        have HO9 := hidIt oo
        have HB9 := hidIt kG
        clear hown hgrow hnil oo kG HRow HFr HAl HM2
        go_wp2_with (fail)
        exact ⟨⟨i + 1, za, zc, by simp, rfl, by omega, HO9, HB9⟩, by simp [intOf]; omega⟩
      | true =>
      cases hg2 : decide ((4 : Int) < (x4.size : Int)) with
      | false =>
        have HSE : Hid (secB R (x0, x1, x2, x3, x4, x5, x6, x7, x8, x9, x10, x11) = false) := hidIt (by rw [HS.out]; simp [hg0, hg1, hg2])
        have hM : (L.take (i + 1)).map (bliA R) = M ++ [(x0, x1, x2, x3, x4, x5, x6, x7, x8, x9, x10, x11)] := by rw [HTK.out, HX.out]; simp only [List.map_append, List.map_cons, List.map_nil]; rw [HMe.out, bliA_no (by first | exact HSE.out | simp [HSE.out])]
        have HM2 := hidIt hM
        have kW : Below wr.heap.size wr (wr.alloc (.cells #[.int .i64 x0, .int .i64 x1, .int .i64 x2, .string x3, .string x4, .string x5, .bool x6, .int .i64 x7, .string x8, .string x9, .int .i64 x10, .int .i64 x11] 49)) := (Below.refl _ _).alloc (Nat.le_refl _) _
        have kA : Below wr.heap.size wr ((wr.alloc (.cells #[.int .i64 x0, .int .i64 x1, .int .i64 x2, .string x3, .string x4, .string x5, .bool x6, .int .i64 x7, .string x8, .string x9, .int .i64 x10, .int .i64 x11] 49)).alloc (.cells #[.int .i64 x0, .int .i64 x1, .int .i64 x2, .string x3, .string x4, .string x5, .bool x6, .int .i64 x7, .string x8, .string x9, .int .i64 x10, .int .i64 x11] 49)) := kW.alloc kW.size _
        have HRow : Hid (World.ownsRow ((wr.alloc (.cells #[.int .i64 x0, .int .i64 x1, .int .i64 x2, .string x3, .string x4, .string x5, .bool x6, .int .i64 x7, .string x8, .string x9, .int .i64 x10, .int .i64 x11] 49)).alloc (.cells #[.int .i64 x0, .int .i64 x1, .int .i64 x2, .string x3, .string x4, .string x5, .bool x6, .int .i64 x7, .string x8, .string x9, .int .i64 x10, .int .i64 x11] 49)) w.heap.size 49 12 (.slice va i vc) M.length (rcells M)) := hidIt (HO.out.kept kA)
        have HAl := hidIt kA
        have HFr : Hid (∀ j u, (rcells [((x0, x1, x2, x3, x4, x5, x6, x7, x8, x9, x10, x11) : Rw)])[j]? = some u → ((wr.alloc (.cells #[.int .i64 x0, .int .i64 x1, .int .i64 x2, .string x3, .string x4, .string x5, .bool x6, .int .i64 x7, .string x8, .string x9, .int .i64 x10, .int .i64 x11] 49)).alloc (.cells #[.int .i64 x0, .int .i64 x1, .int .i64 x2, .string x3, .string x4, .string x5, .bool x6, .int .i64 x7, .string x8, .string x9, .int .i64 x10, .int .i64 x11] 49)).cell? ((⟨wr.heap.size + 1, 0, none⟩ : Addr).add j) = some u) := hidIt (fun j u hj => by
          have z := fresh (wr.alloc (.cells #[.int .i64 x0, .int .i64 x1, .int .i64 x2, .string x3, .string x4, .string x5, .bool x6, .int .i64 x7, .string x8, .string x9, .int .i64 x10, .int .i64 x11] 49)) (x0, x1, x2, x3, x4, x5, x6, x7, x8, x9, x10, x11) 49 j u hj
          have z2 : (wr.alloc (.cells #[.int .i64 x0, .int .i64 x1, .int .i64 x2, .string x3, .string x4, .string x5, .bool x6, .int .i64 x7, .string x8, .string x9, .int .i64 x10, .int .i64 x11] 49)).heap.size = wr.heap.size + 1 := by simp
          rw [z2] at z
          exact z)
        clear hM kW kA
        go_wp2_with (first | (at_builtin; refine wpList_append_own _ rfl _ _ 26 rfl w.heap.size 49 i0 (.agg #[.int .i64 0, .int .i64 0, .int .i64 0, .string ByteArray.empty, .string ByteArray.empty, .string ByteArray.empty, .bool false, .int .i64 0, .string ByteArray.empty, .string ByteArray.empty, .int .i64 0, .int .i64 0]) 12 136 Try.underlying26 hi0 hz0 hz1 hz2 rfl (by decide) _ _ _ rfl HRow.out ⟨wr.heap.size + 1, 0, none⟩ 1 1 [.int .i64 x0, .int .i64 x1, .int .i64 x2, .string x3, .string x4, .string x5, .bool x6, .int .i64 x7, .string x8, .string x9, .int .i64 x10, .int .i64 x11] rfl rfl HFr.out (rcells_one [(x0, x1, x2, x3, x4, x5, x6, x7, x8, x9, x10, x11)]) ?ca1 ?ca2 ?ca3 ?_) | fail)
        case ca1 => unfold maxLen; rw [HLn.out]; omega
        case ca2 => rw [HLn.out]; omega
        case ca3 => exact Nat.le_trans HB.out.size HAl.out.size
        intro v' w9 hown hgrow hnil
        have oo : Own w9 w.heap.size v' ((L.take (i + 1)).map (bliA R)) := by rw [HM2.out]; exact Own.more (L := M) (M := [(x0, x1, x2, x3, x4, x5, x6, x7, x8, x9, x10, x11)]) hown
        have kG : Below w.heap.size w w9 := (HB.out.trans (HAl.out.mono HB.out.size)).trans (grown_below (L := M) HRow.out hgrow (Nat.le_refl _) (Nat.le_trans HB.out.size HAl.out.size))
        obtain ⟨za, zc, ez, _⟩ := oo.formN (m := i + 1) (by rw [List.length_map, List.length_take, HN.out]; omega)
        subst ez
        have HO9 := hidIt oo
        have HB9 := hidIt kG
        clear hown hgrow hnil oo kG HRow HFr HAl HM2
        go_wp2_with (fail)
        exact ⟨⟨i + 1, za, zc, by simp, rfl, by omega, HO9, HB9⟩, by simp [intOf]; omega⟩
      | true =>
      have h4 : (4 : Int) ≤ (x4.size : Int) := by have := of_decide_eq_true hg2; omega
      cases hg3 : ((x4.extract 0 4).toList == [115, 118, 99, 47]) with
      | false =>
        have HSE : Hid (secB R (x0, x1, x2, x3, x4, x5, x6, x7, x8, x9, x10, x11) = false) := hidIt (by rw [HS.out]; simp [hg0, hg1, hg2, hg3])
        have hM : (L.take (i + 1)).map (bliA R) = M ++ [(x0, x1, x2, x3, x4, x5, x6, x7, x8, x9, x10, x11)] := by rw [HTK.out, HX.out]; simp only [List.map_append, List.map_cons, List.map_nil]; rw [HMe.out, bliA_no (by first | exact HSE.out | simp [HSE.out])]
        have HM2 := hidIt hM
        have kW : Below wr.heap.size wr (wr.alloc (.cells #[.int .i64 x0, .int .i64 x1, .int .i64 x2, .string x3, .string x4, .string x5, .bool x6, .int .i64 x7, .string x8, .string x9, .int .i64 x10, .int .i64 x11] 49)) := (Below.refl _ _).alloc (Nat.le_refl _) _
        have kA : Below wr.heap.size wr ((wr.alloc (.cells #[.int .i64 x0, .int .i64 x1, .int .i64 x2, .string x3, .string x4, .string x5, .bool x6, .int .i64 x7, .string x8, .string x9, .int .i64 x10, .int .i64 x11] 49)).alloc (.cells #[.int .i64 x0, .int .i64 x1, .int .i64 x2, .string x3, .string x4, .string x5, .bool x6, .int .i64 x7, .string x8, .string x9, .int .i64 x10, .int .i64 x11] 49)) := kW.alloc kW.size _
        have HRow : Hid (World.ownsRow ((wr.alloc (.cells #[.int .i64 x0, .int .i64 x1, .int .i64 x2, .string x3, .string x4, .string x5, .bool x6, .int .i64 x7, .string x8, .string x9, .int .i64 x10, .int .i64 x11] 49)).alloc (.cells #[.int .i64 x0, .int .i64 x1, .int .i64 x2, .string x3, .string x4, .string x5, .bool x6, .int .i64 x7, .string x8, .string x9, .int .i64 x10, .int .i64 x11] 49)) w.heap.size 49 12 (.slice va i vc) M.length (rcells M)) := hidIt (HO.out.kept kA)
        have HAl := hidIt kA
        have HFr : Hid (∀ j u, (rcells [((x0, x1, x2, x3, x4, x5, x6, x7, x8, x9, x10, x11) : Rw)])[j]? = some u → ((wr.alloc (.cells #[.int .i64 x0, .int .i64 x1, .int .i64 x2, .string x3, .string x4, .string x5, .bool x6, .int .i64 x7, .string x8, .string x9, .int .i64 x10, .int .i64 x11] 49)).alloc (.cells #[.int .i64 x0, .int .i64 x1, .int .i64 x2, .string x3, .string x4, .string x5, .bool x6, .int .i64 x7, .string x8, .string x9, .int .i64 x10, .int .i64 x11] 49)).cell? ((⟨wr.heap.size + 1, 0, none⟩ : Addr).add j) = some u) := hidIt (fun j u hj => by
          have z := fresh (wr.alloc (.cells #[.int .i64 x0, .int .i64 x1, .int .i64 x2, .string x3, .string x4, .string x5, .bool x6, .int .i64 x7, .string x8, .string x9, .int .i64 x10, .int .i64 x11] 49)) (x0, x1, x2, x3, x4, x5, x6, x7, x8, x9, x10, x11) 49 j u hj
          have z2 : (wr.alloc (.cells #[.int .i64 x0, .int .i64 x1, .int .i64 x2, .string x3, .string x4, .string x5, .bool x6, .int .i64 x7, .string x8, .string x9, .int .i64 x10, .int .i64 x11] 49)).heap.size = wr.heap.size + 1 := by simp
          rw [z2] at z
          exact z)
        clear hM kW kA
        go_wp2_with (first | (at_builtin; refine wpList_append_own _ rfl _ _ 26 rfl w.heap.size 49 i0 (.agg #[.int .i64 0, .int .i64 0, .int .i64 0, .string ByteArray.empty, .string ByteArray.empty, .string ByteArray.empty, .bool false, .int .i64 0, .string ByteArray.empty, .string ByteArray.empty, .int .i64 0, .int .i64 0]) 12 136 Try.underlying26 hi0 hz0 hz1 hz2 rfl (by decide) _ _ _ rfl HRow.out ⟨wr.heap.size + 1, 0, none⟩ 1 1 [.int .i64 x0, .int .i64 x1, .int .i64 x2, .string x3, .string x4, .string x5, .bool x6, .int .i64 x7, .string x8, .string x9, .int .i64 x10, .int .i64 x11] rfl rfl HFr.out (rcells_one [(x0, x1, x2, x3, x4, x5, x6, x7, x8, x9, x10, x11)]) ?ca1 ?ca2 ?ca3 ?_) | fail)
        case ca1 => unfold maxLen; rw [HLn.out]; omega
        case ca2 => rw [HLn.out]; omega
        case ca3 => exact Nat.le_trans HB.out.size HAl.out.size
        intro v' w9 hown hgrow hnil
        have oo : Own w9 w.heap.size v' ((L.take (i + 1)).map (bliA R)) := by rw [HM2.out]; exact Own.more (L := M) (M := [(x0, x1, x2, x3, x4, x5, x6, x7, x8, x9, x10, x11)]) hown
        have kG : Below w.heap.size w w9 := (HB.out.trans (HAl.out.mono HB.out.size)).trans (grown_below (L := M) HRow.out hgrow (Nat.le_refl _) (Nat.le_trans HB.out.size HAl.out.size))
        obtain ⟨za, zc, ez, _⟩ := oo.formN (m := i + 1) (by rw [List.length_map, List.length_take, HN.out]; omega)
        subst ez
        have HO9 := hidIt oo
        have HB9 := hidIt kG
        clear hown hgrow hnil oo kG HRow HFr HAl HM2
        go_wp2_with (fail)
        exact ⟨⟨i + 1, za, zc, by simp, rfl, by omega, HO9, HB9⟩, by simp [intOf]; omega⟩
      | true =>
      have BX := hidIt (Bo.Box.new wr #[.int .i64 x0, .int .i64 x1, .int .i64 x2, .string x3, .string x4, .string x5, .bool x6, .int .i64 x7, .string x8, .string x9, .int .i64 x10, .int .i64 x11] 49)
      have kA0 : Below wr.heap.size wr (wr.alloc (.cells #[.int .i64 x0, .int .i64 x1, .int .i64 x2, .string x3, .string x4, .string x5, .bool x6, .int .i64 x7, .string x8, .string x9, .int .i64 x10, .int .i64 x11] 49)) := (Below.refl _ _).alloc (Nat.le_refl _) _
      have KA0 := hidIt kA0
      have CMx := hidIt (CM.out x4 _ (HB.out.trans (kA0.mono HB.out.size)) hs4)
      obtain ⟨mb, HMB⟩ : ∃ b, Hid (Ru.mayR R (Ru.bs x4) false = b) := ⟨_, hidIt rfl⟩
      rw [HMB.out] at CMx HS
      clear kA0
      go_wp2_with (fail)
      generalize wr.alloc (.cells #[.int .i64 x0, .int .i64 x1, .int .i64 x2, .string x3, .string x4, .string x5, .bool x6, .int .i64 x7, .string x8, .string x9, .int .i64 x10, .int .i64 x11] 49) = W0 at BX KA0 CMx ⊢
      refine CMx.out.mono ?_
      rintro e w1 ⟨rfl, kk⟩
      have k1 : Below wr.heap.size wr w1 := KA0.out.trans (kk.mono KA0.out.size)
      have BX1 := hidIt (BX.out.kept kk)
      clear kk BX KA0 CMx c0 c1 c2 c3 c4 c5 c6 c7 c8 c9 c10 c11
      have d0 := BX1.out.c 0 (v := .int .i64 x0) rfl
      have d1 := BX1.out.c 1 (v := .int .i64 x1) rfl
      have d2 := BX1.out.c 2 (v := .int .i64 x2) rfl
      have d3 := BX1.out.c 3 (v := .string x3) rfl
      have d4 := BX1.out.c 4 (v := .string x4) rfl
      have d5 := BX1.out.c 5 (v := .string x5) rfl
      have d6 := BX1.out.c 6 (v := .bool x6) rfl
      have d7 := BX1.out.c 7 (v := .int .i64 x7) rfl
      have d8 := BX1.out.c 8 (v := .string x8) rfl
      have d9 := BX1.out.c 9 (v := .string x9) rfl
      have d10 := BX1.out.c 10 (v := .int .i64 x10) rfl
      have d11 := BX1.out.c 11 (v := .int .i64 x11) rfl
      cases mb with
      | true =>
        have HSE : Hid (secB R (x0, x1, x2, x3, x4, x5, x6, x7, x8, x9, x10, x11) = false) := hidIt (by rw [HS.out]; simp)
        have hM : (L.take (i + 1)).map (bliA R) = M ++ [(x0, x1, x2, x3, x4, x5, x6, x7, x8, x9, x10, x11)] := by rw [HTK.out, HX.out]; simp only [List.map_append, List.map_cons, List.map_nil]; rw [HMe.out, bliA_no (by first | exact HSE.out | simp [HSE.out])]
        have HM2 := hidIt hM
        have kW : Below wr.heap.size wr (w1) := k1
        have kA : Below wr.heap.size wr ((w1).alloc (.cells #[.int .i64 x0, .int .i64 x1, .int .i64 x2, .string x3, .string x4, .string x5, .bool x6, .int .i64 x7, .string x8, .string x9, .int .i64 x10, .int .i64 x11] 49)) := kW.alloc kW.size _
        have HRow : Hid (World.ownsRow ((w1).alloc (.cells #[.int .i64 x0, .int .i64 x1, .int .i64 x2, .string x3, .string x4, .string x5, .bool x6, .int .i64 x7, .string x8, .string x9, .int .i64 x10, .int .i64 x11] 49)) w.heap.size 49 12 (.slice va i vc) M.length (rcells M)) := hidIt (HO.out.kept kA)
        have HAl := hidIt kA
        have HFr : Hid (∀ j u, (rcells [((x0, x1, x2, x3, x4, x5, x6, x7, x8, x9, x10, x11) : Rw)])[j]? = some u → ((w1).alloc (.cells #[.int .i64 x0, .int .i64 x1, .int .i64 x2, .string x3, .string x4, .string x5, .bool x6, .int .i64 x7, .string x8, .string x9, .int .i64 x10, .int .i64 x11] 49)).cell? ((⟨w1.heap.size, 0, none⟩ : Addr).add j) = some u) := hidIt (fun j u hj => by
          have z := fresh (w1) (x0, x1, x2, x3, x4, x5, x6, x7, x8, x9, x10, x11) 49 j u hj
          have z2 : (w1).heap.size = w1.heap.size := by rfl
          rw [z2] at z
          exact z)
        clear hM kW kA
        go_wp2_with (first | (at_builtin; refine wpList_append_own _ rfl _ _ 26 rfl w.heap.size 49 i0 (.agg #[.int .i64 0, .int .i64 0, .int .i64 0, .string ByteArray.empty, .string ByteArray.empty, .string ByteArray.empty, .bool false, .int .i64 0, .string ByteArray.empty, .string ByteArray.empty, .int .i64 0, .int .i64 0]) 12 136 Try.underlying26 hi0 hz0 hz1 hz2 rfl (by decide) _ _ _ rfl HRow.out ⟨w1.heap.size, 0, none⟩ 1 1 [.int .i64 x0, .int .i64 x1, .int .i64 x2, .string x3, .string x4, .string x5, .bool x6, .int .i64 x7, .string x8, .string x9, .int .i64 x10, .int .i64 x11] rfl rfl HFr.out (rcells_one [(x0, x1, x2, x3, x4, x5, x6, x7, x8, x9, x10, x11)]) ?ca1 ?ca2 ?ca3 ?_) | fail)
        case ca1 => unfold maxLen; rw [HLn.out]; omega
        case ca2 => rw [HLn.out]; omega
        case ca3 => exact Nat.le_trans HB.out.size HAl.out.size
        intro v' w9 hown hgrow hnil
        have oo : Own w9 w.heap.size v' ((L.take (i + 1)).map (bliA R)) := by rw [HM2.out]; exact Own.more (L := M) (M := [(x0, x1, x2, x3, x4, x5, x6, x7, x8, x9, x10, x11)]) hown
        have kG : Below w.heap.size w w9 := (HB.out.trans (HAl.out.mono HB.out.size)).trans (grown_below (L := M) HRow.out hgrow (Nat.le_refl _) (Nat.le_trans HB.out.size HAl.out.size))
        obtain ⟨za, zc, ez, _⟩ := oo.formN (m := i + 1) (by rw [List.length_map, List.length_take, HN.out]; omega)
        subst ez
        have HO9 := hidIt oo
        have HB9 := hidIt kG
        clear hown hgrow hnil oo kG HRow HFr HAl HM2
        go_wp2_with (fail)
        exact ⟨⟨i + 1, za, zc, by simp, rfl, by omega, HO9, HB9⟩, by simp [intOf]; omega⟩
      | false =>
      cases x6 with
      | true =>
        have HSE : Hid (secB R (x0, x1, x2, x3, x4, x5, true, x7, x8, x9, x10, x11) = false) := hidIt (by rw [HS.out]; simp)
        have hM : (L.take (i + 1)).map (bliA R) = M ++ [(x0, x1, x2, x3, x4, x5, true, x7, x8, x9, x10, x11)] := by rw [HTK.out, HX.out]; simp only [List.map_append, List.map_cons, List.map_nil]; rw [HMe.out, bliA_no (by first | exact HSE.out | simp [HSE.out])]
        have HM2 := hidIt hM
        have kW : Below wr.heap.size wr (w1) := k1
        have kA : Below wr.heap.size wr ((w1).alloc (.cells #[.int .i64 x0, .int .i64 x1, .int .i64 x2, .string x3, .string x4, .string x5, .bool true, .int .i64 x7, .string x8, .string x9, .int .i64 x10, .int .i64 x11] 49)) := kW.alloc kW.size _
        have HRow : Hid (World.ownsRow ((w1).alloc (.cells #[.int .i64 x0, .int .i64 x1, .int .i64 x2, .string x3, .string x4, .string x5, .bool true, .int .i64 x7, .string x8, .string x9, .int .i64 x10, .int .i64 x11] 49)) w.heap.size 49 12 (.slice va i vc) M.length (rcells M)) := hidIt (HO.out.kept kA)
        have HAl := hidIt kA
        have HFr : Hid (∀ j u, (rcells [((x0, x1, x2, x3, x4, x5, true, x7, x8, x9, x10, x11) : Rw)])[j]? = some u → ((w1).alloc (.cells #[.int .i64 x0, .int .i64 x1, .int .i64 x2, .string x3, .string x4, .string x5, .bool true, .int .i64 x7, .string x8, .string x9, .int .i64 x10, .int .i64 x11] 49)).cell? ((⟨w1.heap.size, 0, none⟩ : Addr).add j) = some u) := hidIt (fun j u hj => by
          have z := fresh (w1) (x0, x1, x2, x3, x4, x5, true, x7, x8, x9, x10, x11) 49 j u hj
          have z2 : (w1).heap.size = w1.heap.size := by rfl
          rw [z2] at z
          exact z)
        clear hM kW kA
        go_wp2_with (first | (at_builtin; refine wpList_append_own _ rfl _ _ 26 rfl w.heap.size 49 i0 (.agg #[.int .i64 0, .int .i64 0, .int .i64 0, .string ByteArray.empty, .string ByteArray.empty, .string ByteArray.empty, .bool false, .int .i64 0, .string ByteArray.empty, .string ByteArray.empty, .int .i64 0, .int .i64 0]) 12 136 Try.underlying26 hi0 hz0 hz1 hz2 rfl (by decide) _ _ _ rfl HRow.out ⟨w1.heap.size, 0, none⟩ 1 1 [.int .i64 x0, .int .i64 x1, .int .i64 x2, .string x3, .string x4, .string x5, .bool true, .int .i64 x7, .string x8, .string x9, .int .i64 x10, .int .i64 x11] rfl rfl HFr.out (rcells_one [(x0, x1, x2, x3, x4, x5, true, x7, x8, x9, x10, x11)]) ?ca1 ?ca2 ?ca3 ?_) | fail)
        case ca1 => unfold maxLen; rw [HLn.out]; omega
        case ca2 => rw [HLn.out]; omega
        case ca3 => exact Nat.le_trans HB.out.size HAl.out.size
        intro v' w9 hown hgrow hnil
        have oo : Own w9 w.heap.size v' ((L.take (i + 1)).map (bliA R)) := by rw [HM2.out]; exact Own.more (L := M) (M := [(x0, x1, x2, x3, x4, x5, true, x7, x8, x9, x10, x11)]) hown
        have kG : Below w.heap.size w w9 := (HB.out.trans (HAl.out.mono HB.out.size)).trans (grown_below (L := M) HRow.out hgrow (Nat.le_refl _) (Nat.le_trans HB.out.size HAl.out.size))
        obtain ⟨za, zc, ez, _⟩ := oo.formN (m := i + 1) (by rw [List.length_map, List.length_take, HN.out]; omega)
        subst ez
        have HO9 := hidIt oo
        have HB9 := hidIt kG
        clear hown hgrow hnil oo kG HRow HFr HAl HM2
        go_wp2_with (fail)
        exact ⟨⟨i + 1, za, zc, by simp, rfl, by omega, HO9, HB9⟩, by simp [intOf]; omega⟩
      | false =>
      cases hg6 : decide ((x5.size : Int) ≤ 40) with
      | false =>
        have HSE : Hid (secB R (x0, x1, x2, x3, x4, x5, false, x7, x8, x9, x10, x11) = false) := hidIt (by rw [HS.out]; simp [hg6])
        have hM : (L.take (i + 1)).map (bliA R) = M ++ [(x0, x1, x2, x3, x4, x5, false, x7, x8, x9, x10, x11)] := by rw [HTK.out, HX.out]; simp only [List.map_append, List.map_cons, List.map_nil]; rw [HMe.out, bliA_no (by first | exact HSE.out | simp [HSE.out])]
        have HM2 := hidIt hM
        have kW : Below wr.heap.size wr (w1) := k1
        have kA : Below wr.heap.size wr ((w1).alloc (.cells #[.int .i64 x0, .int .i64 x1, .int .i64 x2, .string x3, .string x4, .string x5, .bool false, .int .i64 x7, .string x8, .string x9, .int .i64 x10, .int .i64 x11] 49)) := kW.alloc kW.size _
        have HRow : Hid (World.ownsRow ((w1).alloc (.cells #[.int .i64 x0, .int .i64 x1, .int .i64 x2, .string x3, .string x4, .string x5, .bool false, .int .i64 x7, .string x8, .string x9, .int .i64 x10, .int .i64 x11] 49)) w.heap.size 49 12 (.slice va i vc) M.length (rcells M)) := hidIt (HO.out.kept kA)
        have HAl := hidIt kA
        have HFr : Hid (∀ j u, (rcells [((x0, x1, x2, x3, x4, x5, false, x7, x8, x9, x10, x11) : Rw)])[j]? = some u → ((w1).alloc (.cells #[.int .i64 x0, .int .i64 x1, .int .i64 x2, .string x3, .string x4, .string x5, .bool false, .int .i64 x7, .string x8, .string x9, .int .i64 x10, .int .i64 x11] 49)).cell? ((⟨w1.heap.size, 0, none⟩ : Addr).add j) = some u) := hidIt (fun j u hj => by
          have z := fresh (w1) (x0, x1, x2, x3, x4, x5, false, x7, x8, x9, x10, x11) 49 j u hj
          have z2 : (w1).heap.size = w1.heap.size := by rfl
          rw [z2] at z
          exact z)
        clear hM kW kA
        go_wp2_with (first | (at_builtin; refine wpList_append_own _ rfl _ _ 26 rfl w.heap.size 49 i0 (.agg #[.int .i64 0, .int .i64 0, .int .i64 0, .string ByteArray.empty, .string ByteArray.empty, .string ByteArray.empty, .bool false, .int .i64 0, .string ByteArray.empty, .string ByteArray.empty, .int .i64 0, .int .i64 0]) 12 136 Try.underlying26 hi0 hz0 hz1 hz2 rfl (by decide) _ _ _ rfl HRow.out ⟨w1.heap.size, 0, none⟩ 1 1 [.int .i64 x0, .int .i64 x1, .int .i64 x2, .string x3, .string x4, .string x5, .bool false, .int .i64 x7, .string x8, .string x9, .int .i64 x10, .int .i64 x11] rfl rfl HFr.out (rcells_one [(x0, x1, x2, x3, x4, x5, false, x7, x8, x9, x10, x11)]) ?ca1 ?ca2 ?ca3 ?_) | fail)
        case ca1 => unfold maxLen; rw [HLn.out]; omega
        case ca2 => rw [HLn.out]; omega
        case ca3 => exact Nat.le_trans HB.out.size HAl.out.size
        intro v' w9 hown hgrow hnil
        have oo : Own w9 w.heap.size v' ((L.take (i + 1)).map (bliA R)) := by rw [HM2.out]; exact Own.more (L := M) (M := [(x0, x1, x2, x3, x4, x5, false, x7, x8, x9, x10, x11)]) hown
        have kG : Below w.heap.size w w9 := (HB.out.trans (HAl.out.mono HB.out.size)).trans (grown_below (L := M) HRow.out hgrow (Nat.le_refl _) (Nat.le_trans HB.out.size HAl.out.size))
        obtain ⟨za, zc, ez, _⟩ := oo.formN (m := i + 1) (by rw [List.length_map, List.length_take, HN.out]; omega)
        subst ez
        have HO9 := hidIt oo
        have HB9 := hidIt kG
        clear hown hgrow hnil oo kG HRow HFr HAl HM2
        go_wp2_with (fail)
        exact ⟨⟨i + 1, za, zc, by simp, rfl, by omega, HO9, HB9⟩, by simp [intOf]; omega⟩
      | true =>
        have HSE : Hid (secB R (x0, x1, x2, x3, x4, x5, false, x7, x8, x9, x10, x11) = true) := hidIt (by rw [HS.out]; simp [hg0, hg1, hg2, hg3, hg6])
        have hM : (L.take (i + 1)).map (bliA R) = M ++ [(x0, x1, x2, x3, x4, ⟨#[45]⟩, false, x7, x8, x9, x10, x11)] := by rw [HTK.out, HX.out]; simp only [List.map_append, List.map_cons, List.map_nil]; rw [HMe.out, bliA_yes (by first | exact HSE.out | simp [HSE.out])]
        have HM2 := hidIt hM
        have kW : Below wr.heap.size wr (w1.setCell ⟨wr.heap.size, 5, none⟩ (.string ⟨#[45]⟩)) := k1.setCell (p := ⟨wr.heap.size, 5, none⟩) (Nat.le_refl _) _
        have kA : Below wr.heap.size wr ((w1.setCell ⟨wr.heap.size, 5, none⟩ (.string ⟨#[45]⟩)).alloc (.cells #[.int .i64 x0, .int .i64 x1, .int .i64 x2, .string x3, .string x4, .string ⟨#[45]⟩, .bool false, .int .i64 x7, .string x8, .string x9, .int .i64 x10, .int .i64 x11] 49)) := kW.alloc kW.size _
        have HRow : Hid (World.ownsRow ((w1.setCell ⟨wr.heap.size, 5, none⟩ (.string ⟨#[45]⟩)).alloc (.cells #[.int .i64 x0, .int .i64 x1, .int .i64 x2, .string x3, .string x4, .string ⟨#[45]⟩, .bool false, .int .i64 x7, .string x8, .string x9, .int .i64 x10, .int .i64 x11] 49)) w.heap.size 49 12 (.slice va i vc) M.length (rcells M)) := hidIt (HO.out.kept kA)
        have HAl := hidIt kA
        have HFr : Hid (∀ j u, (rcells [((x0, x1, x2, x3, x4, ⟨#[45]⟩, false, x7, x8, x9, x10, x11) : Rw)])[j]? = some u → ((w1.setCell ⟨wr.heap.size, 5, none⟩ (.string ⟨#[45]⟩)).alloc (.cells #[.int .i64 x0, .int .i64 x1, .int .i64 x2, .string x3, .string x4, .string ⟨#[45]⟩, .bool false, .int .i64 x7, .string x8, .string x9, .int .i64 x10, .int .i64 x11] 49)).cell? ((⟨w1.heap.size, 0, none⟩ : Addr).add j) = some u) := hidIt (fun j u hj => by
          have z := fresh (w1.setCell ⟨wr.heap.size, 5, none⟩ (.string ⟨#[45]⟩)) (x0, x1, x2, x3, x4, ⟨#[45]⟩, false, x7, x8, x9, x10, x11) 49 j u hj
          have z2 : (w1.setCell ⟨wr.heap.size, 5, none⟩ (.string ⟨#[45]⟩)).heap.size = w1.heap.size := by simp [World.setCell]
          rw [z2] at z
          exact z)
        clear hM kW kA
        have f5 := BX1.out.fr 5
        go_wp2_with (first | (at_builtin; refine wpList_append_own _ rfl _ _ 26 rfl w.heap.size 49 i0 (.agg #[.int .i64 0, .int .i64 0, .int .i64 0, .string ByteArray.empty, .string ByteArray.empty, .string ByteArray.empty, .bool false, .int .i64 0, .string ByteArray.empty, .string ByteArray.empty, .int .i64 0, .int .i64 0]) 12 136 Try.underlying26 hi0 hz0 hz1 hz2 rfl (by decide) _ _ _ rfl HRow.out ⟨w1.heap.size, 0, none⟩ 1 1 [.int .i64 x0, .int .i64 x1, .int .i64 x2, .string x3, .string x4, .string ⟨#[45]⟩, .bool false, .int .i64 x7, .string x8, .string x9, .int .i64 x10, .int .i64 x11] rfl rfl HFr.out (rcells_one [(x0, x1, x2, x3, x4, ⟨#[45]⟩, false, x7, x8, x9, x10, x11)]) ?ca1 ?ca2 ?ca3 ?_) | fail)
        case ca1 => unfold maxLen; rw [HLn.out]; omega
        case ca2 => rw [HLn.out]; omega
        case ca3 => exact Nat.le_trans HB.out.size HAl.out.size
        intro v' w9 hown hgrow hnil
        have oo : Own w9 w.heap.size v' ((L.take (i + 1)).map (bliA R)) := by rw [HM2.out]; exact Own.more (L := M) (M := [(x0, x1, x2, x3, x4, ⟨#[45]⟩, false, x7, x8, x9, x10, x11)]) hown
        have kG : Below w.heap.size w w9 := (HB.out.trans (HAl.out.mono HB.out.size)).trans (grown_below (L := M) HRow.out hgrow (Nat.le_refl _) (Nat.le_trans HB.out.size HAl.out.size))
        obtain ⟨za, zc, ez, _⟩ := oo.formN (m := i + 1) (by rw [List.length_map, List.length_take, HN.out]; omega)
        subst ez
        have HO9 := hidIt oo
        have HB9 := hidIt kG
        clear hown hgrow hnil oo kG HRow HFr HAl HM2
        go_wp2_with (fail)
        exact ⟨⟨i + 1, za, zc, by simp, rfl, by omega, HO9, HB9⟩, by simp [intOf]; omega⟩
    · have hin' : ¬ (i : Int) < (m : Int) := by omega
      obtain rfl : i = m := by omega
      go_wp2_with (fail)
      go_ret
      exact ⟨_, rfl, by rw [HAn.out]; exact HO.out, HB.out⟩
end Go.Proofs.Ytbdibkcamomgpaa.Ac
