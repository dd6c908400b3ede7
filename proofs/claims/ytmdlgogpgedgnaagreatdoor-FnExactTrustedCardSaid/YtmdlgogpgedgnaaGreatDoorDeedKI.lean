/-
  KeysText of the program (a strings.Builder; a fault where something is not as told).
-/
import Derived.Test.YtmdlgogpgedgnaaGreatDoorDeedI
import Derived.Test.YtmdlgogpgedgnaaGreatDoorSenM
import Derived.Test.YtmdlgogpgedgnaaGreatDoorBldM
namespace Go.Proofs.YtmdlgogpgedgnaaGreatDoor.Dd
open Go.ChangeShapes Go.WideShapes Go.ChangeAt Go.RowKit
open Cv Cu Sg
open Go.Proofs.YtmdlgogpgedgnaaGreatDoor.Pt (Ln lat)
open Go.Proofs.YtmdlgogpgedgnaaGreatDoor.Bl (Bld Bld.new Bld.kept writeString_any string_any)
open Go.Proofs.YtmdlgogpgedgnaaGreatDoor.Bo (Box Box.new Box.newAt Box.kept Box.alloc Box.put Box.other Box.c Box.drew)
set_option linter.unusedVariables false
theorem keys_fit {L : List Ln} (h : ¬ L.length ≤ 4) : keysB L = false := by
  unfold keysB
  rw [decide_eq_false h, Bool.and_false]
theorem keysT_no {L : List Ln} (h : keysB L = false) : keysT L = ⟨#[]⟩ := by
  unfold keysT
  rw [h]
  rfl
theorem keysT_yes {L : List Ln} (h : keysB L = true) : keysT L = ktx L := by
  unfold keysT
  rw [h]
  rfl
theorem ktx_len {L : List Ln} {i : Nat} (h : (L.take i).all okP = true) (hi : i ≤ L.length) (h4 : L.length ≤ 4) : (ktx (L.take i)).size ≤ 176 := by
  have e : ∀ j, j < (L.take i).length → okP (lat (L.take i) j) = true := fun j hj => by
    rw [lat_eq hj]
    exact List.all_eq_true.1 h _ (List.getElem_mem hj)
  have := ktx_size e (L.take i).length (Nat.le_refl _)
  rw [List.take_length, List.length_take] at this
  omega
set_option maxRecDepth 100000 in
set_option maxHeartbeats 4000000 in
theorem impl_keysText (a : Option Addr) (cap : Nat) (L : List Ln) (eN eM : Addr) (w : World) (h : Pt.Rd w a L) (ht : Tab w) (hN : Se.At w 0 eN) (hM : Se.At w 2 eM) (hl : L.length ≤ 9223372036854775806) :
    Calls Tryz.prog 31 #[.slice a L.length cap] w fun e w' => ∃ v r, e = .returned (.tuple #[.string (keysT L), v]) ∧ Se.Res w' v r ∧ r.isNone = keysB L ∧ Below w.heap.size w w' := by
  by_cases h4 : L.length ≤ 4
  · have hbad : Hid (∀ i, i < L.length → okP (lat L i) = false → keysB L = false ∧ keysT L = ⟨#[]⟩) := hidIt (fun i hi k => ⟨keys_bad hi k, keysT_no (keys_bad hi k)⟩)
    have hend : Hid ((L.take L.length).all okP = true → keysB L = true ∧ keysT L = ktx (L.take L.length)) := hidIt (fun k => by
      have e : keysB L = true := by rw [keys_end k]; exact decide_eq_true h4
      exact ⟨e, by rw [keysT_yes e, List.take_length]⟩)
    have hst : Hid (∀ i, i < L.length → (L.take i).all okP = true → okP (lat L i) = true → (L.take (i + 1)).all okP = true) := hidIt (fun i hi h1 h2 => Nm.all_take hi h1 (by rw [← lat_eq hi]; exact h2))
    have htk : Hid (∀ i, i < L.length → ktx (L.take (i + 1)) = ktx (L.take i) ++ ptS (lat L i).1.toNat (lat L i).2.toNat) := hidIt (fun i hi => ktx_take hi)
    have hsz : Hid (∀ i, i ≤ L.length → (L.take i).all okP = true → (ktx (L.take i)).size ≤ 176) := hidIt (fun i hi k => ktx_len k hi h4)
    have HR := hidIt h
    have HT := hidIt ht
    have HN := hidIt hN
    clear h ht hN hM
    generalize keysB L = kb at hbad hend ⊢
    generalize keysT L = kt at hbad hend ⊢
    generalize hn : L.length = n at *
    have HL := hidIt hn
    clear hn
    have g4 : ¬ (n : Int) > 4 := by omega
    have HD := hidIt (Bld.new w)
    go_enter Tryz.func31, Tryz.ntmps31
    go_wp2_with (fail)
    go_loopw [16] (fun y wx => ∃ i : Nat, y = .int .i64 i ∧ i ≤ n ∧ Hid ((L.take i).all okP = true) ∧ Hid (Bld wx w.heap.size w.heap.size (ktx (L.take i)).data.toList) ∧ Hid (Below w.heap.size w wx)) (fun y _ => (n - intOf y).toNat)
    case atStart => exact ⟨0, rfl, by omega, hidIt rfl, HD, hidIt ((Below.refl _ _).alloc (Nat.le_refl _) _)⟩
    case round =>
      obtain ⟨i, rfl, hi, HA, HDx, HBx⟩ := hrel
      have hs1 := hsz.out i hi HA.out
      rcases Nat.lt_or_ge i n with hin | hin
      · have g2 : (i : Int) < (n : Int) := by omega
        obtain ⟨b, off, rfl, c0, c1⟩ := (HR.out.kept HBx.out).cell i (by rw [HL.out]; exact hin)
        have HS := hidIt (htk.out i hin)
        have Hb := hidIt (hbad.out i hin)
        have Hs := hidIt (hst.out i hin HA.out)
        have hq : okP (lat L i) = okI (lat L i).1 (lat L i).2 := rfl
        rw [hq] at Hb Hs
        clear hq
        have HK := hidIt (fun W => impl_PointOk (lat L i).1 (lat L i).2 W)
        generalize lat L i = p at *
        obtain ⟨x, y⟩ := p
        simp only at HK c0 c1 Hb Hs HS
        have kA := (Below.refl wr.heap.size wr).alloc (Nat.le_refl _) (.cells #[.int .i64 x, .int .i64 y] 34)
        have BX := hidIt (Box.new wr #[.int .i64 x, .int .i64 y] 34)
        have HDy := hidIt (HDx.out.kept kA)
        have HBy := hidIt (HBx.out.trans (kA.mono HBx.out.size))
        clear kA
        cases hk : okI x y with
        | false =>
          rw [hk] at HK
          obtain ⟨rfl, rfl⟩ := Hb.out hk
          clear hk
          go_wp2_with (fail)
          refine (HK.out _).mono ?_
          rintro e w1 ⟨rfl, k⟩
          replace HBy := hidIt (HBy.out.trans (k.mono HBy.out.size))
          clear k
          have cN := (HN.out.kept HBy.out).c
          go_wp2_with (fail)
          go_region
          all_goals
            go_wp2_with (fail)
            refine bodyPost_ret (v := .tuple #[.string ⟨#[]⟩, .iface 70 (.pointer (some ⟨w1.heap.size, 0, none⟩))]) (by simp [results, Tryz.results31, go_sem]) rfl ⟨_, some (_, _), rfl, (Se.Res.newAt rfl).drew, rfl, (HBy.out.alloc HBy.out.size _).drew⟩
        | true =>
          rw [hk] at HK
          have HA3 := hidIt (Hs.out hk)
          obtain ⟨x, y, rfl, rfl, hxy⟩ := okI_nat hk
          have hle := ok_le hxy
          have hs2 := ptS_size x y hle.1 hle.2
          have ep : ptS x y = (numS x ++ ⟨#[32]⟩) ++ (numS y ++ ⟨#[32]⟩) := by unfold ptS; simp only [ByteArray.append_assoc]; rfl
          simp only [Int.toNat_natCast] at HS
          rw [ep] at HS hs2
          have CX := hidIt (fun W t => impl_withBlank x W hle.1 t)
          have CY := hidIt (fun W t => impl_withBlank y W hle.2 t)
          clear hk hxy hle ep
          rw [ByteArray.size_append] at hs2
          generalize numS x ++ ⟨#[32]⟩ = tx at CX HS hs2
          generalize numS y ++ ⟨#[32]⟩ = ty at CY HS hs2
          generalize ktx (L.take i) = v at HS hs1 HDy HDx
          have q1 : ¬ 9223372036854775807 < tx.size + ty.size := by omega
          go_wp2_with (fail)
          refine (HK.out _).mono ?_
          rintro e w1 ⟨rfl, k⟩
          replace HBy := hidIt (HBy.out.trans (k.mono HBy.out.size))
          replace HDy := hidIt (HDy.out.kept k)
          replace BX := hidIt (BX.out.kept k)
          clear k
          have d0 := BX.out.c 0 (v := .int .i64 x) rfl
          have d1 := BX.out.c 1 (v := .int .i64 y) rfl
          have HTz := hidIt (HT.out.kept HBy.out)
          have HTd := hidIt (HTz.out.kept ((Below.refl w1.heap.size w1).drew))
          go_upto_region 9 with fail
          go_region_with (first
            | (go_at_call 48; first
              | ((with_reducible refine (CX.out _ HTd.out).mono ?_); rintro e wA ⟨rfl, kA⟩; have k := (Below.refl w1.heap.size w1).drew.trans kA; have HBA := hidIt (HBy.out.trans (k.mono HBy.out.size)); have HDA := hidIt (HDy.out.kept k); have BXA := hidIt (BX.out.kept k); have HTA := hidIt (HTz.out.kept k); clear k kA; have d1A := BXA.out.c 1 (v := .int .i64 y) rfl)
              | ((with_reducible refine (CY.out _ HTA.out).mono ?_); rintro e wB ⟨rfl, k⟩; have HBB := hidIt (HBA.out.trans (k.mono HBA.out.size)); have HDB := hidIt (HDA.out.kept k); clear k))
            | (go_at_call 47; refine (writeString_any _ _ _ (tx ++ ty) _ HDB.out (by rw [Array.length_toList, ByteArray.size_append]; show v.size + (tx.size + ty.size) ≤ _; omega)).mono ?_; rintro e wC ⟨rfl, hD, k⟩; have HDC := hidIt hD; have HBC := hidIt (HBB.out.trans k); clear hD k))
          all_goals
            go_wp2_with (fail)
            refine ⟨⟨i + 1, by simp, by omega, HA3, hidIt ?_, HBC⟩, by simp [intOf]; omega⟩
            rw [HS.out, ByteArray.data_append, Array.toList_append]
            exact HDC.out
      · have g2 : ¬ (i : Int) < (n : Int) := by omega
        have e : i = n := by omega
        subst e
        obtain ⟨rfl, rfl⟩ := hend.out HA.out
        have CS := hidIt (string_any _ _ _ _ HDx.out)
        go_wp2_with (fail)
        refine CS.out.mono ?_
        rintro e w3 ⟨rfl, k3⟩
        have HB3 := hidIt (HBx.out.trans k3)
        go_wp2_with (fail)
        refine bodyPost_ret (v := .tuple #[.string ⟨(ktx (L.take i)).data.toList.toArray⟩, .nilIface]) (by simp [results, Tryz.results31, go_sem]) rfl ⟨_, _, rfl, Se.Res.none _, rfl, HB3.out⟩
  · rw [keysT_no (keys_fit h4), keys_fit h4]
    have cM := hM.c
    have HW := hidIt (Below.refl w.heap.size w)
    generalize hn : L.length = n at *
    have g4 : (n : Int) > 4 := by omega
    clear h ht hN hM
    go_enter Tryz.func31, Tryz.ntmps31
    go_wp2_with (fail)
    go_region
    all_goals
      go_wp2_with (fail)
      refine bodyPost_ret (v := .tuple #[.string ⟨#[]⟩, .iface 70 (.pointer (some ⟨w.heap.size, 0, none⟩))]) (by simp [results, Tryz.results31, go_sem]) rfl ⟨_, some (_, _), rfl, (Se.Res.newAt rfl).drew, rfl, (HW.out.alloc HW.out.size _).drew⟩
end Go.Proofs.YtmdlgogpgedgnaaGreatDoor.Dd
