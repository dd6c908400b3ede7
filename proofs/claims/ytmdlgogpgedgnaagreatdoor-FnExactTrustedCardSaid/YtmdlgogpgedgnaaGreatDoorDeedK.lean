/-
  A list of keys: whether all are Points, its text; KeysText of the specification.
-/
import Derived.Test.YtmdlgogpgedgnaaGreatDoorDeedS
import Derived.Test.YtmdlgogpgedgnaaGreatDoorPtP
import Derived.Test.YtmdlgogpgedgnaaGreatDoorAllN
import Derived.Test.YtmdlgogpgedgnaaGreatDoorCurveS
namespace Go.Proofs.YtmdlgogpgedgnaaGreatDoor.Dd
open Go.ChangeShapes Go.WideShapes Go.ChangeAt Go.RowKit
open Cv Cu Sg
open Go.Proofs.YtmdlgogpgedgnaaGreatDoor.Pt (Ln lat)
set_option linter.unusedVariables false
def okP (p : Ln) : Bool := okI p.1 p.2
def keysB (L : List Ln) : Bool := L.all okP && decide (L.length ≤ 4)
theorem lat_eq {L : List Ln} {i : Nat} (h : i < L.length) : lat L i = L[i] := by
  have := Pt.lat_getElem? h
  rw [List.getElem?_eq_getElem h] at this
  exact (Option.some.inj this).symm
theorem keys_bad {L : List Ln} {i : Nat} (hi : i < L.length) (h : okP (lat L i) = false) : keysB L = false := by
  unfold keysB
  rw [Nm.all_bad hi (by rw [← lat_eq hi]; exact h), Bool.false_and]
theorem keys_end {L : List Ln} (h : (L.take L.length).all okP = true) : keysB L = decide (L.length ≤ 4) := by
  unfold keysB
  rw [List.take_length] at h
  rw [h, Bool.true_and]
theorem keys_each {L : List Ln} (h : keysB L = true) : L.length ≤ 4 ∧ ∀ i, i < L.length → okP (lat L i) = true := by
  unfold keysB at h
  simp only [Bool.and_eq_true, decide_eq_true_eq] at h
  exact ⟨h.2, fun i hi => by rw [lat_eq hi]; exact List.all_eq_true.1 h.1 _ (List.getElem_mem hi)⟩
theorem okP_nat {p : Ln} (h : okP p = true) : ∃ a b : Nat, p = ((a : Int), (b : Int)) ∧ okN (a, b) = true := by
  obtain ⟨a, b, e1, e2, hk⟩ := okI_nat h
  exact ⟨a, b, by rw [← e1, ← e2], hk⟩
/-- The text of the keys. -/
def ktx (L : List Ln) : ByteArray := L.foldl (fun s p => s ++ ptS p.1.toNat p.2.toNat) ByteArray.empty
theorem ktx_nil : ktx [] = ByteArray.empty := rfl
theorem ktx_more (L : List Ln) (p : Ln) : ktx (L ++ [p]) = ktx L ++ ptS p.1.toNat p.2.toNat := by
  unfold ktx
  rw [List.foldl_append]
  rfl
theorem ktx_take {L : List Ln} {i : Nat} (hi : i < L.length) : ktx (L.take (i + 1)) = ktx (L.take i) ++ ptS (lat L i).1.toNat (lat L i).2.toNat := by
  rw [List.take_add_one, List.getElem?_eq_getElem hi, ← lat_eq hi]
  exact ktx_more _ _
theorem okP_size {p : Ln} (h : okP p = true) : (ptS p.1.toNat p.2.toNat).size ≤ 44 := by
  obtain ⟨a, b, rfl, hk⟩ := okP_nat h
  have := ok_le hk
  exact ptS_size a b this.1 this.2
theorem ktx_size {L : List Ln} (h : ∀ i, i < L.length → okP (lat L i) = true) : ∀ i, i ≤ L.length → (ktx (L.take i)).size ≤ 44 * i
  | 0, _ => by simp [ktx_nil]
  | i + 1, hi => by
    have h1 := ktx_size h i (by omega)
    have h2 := okP_size (h i (by omega))
    rw [ktx_take (by omega), ByteArray.size_append]
    omega
def keysT (L : List Ln) : ByteArray := if keysB L then ktx L else ByteArray.empty
theorem keysT_size (L : List Ln) : (keysT L).size ≤ 176 := by
  unfold keysT
  split
  · next h =>
    have hk := keys_each h
    have := ktx_size hk.2 L.length (Nat.le_refl _)
    rw [List.take_length] at this
    omega
  · simp
set_option maxRecDepth 100000 in
set_option maxHeartbeats 4000000 in
theorem spec_l9Keys (a : Option Addr) (cap : Nat) (L : List Ln) (w : World) (h : Pt.Rd w a L) (hl : L.length ≤ 9223372036854775806) :
    Calls Tryz.prog 11 #[.slice a L.length cap] w fun e w' => e = .returned (.bool (keysB L)) ∧ Below w.heap.size w w' := by
  have hbad : Hid (∀ i, i < L.length → okP (lat L i) = false → keysB L = false) := hidIt (fun i hi k => keys_bad hi k)
  have hend : Hid ((L.take L.length).all okP = true → keysB L = decide (L.length ≤ 4)) := hidIt keys_end
  have hst : Hid (∀ i, i < L.length → (L.take i).all okP = true → okP (lat L i) = true → (L.take (i + 1)).all okP = true) := hidIt (fun i hi h1 h2 => Nm.all_take hi h1 (by rw [← lat_eq hi]; exact h2))
  generalize keysB L = r at hbad hend ⊢
  have HR := hidIt h
  clear h
  generalize hn : L.length = n at *
  have HN := hidIt hn
  clear hn
  go_enter Tryz.func11, Tryz.ntmps11
  go_wp2_with (fail)
  go_loopw [3] (fun y wx => ∃ i : Nat, y = .int .i64 i ∧ i ≤ n ∧ Hid ((L.take i).all okP = true) ∧ Hid (Below w.heap.size w wx)) (fun y _ => (n - intOf y).toNat)
  case atStart => exact ⟨0, rfl, by omega, hidIt rfl, hidIt (Below.refl _ _)⟩
  case round =>
    obtain ⟨i, rfl, hi, HA, HB⟩ := hrel
    rcases Nat.lt_or_ge i n with hin | hin
    · have g2 : (i : Int) < (n : Int) := by omega
      obtain ⟨b, off, rfl, c0, c1⟩ := (HR.out.kept HB.out).cell i (by rw [HN.out]; exact hin)
      have HK := hidIt (fun W => spec_PointOk (lat L i).1 (lat L i).2 W)
      have Hb := hidIt (hbad.out i hin)
      have Hs := hidIt (hst.out i hin HA.out)
      have hq : okP (lat L i) = okI (lat L i).1 (lat L i).2 := rfl
      rw [hq] at Hb Hs
      clear hq
      generalize lat L i = p at *
      obtain ⟨x, y⟩ := p
      simp only at HK c0 c1 Hb Hs
      cases hk : okI x y with
      | false =>
        rw [hk] at HK
        have er := Hb.out hk
        subst er
        clear hk
        go_wp2_with (go_at_call 23; refine (HK.out _).mono ?_; rintro e w1 ⟨rfl, hB1⟩)
        go_ret
        exact ⟨rfl, HB.out.trans (hB1.mono HB.out.size)⟩
      | true =>
        rw [hk] at HK
        have HA2 := hidIt (Hs.out hk)
        clear hk
        go_wp2_with (go_at_call 23; refine (HK.out _).mono ?_; rintro e w1 ⟨rfl, hB1⟩)
        refine ⟨⟨i + 1, by simp, by omega, HA2, hidIt (HB.out.trans (hB1.mono HB.out.size))⟩, by simp [intOf]; omega⟩
    · have g2 : ¬ (i : Int) < (n : Int) := by omega
      have e : i = n := by omega
      subst e
      have er := hend.out HA.out
      by_cases h4 : i ≤ 4
      · have h4' : (i : Int) ≤ 4 := by omega
        rw [decide_eq_true h4] at er
        subst er
        go_wp2_with (fail)
        go_ret
        exact ⟨rfl, HB.out⟩
      · have h4' : ¬ (i : Int) ≤ 4 := by omega
        rw [decide_eq_false h4] at er
        subst er
        go_wp2_with (fail)
        go_ret
        exact ⟨rfl, HB.out⟩
set_option maxRecDepth 100000 in
set_option maxHeartbeats 4000000 in
theorem spec_l9KeysText (a : Option Addr) (cap : Nat) (L : List Ln) (w : World) (h : Pt.Rd w a L) (hk : keysB L = true) :
    Calls Tryz.prog 15 #[.slice a L.length cap] w fun e w' => e = .returned (.string (ktx L)) ∧ Below w.heap.size w w' := by
  obtain ⟨h4, hall⟩ := keys_each hk
  have hsz := hidIt (ktx_size hall)
  have hst : Hid (∀ i, i < L.length → ktx (L.take (i + 1)) = ktx (L.take i) ++ ptS (lat L i).1.toNat (lat L i).2.toNat) := hidIt (fun i hi => ktx_take hi)
  have hend : Hid (ktx (L.take L.length) = ktx L) := hidIt (by rw [List.take_length])
  have HA := hidIt hall
  have HR := hidIt h
  clear h hall hk
  generalize ktx L = res at hend ⊢
  generalize hn : L.length = n at *
  have HN := hidIt hn
  clear hn
  go_enter Tryz.func15, Tryz.ntmps15
  go_wp2_with (fail)
  go_loopw [3, 4] (fun z y wx => ∃ i : Nat, y = .int .i64 i ∧ i ≤ n ∧ z = .string (ktx (L.take i)) ∧ Hid (Below w.heap.size w wx)) (fun _ y _ => (n - intOf y).toNat)
  case atStart => exact ⟨0, rfl, by omega, rfl, hidIt (Below.refl _ _)⟩
  case round =>
    obtain ⟨i, rfl, hi, rfl, HB⟩ := hrel
    have hs1 := hsz.out i hi
    rcases Nat.lt_or_ge i n with hin | hin
    · have g2 : (i : Int) < (n : Int) := by omega
      obtain ⟨b, off, rfl, c0, c1⟩ := (HR.out.kept HB.out).cell i (by rw [HN.out]; exact hin)
      have HS := hidIt (hst.out i hin)
      have hok := HA.out i hin
      have hs2 := okP_size hok
      generalize lat L i = p at *
      obtain ⟨x, y, rfl, hxy⟩ := okP_nat hok
      have hle := ok_le hxy
      have HK := hidIt (fun W => l3Point_any x y W hle.1 hle.2)
      simp only [Int.toNat_natCast] at HS hs2 c0 c1
      generalize ptS x y = t at HK HS hs2
      generalize ktx (L.take i) = v at HS hs1 ⊢
      have q1 : ¬ 9223372036854775807 < v.size + t.size := by omega
      clear hok hxy hle
      go_wp2_with (go_at_call 29; refine (HK.out _).mono ?_; rintro e w1 ⟨rfl, hB1⟩)
      refine ⟨⟨i + 1, by simp, by omega, by rw [HS.out], hidIt (HB.out.trans (hB1.mono HB.out.size))⟩, by simp [intOf]; omega⟩
    · have g2 : ¬ (i : Int) < (n : Int) := by omega
      have e : i = n := by omega
      subst e
      rw [hend.out]
      go_wp2_with (fail)
      go_ret
      exact ⟨rfl, HB.out⟩
end Go.Proofs.YtmdlgogpgedgnaaGreatDoor.Dd
