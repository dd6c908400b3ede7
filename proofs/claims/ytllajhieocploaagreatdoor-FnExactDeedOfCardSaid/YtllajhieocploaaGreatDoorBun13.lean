/-
  A list of keys: whether all are Points, its text; KeysText of the specification.
  A Deed: its cells; DsOf of the specification.
  Times, numbers with a blank, what is sealed, and SealOf of the program.
  What the laws do with a list of Points: szPointS, toPointS, eqPointS, markPointS, heldPointS.
  A Seal (six numbers) and a Deed (a text, a row of Points, a Seal): what the laws do with them: toSeal, eqSeal, szDeed, toDeed, eqDeed.
-/
import Derived.Test.YtllajhieocploaaGreatDoorBun8
import Derived.Test.YtllajhieocploaaGreatDoorBun12
import Derived.Test.YtllajhieocploaaGreatDoorAllN
import Derived.Test.YtllajhieocploaaGreatDoorCurveS
import Derived.Test.YtllajhieocploaaGreatDoorNameT
import Derived.Test.YtllajhieocploaaGreatDoorNameL
import Derived.Test.YtllajhieocploaaGreatDoorBun1
import Derived.Test.YtllajhieocploaaGreatDoorBun2
import Derived.Test.YtllajhieocploaaGreatDoorBun6
import Derived.Test.YtllajhieocploaaGreatDoorLawC
import Derived.Deep.RegionHeld3
import Derived.Test.YtllajhieocploaaGreatDoorBoxM
namespace Go.Proofs.YtllajhieocploaaGreatDoor.Dd
open Go.ChangeShapes Go.WideShapes Go.ChangeAt Go.RowKit
open Cv Cu Sg
open Go.Proofs.YtllajhieocploaaGreatDoor.Pt (Ln lat)
set_option linter.unusedVariables false
def okP (p : Ln) : Bool := okI p.1 p.2
def keysB (L : List Ln) : Bool := L.all okP && decide (L.length ≤ 4)
theorem lat_eq {L : List Ln} {i : Nat} (h : i < L.length) : lat L i = L[i] := by
  have := Pt.lat_getElem? h
  rw [List.getElem?_eq_getElem h] at this
  exact (Option.some.inj this).symm
theorem keys_bad {L : List Ln} {i : Nat} (hi : i < L.length) (h : okP (lat L i) = false) : keysB L = false := by
  unfold keysB
  rw [Nm.all_bad hi (by rw [← lat_eq hi]; exact h), Bool.false_and]
theorem keys_end {L : List Ln} (h : (L.take L.length).all okP = true) : keysB L = decide (L.length ≤ 4) := by
  unfold keysB
  rw [List.take_length] at h
  rw [h, Bool.true_and]
theorem keys_each {L : List Ln} (h : keysB L = true) : L.length ≤ 4 ∧ ∀ i, i < L.length → okP (lat L i) = true := by
  unfold keysB at h
  simp only [Bool.and_eq_true, decide_eq_true_eq] at h
  exact ⟨h.2, fun i hi => by rw [lat_eq hi]; exact List.all_eq_true.1 h.1 _ (List.getElem_mem hi)⟩
theorem okP_nat {p : Ln} (h : okP p = true) : ∃ a b : Nat, p = ((a : Int), (b : Int)) ∧ okN (a, b) = true := by
  obtain ⟨a, b, e1, e2, hk⟩ := okI_nat h
  exact ⟨a, b, by rw [← e1, ← e2], hk⟩
/-- The text of the keys. -/
def ktx (L : List Ln) : ByteArray := L.foldl (fun s p => s ++ ptS p.1.toNat p.2.toNat) ByteArray.empty
theorem ktx_nil : ktx [] = ByteArray.empty := rfl
theorem ktx_more (L : List Ln) (p : Ln) : ktx (L ++ [p]) = ktx L ++ ptS p.1.toNat p.2.toNat := by
  unfold ktx
  rw [List.foldl_append]
  rfl
theorem ktx_take {L : List Ln} {i : Nat} (hi : i < L.length) : ktx (L.take (i + 1)) = ktx (L.take i) ++ ptS (lat L i).1.toNat (lat L i).2.toNat := by
  rw [List.take_add_one, List.getElem?_eq_getElem hi, ← lat_eq hi]
  exact ktx_more _ _
theorem okP_size {p : Ln} (h : okP p = true) : (ptS p.1.toNat p.2.toNat).size ≤ 44 := by
  obtain ⟨a, b, rfl, hk⟩ := okP_nat h
  have := ok_le hk
  exact ptS_size a b this.1 this.2
theorem ktx_size {L : List Ln} (h : ∀ i, i < L.length → okP (lat L i) = true) : ∀ i, i ≤ L.length → (ktx (L.take i)).size ≤ 44 * i
  | 0, _ => by simp [ktx_nil]
  | i + 1, hi => by
    have h1 := ktx_size h i (by omega)
    have h2 := okP_size (h i (by omega))
    rw [ktx_take (by omega), ByteArray.size_append]
    omega
def keysT (L : List Ln) : ByteArray := if keysB L then ktx L else ByteArray.empty
theorem keysT_size (L : List Ln) : (keysT L).size ≤ 176 := by
  unfold keysT
  split
  · next h =>
    have hk := keys_each h
    have := ktx_size hk.2 L.length (Nat.le_refl _)
    rw [List.take_length] at this
    omega
  · simp
set_option maxRecDepth 100000 in
set_option maxHeartbeats 4000000 in
theorem spec_l9KeysText (a : Option Addr) (cap : Nat) (L : List Ln) (w : World) (h : Pt.Rd w a L) (hk : keysB L = true) :
    Calls Tryz.prog 76 #[.slice a L.length cap] w fun e w' => e = .returned (.string (ktx L)) ∧ Below w.heap.size w w' := by
  obtain ⟨h4, hall⟩ := keys_each hk
  have hsz := hidIt (ktx_size hall)
  have hst : Hid (∀ i, i < L.length → ktx (L.take (i + 1)) = ktx (L.take i) ++ ptS (lat L i).1.toNat (lat L i).2.toNat) := hidIt (fun i hi => ktx_take hi)
  have hend : Hid (ktx (L.take L.length) = ktx L) := hidIt (by rw [List.take_length])
  have HA := hidIt hall
  have HR := hidIt h
  clear h hall hk
  generalize ktx L = res at hend ⊢
  generalize hn : L.length = n at *
  have HN := hidIt hn
  clear hn
  go_enter Tryz.func76, Tryz.ntmps76
  go_wp2_with (fail)
  go_loopw [3, 4] (fun z y wx => ∃ i : Nat, y = .int .i64 i ∧ i ≤ n ∧ z = .string (ktx (L.take i)) ∧ Hid (Below w.heap.size w wx)) (fun _ y _ => (n - intOf y).toNat)
  case atStart => exact ⟨0, rfl, by omega, rfl, hidIt (Below.refl _ _)⟩
  case round =>
    obtain ⟨i, rfl, hi, rfl, HB⟩ := hrel
    have hs1 := hsz.out i hi
    rcases Nat.lt_or_ge i n with hin | hin
    · have g2 : (i : Int) < (n : Int) := by omega
      obtain ⟨b, off, rfl, c0, c1⟩ := (HR.out.kept HB.out).cell i (by rw [HN.out]; exact hin)
      have HS := hidIt (hst.out i hin)
      have hok := HA.out i hin
      have hs2 := okP_size hok
      generalize lat L i = p at *
      obtain ⟨x, y, rfl, hxy⟩ := okP_nat hok
      have hle := ok_le hxy
      have HK := hidIt (fun W => l3Point_any x y W hle.1 hle.2)
      simp only [Int.toNat_natCast] at HS hs2 c0 c1
      generalize ptS x y = t at HK HS hs2
      generalize ktx (L.take i) = v at HS hs1 ⊢
      have q1 : ¬ 9223372036854775807 < v.size + t.size := by omega
      clear hok hxy hle
      go_wp2_with (go_at_call 109; refine (HK.out _).mono ?_; rintro e w1 ⟨rfl, hB1⟩)
      refine ⟨⟨i + 1, by simp, by omega, by rw [HS.out], hidIt (HB.out.trans (hB1.mono HB.out.size))⟩, by simp [intOf]; omega⟩
    · have g2 : ¬ (i : Int) < (n : Int) := by omega
      have e : i = n := by omega
      subst e
      rw [hend.out]
      go_wp2_with (fail)
      go_ret
      exact ⟨rfl, HB.out⟩
end Go.Proofs.YtllajhieocploaaGreatDoor.Dd
namespace Go.Proofs.YtllajhieocploaaGreatDoor.Dd
open Go.ChangeShapes Go.WideShapes Go.ChangeAt Go.RowKit
open Cv Cu Sg
open Go.Proofs.YtllajhieocploaaGreatDoor.Pt (Ln lat)
open Go.Proofs.YtllajhieocploaaGreatDoor.Bo (Box Box.new Box.newAt Box.kept Box.alloc Box.put Box.other Box.c Box.drew)
open Go.Proofs.YtllajhieocploaaGreatDoor.Nm (bs okB)
set_option linter.unusedVariables false
/-- The cells of a Deed: its Zone, its Keys, its Seal. -/
abbrev dc (z : ByteArray) (v : Value) (k1 k2 u r1 r2 t : Int) : Array Value := #[.string z, v, .int .i64 k1, .int .i64 k2, .int .i64 u, .int .i64 r1, .int .i64 r2, .int .i64 t]
abbrev dv (z : ByteArray) (v : Value) (k1 k2 u r1 r2 t : Int) : Value := .agg (dc z v k1 k2 u r1 r2 t)
def dsN (z : ByteArray) (a b : Nat) : Nat := hashN (nums (z ++ Sg.blank ++ ptS a b))
def dsB (z : ByteArray) (k1 k2 : Int) : Int := if okB (bs z) && okI k1 k2 then (dsN z k1.toNat k2.toNat : Int) else -1
theorem dsB_no {z : ByteArray} {k1 k2 : Int} (h : okB (bs z) = false ∨ okI k1 k2 = false) : dsB z k1 k2 = -1 := by
  unfold dsB
  rcases h with h | h
  · rw [h]; rfl
  · rw [h, Bool.and_false]; rfl
theorem dsB_yes {z : ByteArray} {a b : Nat} (h : okB (bs z) = true) (h' : okI a b = true) : dsB z a b = (dsN z a b : Int) := by
  unfold dsB
  rw [h, h']
  rfl
theorem okB_size {z : ByteArray} (h : okB (bs z) = true) : z.size ≤ 60 := by
  have := Nm.ok_short h
  rwa [Nm.bs_length] at this
end Go.Proofs.YtllajhieocploaaGreatDoor.Dd
namespace Go.Proofs.YtllajhieocploaaGreatDoor.Dd
open Go.ChangeShapes Go.WideShapes Go.ChangeAt Go.RowKit
open Cv Cu Sg
open Go.Proofs.YtllajhieocploaaGreatDoor.Pt (Ln lat)
open Go.Proofs.YtllajhieocploaaGreatDoor.Bo (Box Box.new Box.newAt Box.kept Box.alloc Box.put Box.other Box.c Box.drew)
open Go.Proofs.YtllajhieocploaaGreatDoor.Nm (bs okB)
open Go.Proofs.YtllajhieocploaaGreatDoor.Ro (timB secB inB)
open Go.Proofs.YtllajhieocploaaGreatDoor.Rc (BelowBy wp_region_below calls_below calls_same)
set_option linter.unusedVariables false
theorem inB_of {n lo hi : Int} : inB n lo hi = (decide (lo ≤ n) && decide (n ≤ hi)) := rfl
set_option maxRecDepth 100000 in
theorem impl_timeOk (n : Int) (w : World) : Calls Tryz.prog 40 #[.int .i64 n] w fun e w' => e = .returned (.bool (timB n)) ∧ w' = w := by
  unfold timB inB
  by_cases h : 0 ≤ n
  · have h' : decide ((0 : Int) ≤ n) = true := decide_eq_true h
    rw [h', Bool.true_and]
    go_enter Tryz.func40, Tryz.ntmps40
    go_wp2
    go_ret
    exact ⟨rfl, rfl⟩
  · have h' : decide ((0 : Int) ≤ n) = false := decide_eq_false h
    rw [h', Bool.false_and]
    go_enter Tryz.func40, Tryz.ntmps40
    go_wp2
    go_ret
    exact ⟨rfl, rfl⟩
theorem formatInt_S (n : Nat) (w : World) (hn : n ≤ 1099511627776) (ht : Tab w) : Calls Tryz.prog 122 #[.int .i64 n, .int .i64 10] w fun e w' => e = .returned (.string (numS n)) ∧ Below w.heap.size w w' :=
  formatInt_any n (by omega) (by omega) w ht
set_option maxRecDepth 100000 in
set_option maxHeartbeats 2000000 in
theorem impl_withBlank (u : Nat) (w : World) (hu : u ≤ 1099511627776) (ht : Tab w) : Calls Tryz.prog 113 #[.int .i64 u] w fun e w' => e = .returned (.string (numS u ++ ⟨#[32]⟩)) ∧ Below w.heap.size w w' := by
  have CF := hidIt (fun W t => formatInt_S u W hu t)
  have hx := numS_size u hu
  generalize numS u = x at CF hx ⊢
  have q0 : (⟨#[32]⟩ : ByteArray).size = 1 := rfl
  have q1 : ¬ 9223372036854775807 < x.size + 1 := by omega
  go_enter Tryz.func113, Tryz.ntmps113
  go_wp2_with (fail)
  refine (CF.out _ ht).mono ?_
  rintro e w1 ⟨rfl, k⟩
  go_wp2_with (fail)
  go_ret
  exact ⟨rfl, k⟩
set_option maxRecDepth 100000 in
set_option maxHeartbeats 2000000 in
theorem impl_sealed (u : Nat) (s : ByteArray) (w : World) (hu : u ≤ 1000000) (hs : s.size ≤ 4611686018427370000) (ht : Tab w) : Calls Tryz.prog 80 #[.int .i64 u, .string s] w fun e w' => e = .returned (.string (stx u s)) ∧ Below w.heap.size w w' := by
  have CF := hidIt (fun W t => impl_withBlank u W (by omega) t)
  have hx := numS_size u (by omega)
  rw [stx_eq]
  have q0 : (⟨#[32]⟩ : ByteArray).size = 1 := rfl
  have hy : (numS u ++ ⟨#[32]⟩).size ≤ 22 := by rw [ByteArray.size_append]; omega
  generalize numS u ++ ⟨#[32]⟩ = x at CF hy ⊢
  have q2 : ¬ 9223372036854775807 < x.size + s.size := by omega
  clear hx q0
  go_enter Tryz.func80, Tryz.ntmps80
  go_wp2_with (fail)
  refine (CF.out _ ht).mono ?_
  rintro e w1 ⟨rfl, k⟩
  go_wp2_with (fail)
  go_ret
  exact ⟨rfl, k⟩
theorem sec_no {n : Int} (h : secB n = false) : ¬ 0 < n ∨ 0 < n ∧ ¬ n < 2549 := by
  unfold secB inB at h
  simp only [Bool.and_eq_false_iff, decide_eq_false_iff_not] at h
  omega
set_option maxRecDepth 100000 in
set_option maxHeartbeats 4000000 in
theorem impl_SealOf (n : Int) (s : ByteArray) (u : Int) (w : World) (ht : Tab w) (hs : s.size ≤ 4611686018427370000) :
    Calls Tryz.prog 42 #[.int .i64 n, .string s, .int .i64 u] w fun e w' => e = .returned (.tuple #[svt (sealR n s u).1, .bool (sealR n s u).2]) ∧ Below w.heap.size w w' := by
  have CT := hidIt (fun W => impl_timeOk u W)
  have BA := hidIt (Box.new w (sc 0 0 0 0 0 0) 52)
  have HB : Hid (Below w.heap.size w (w.alloc (.cells (sc 0 0 0 0 0 0) 52))) := hidIt ((Below.refl w.heap.size w).alloc (Nat.le_refl _) _)
  have HT := hidIt ht
  clear ht
  cases h1 : secB n with
  | false =>
    rw [sealR_no (.inl h1)]
    have CK := hidIt (fun W => impl_KeyOf_no n W (sec_no h1))
    clear h1
    go_enter Tryz.func42, Tryz.ntmps42
    go_wp2_with (fail)
    refine (CK.out _).mono ?_
    rintro e w1 ⟨rfl, k⟩
    replace HB := hidIt (HB.out.trans (k.mono HB.out.size))
    replace BA := hidIt (BA.out.kept k)
    clear k
    have k := (Below.refl w1.heap.size w1).alloc (Nat.le_refl _) (.cells #[.int .i64 0, .int .i64 0] 48)
    replace HB := hidIt (HB.out.trans (k.mono HB.out.size))
    replace BA := hidIt (BA.out.kept k)
    clear k
    have c0 := BA.out.c 0 (v := .int .i64 0) rfl
    have f0 := BA.out.fr 0
    have c1 := BA.out.c 1 (v := .int .i64 0) rfl
    have f1 := BA.out.fr 1
    have c2 := BA.out.c 2 (v := .int .i64 0) rfl
    have f2 := BA.out.fr 2
    have c3 := BA.out.c 3 (v := .int .i64 0) rfl
    have f3 := BA.out.fr 3
    have c4 := BA.out.c 4 (v := .int .i64 0) rfl
    have f4 := BA.out.fr 4
    have c5 := BA.out.c 5 (v := .int .i64 0) rfl
    have f5 := BA.out.fr 5
    go_wp2_with (fail)
    have BZ := (((((BA.out.put (c' := sc 0 0 0 0 0 0) 0 (.int .i64 0) (by simp) rfl).put (c' := sc 0 0 0 0 0 0) 1 (.int .i64 0) (by simp) rfl).put (c' := sc 0 0 0 0 0 0) 2 (.int .i64 0) (by simp) rfl).put (c' := sc 0 0 0 0 0 0) 3 (.int .i64 0) (by simp) rfl).put (c' := sc 0 0 0 0 0 0) 4 (.int .i64 0) (by simp) rfl).put (c' := sc 0 0 0 0 0 0) 5 (.int .i64 0) (by simp) rfl
    refine bodyPost_ret (v := .tuple #[sv 0 0 0 0 0 0, .bool false]) ?_ rfl ⟨rfl, ?_⟩
    · refine ret_box BZ (fun w9 j => ?_)
      have j0 := j.c 0 (v := .int .i64 0) rfl
      have j1 := j.c 1 (v := .int .i64 0) rfl
      have j2 := j.c 2 (v := .int .i64 0) rfl
      have j3 := j.c 3 (v := .int .i64 0) rfl
      have j4 := j.c 4 (v := .int .i64 0) rfl
      have j5 := j.c 5 (v := .int .i64 0) rfl
      clear BZ c0 c1 c2 c3 c4 c5 f0 f1 f2 f3 f4 f5
      simp [results, Tryz.results42, go_sem, j0, j1, j2, j3, j4, j5]
    · exact ((((((HB.out.setCell (p := ⟨w.heap.size, 0, none⟩) (Nat.le_refl _) _).setCell (p := ⟨w.heap.size, 1, none⟩) (Nat.le_refl _) _).setCell (p := ⟨w.heap.size, 2, none⟩) (Nat.le_refl _) _).setCell (p := ⟨w.heap.size, 3, none⟩) (Nat.le_refl _) _).setCell (p := ⟨w.heap.size, 4, none⟩) (Nat.le_refl _) _).setCell (p := ⟨w.heap.size, 5, none⟩) (Nat.le_refl _) _)
  | true =>
    obtain ⟨m, rfl, m1, m2⟩ := sec_nat h1
    have CK := hidIt (fun W => impl_KeyOf_yes m W m1 m2)
    cases h2 : timB u with
    | false =>
      rw [sealR_no (.inr h2)]
      rw [h2] at CT
      clear h1 h2
      generalize ns (2791, 6375) m = K at CK
      obtain ⟨K1, K2⟩ := K
      simp only at CK
      go_enter Tryz.func42, Tryz.ntmps42
      go_wp2_with (fail)
      refine (CK.out _).mono ?_
      rintro e w1 ⟨rfl, k⟩
      replace HB := hidIt (HB.out.trans (k.mono HB.out.size))
      replace BA := hidIt (BA.out.kept k)
      clear k
      have k := (Below.refl w1.heap.size w1).alloc (Nat.le_refl _) (.cells #[.int .i64 K1, .int .i64 K2] 48)
      replace HB := hidIt (HB.out.trans (k.mono HB.out.size))
      replace BA := hidIt (BA.out.kept k)
      clear k
      go_wp2_with (fail)
      refine (CT.out _).mono ?_
      rintro e w2 ⟨rfl, rfl⟩
      have c0 := BA.out.c 0 (v := .int .i64 0) rfl
      have f0 := BA.out.fr 0
      have c1 := BA.out.c 1 (v := .int .i64 0) rfl
      have f1 := BA.out.fr 1
      have c2 := BA.out.c 2 (v := .int .i64 0) rfl
      have f2 := BA.out.fr 2
      have c3 := BA.out.c 3 (v := .int .i64 0) rfl
      have f3 := BA.out.fr 3
      have c4 := BA.out.c 4 (v := .int .i64 0) rfl
      have f4 := BA.out.fr 4
      have c5 := BA.out.c 5 (v := .int .i64 0) rfl
      have f5 := BA.out.fr 5
      go_wp2_with (fail)
      have BZ := (((((BA.out.put (c' := sc 0 0 0 0 0 0) 0 (.int .i64 0) (by simp) rfl).put (c' := sc 0 0 0 0 0 0) 1 (.int .i64 0) (by simp) rfl).put (c' := sc 0 0 0 0 0 0) 2 (.int .i64 0) (by simp) rfl).put (c' := sc 0 0 0 0 0 0) 3 (.int .i64 0) (by simp) rfl).put (c' := sc 0 0 0 0 0 0) 4 (.int .i64 0) (by simp) rfl).put (c' := sc 0 0 0 0 0 0) 5 (.int .i64 0) (by simp) rfl
      refine bodyPost_ret (v := .tuple #[sv 0 0 0 0 0 0, .bool false]) ?_ rfl ⟨rfl, ?_⟩
      · refine ret_box BZ (fun w9 j => ?_)
        have j0 := j.c 0 (v := .int .i64 0) rfl
        have j1 := j.c 1 (v := .int .i64 0) rfl
        have j2 := j.c 2 (v := .int .i64 0) rfl
        have j3 := j.c 3 (v := .int .i64 0) rfl
        have j4 := j.c 4 (v := .int .i64 0) rfl
        have j5 := j.c 5 (v := .int .i64 0) rfl
        clear BZ c0 c1 c2 c3 c4 c5 f0 f1 f2 f3 f4 f5
        simp [results, Tryz.results42, go_sem, j0, j1, j2, j3, j4, j5]
      · exact ((((((HB.out.setCell (p := ⟨w.heap.size, 0, none⟩) (Nat.le_refl _) _).setCell (p := ⟨w.heap.size, 1, none⟩) (Nat.le_refl _) _).setCell (p := ⟨w.heap.size, 2, none⟩) (Nat.le_refl _) _).setCell (p := ⟨w.heap.size, 3, none⟩) (Nat.le_refl _) _).setCell (p := ⟨w.heap.size, 4, none⟩) (Nat.le_refl _) _).setCell (p := ⟨w.heap.size, 5, none⟩) (Nat.le_refl _) _)
    | true =>
      obtain ⟨v, rfl, hv⟩ := tim_nat h2
      rw [sealR_yes h1 h2, sealN_eq]
      rw [h2] at CT
      have CX := hidIt (fun W t => impl_sealed v s W hv hs t)
      have CG := hidIt (fun W t => impl_Signed_yes m (stx v s) W m1 m2 (by have := stx_size (u := v) (s := s) (by omega); omega) t)
      clear h1 h2
      generalize ((ns (2791, 6375) m).1 : Int) = K1 at CK ⊢
      generalize ((ns (2791, 6375) m).2 : Int) = K2 at CK ⊢
      generalize ((sgR m (stx v s)).1 : Int) = R1 at CG ⊢
      generalize ((sgR m (stx v s)).2 : Int) = R2 at CG ⊢
      generalize (sgT m (stx v s) : Int) = T at CG ⊢
      generalize stx v s = tx at CX CG
      go_enter Tryz.func42, Tryz.ntmps42
      go_wp2_with (fail)
      refine (CK.out _).mono ?_
      rintro e w1 ⟨rfl, k⟩
      replace HB := hidIt (HB.out.trans (k.mono HB.out.size))
      replace BA := hidIt (BA.out.kept k)
      clear k
      have BK := hidIt (Box.new w1 #[.int .i64 K1, .int .i64 K2] 48)
      have k := (Below.refl w1.heap.size w1).alloc (Nat.le_refl _) (.cells #[.int .i64 K1, .int .i64 K2] 48)
      replace HB := hidIt (HB.out.trans (k.mono HB.out.size))
      replace BA := hidIt (BA.out.kept k)
      clear k
      go_wp2_with (fail)
      refine (CT.out _).mono ?_
      rintro e w2 ⟨rfl, rfl⟩
      go_wp2_with (fail)
      refine (CX.out _ (HT.out.kept HB.out)).mono ?_
      rintro e w3 ⟨rfl, k⟩
      replace HB := hidIt (HB.out.trans (k.mono HB.out.size))
      replace BA := hidIt (BA.out.kept k)
      replace BK := hidIt (BK.out.kept k)
      clear k
      go_wp2_with (fail)
      refine (CG.out _ (HT.out.kept HB.out)).mono ?_
      rintro e w4 ⟨rfl, k⟩
      replace HB := hidIt (HB.out.trans (k.mono HB.out.size))
      replace BA := hidIt (BA.out.kept k)
      replace BK := hidIt (BK.out.kept k)
      clear k
      have k := (Below.refl w4.heap.size w4).alloc (Nat.le_refl _) (.cells #[.int .i64 R1, .int .i64 R2, .int .i64 T] 50)
      replace HB := hidIt (HB.out.trans (k.mono HB.out.size))
      replace BA := hidIt (BA.out.kept k)
      replace BK := hidIt (BK.out.kept k)
      clear k
      generalize w1.heap.size = b1 at BK ⊢
      have d0 := BK.out.c 0 (v := .int .i64 K1) rfl
      have d1 := BK.out.c 1 (v := .int .i64 K2) rfl
      have c0 := BA.out.c 0 (v := .int .i64 0) rfl
      have f0 := BA.out.fr 0
      have c1 := BA.out.c 1 (v := .int .i64 0) rfl
      have f1 := BA.out.fr 1
      have c2 := BA.out.c 2 (v := .int .i64 0) rfl
      have f2 := BA.out.fr 2
      have c3 := BA.out.c 3 (v := .int .i64 0) rfl
      have f3 := BA.out.fr 3
      have c4 := BA.out.c 4 (v := .int .i64 0) rfl
      have f4 := BA.out.fr 4
      have c5 := BA.out.c 5 (v := .int .i64 0) rfl
      have f5 := BA.out.fr 5
      go_wp2_with (fail)
      have BZ := (((((BA.out.put (c' := sc K1 0 0 0 0 0) 0 (.int .i64 K1) (by simp) rfl).put (c' := sc K1 K2 0 0 0 0) 1 (.int .i64 K2) (by simp) rfl).put (c' := sc K1 K2 v 0 0 0) 2 (.int .i64 v) (by simp) rfl).put (c' := sc K1 K2 v R1 0 0) 3 (.int .i64 R1) (by simp) rfl).put (c' := sc K1 K2 v R1 R2 0) 4 (.int .i64 R2) (by simp) rfl).put (c' := sc K1 K2 v R1 R2 T) 5 (.int .i64 T) (by simp) rfl
      refine bodyPost_ret (v := .tuple #[sv K1 K2 v R1 R2 T, .bool true]) ?_ rfl ⟨rfl, ?_⟩
      · refine ret_box BZ (fun w9 j => ?_)
        have j0 := j.c 0 (v := .int .i64 K1) rfl
        have j1 := j.c 1 (v := .int .i64 K2) rfl
        have j2 := j.c 2 (v := .int .i64 v) rfl
        have j3 := j.c 3 (v := .int .i64 R1) rfl
        have j4 := j.c 4 (v := .int .i64 R2) rfl
        have j5 := j.c 5 (v := .int .i64 T) rfl
        clear BZ c0 c1 c2 c3 c4 c5 f0 f1 f2 f3 f4 f5 d0 d1
        simp [results, Tryz.results42, go_sem, j0, j1, j2, j3, j4, j5]
      · exact ((((((HB.out.setCell (p := ⟨w.heap.size, 0, none⟩) (Nat.le_refl _) _).setCell (p := ⟨w.heap.size, 1, none⟩) (Nat.le_refl _) _).setCell (p := ⟨w.heap.size, 2, none⟩) (Nat.le_refl _) _).setCell (p := ⟨w.heap.size, 3, none⟩) (Nat.le_refl _) _).setCell (p := ⟨w.heap.size, 4, none⟩) (Nat.le_refl _) _).setCell (p := ⟨w.heap.size, 5, none⟩) (Nat.le_refl _) _)
end Go.Proofs.YtllajhieocploaaGreatDoor.Dd
namespace Go.Proofs.YtllajhieocploaaGreatDoor.Pt
open Go.ChangeShapes Go.WideShapes Go.ChangeAt Go.RowKit
open Cv Cu
set_option linter.unusedVariables false
theorem held4c {W wA : World} {b x y c u v : Nat} {a0 a1 a2 a3 : Value} (k : Below W.heap.size W wA) (h : W.cell? ⟨b, x, none⟩ = some a0 ∧ W.cell? ⟨b, y, none⟩ = some a1 ∧ W.cell? ⟨c, u, none⟩ = some a2 ∧ W.cell? ⟨c, v, none⟩ = some a3) : wA.cell? ⟨b, x, none⟩ = some a0 ∧ wA.cell? ⟨b, y, none⟩ = some a1 ∧ wA.cell? ⟨c, u, none⟩ = some a2 ∧ wA.cell? ⟨c, v, none⟩ = some a3 := by
  rw [k.cell (p := ⟨b, x, none⟩) (cell_block h.1), k.cell (p := ⟨b, y, none⟩) (cell_block h.1), k.cell (p := ⟨c, u, none⟩) (cell_block h.2.2.1), k.cell (p := ⟨c, v, none⟩) (cell_block h.2.2.1)]
  exact h
theorem held4c_drew {W wA : World} {b x y c u v : Nat} {a0 a1 a2 a3 : Value} (k : Below W.drew.heap.size W.drew wA) (h : W.cell? ⟨b, x, none⟩ = some a0 ∧ W.cell? ⟨b, y, none⟩ = some a1 ∧ W.cell? ⟨c, u, none⟩ = some a2 ∧ W.cell? ⟨c, v, none⟩ = some a3) : wA.cell? ⟨b, x, none⟩ = some a0 ∧ wA.cell? ⟨b, y, none⟩ = some a1 ∧ wA.cell? ⟨c, u, none⟩ = some a2 ∧ wA.cell? ⟨c, v, none⟩ = some a3 := held4c (W := W.drew) k h
set_option maxRecDepth 100000 in
set_option maxHeartbeats 4000000 in
theorem eqPointS_any (a b : Option Addr) (ca cb : Nat) (L : List Ln) (w : World) (ha : Rd w a L) (hb : Rd w b L) (hl : L.length ≤ 9223372036854775806) :
    Calls Tryz.prog 44 #[.slice a L.length ca, .slice b L.length cb] w fun e w' => e = .returned (.bool true) ∧ Below w.heap.size w w' := by
  generalize hn : L.length = n at *
  have HA := hidIt ha
  have HB := hidIt hb
  have HN := hidIt hn
  clear ha hb hn
  have hnn : ((n : Int) != (n : Int)) = false := by simp
  go_enter Tryz.func44, Tryz.ntmps44
  go_wp2_with (fail)
  go_loopw [5] (fun y wx => ∃ i : Nat, y = .int .i64 i ∧ i ≤ n ∧ Below w.heap.size w wx) (fun y _ => (n - intOf y).toNat)
  case atStart => exact ⟨0, rfl, by omega, Below.refl _ _⟩
  case round =>
    obtain ⟨i, rfl, hi, hB⟩ := hrel
    have RA := hidIt (HA.out.kept hB)
    have RB := hidIt (HB.out.kept hB)
    have KX := hidIt hB
    clear hB
    by_cases hin : i < n
    · have hin' : (i : Int) < (n : Int) := by omega
      obtain ⟨b1, o1, rfl, c0, c1⟩ := RA.out.cell i (by rw [HN.out]; omega)
      obtain ⟨b2, o2, rfl, d0, d1⟩ := RB.out.cell i (by rw [HN.out]; omega)
      generalize lat L i = x at c0 c1 d0 d1
      obtain ⟨s, q⟩ := x
      have hf := And.intro c0 (And.intro c1 (And.intro d0 d1))
      clear RA RB HA HB
      go_wp2_with (fail)
      go_region_held3 (fun w' => w'.cell? ⟨b1, o1 + i * 2, none⟩ = some (.int .i64 s) ∧ w'.cell? ⟨b1, o1 + i * 2 + 1, none⟩ = some (.int .i64 q) ∧ w'.cell? ⟨b2, o2 + i * 2, none⟩ = some (.int .i64 s) ∧ w'.cell? ⟨b2, o2 + i * 2 + 1, none⟩ = some (.int .i64 q))
        (first | assumption | (with_reducible exact held4c_drew hbB hf) | go_keep)
        (first | (go_at_call 82; refine (eqPoint_same s q _).mono ?_; rintro e wB ⟨rfl, hbB⟩))
      have hBB : Hid (Below w.heap.size w wB) := hidIt (KX.out.drew.trans (hbB.mono (by have := KX.out.size; simpa using this)))
      clear hbB hf
      go_wp2_with (fail)
      exact ⟨⟨i + 1, by simp, by omega, hBB.out⟩, by simp [intOf]; omega⟩
    · have hin' : ¬ (i : Int) < (n : Int) := by omega
      go_wp2_with (fail)
      go_ret
      exact ⟨rfl, KX.out⟩
end Go.Proofs.YtllajhieocploaaGreatDoor.Pt
namespace Go.Proofs.YtllajhieocploaaGreatDoor.Dd
open Go.ChangeShapes Go.WideShapes Go.ChangeAt Go.RowKit
open Cv Cu Sg
open Go.Proofs.YtllajhieocploaaGreatDoor.Bo (Box Box.new Box.newAt Box.kept Box.alloc Box.put Box.other Box.c Box.drew)
set_option linter.unusedVariables false
set_option maxRecDepth 100000 in
set_option maxHeartbeats 4000000 in
theorem eqSeal_same (k1 k2 u r1 r2 t : Int) (w : World) : Calls Tryz.prog 45 #[sv k1 k2 u r1 r2 t, sv k1 k2 u r1 r2 t] w fun e w' => e = .returned (.bool true) ∧ Below w.heap.size w w' := by
  have BA := hidIt ((Box.new w (sc k1 k2 u r1 r2 t) 52).alloc (.cells (sc k1 k2 u r1 r2 t) 52))
  have BB : Hid (Box ((w.alloc (.cells (sc k1 k2 u r1 r2 t) 52)).alloc (.cells (sc k1 k2 u r1 r2 t) 52)) (w.heap.size + 1) (sc k1 k2 u r1 r2 t)) := hidIt (Box.newAt (by simp))
  have HB : Hid (Below w.heap.size w ((w.alloc (.cells (sc k1 k2 u r1 r2 t) 52)).alloc (.cells (sc k1 k2 u r1 r2 t) 52))) := hidIt (((Below.refl w.heap.size w).alloc (Nat.le_refl _) _).alloc (by simp) _)
  have hu : (u != u) = false := by simp
  go_enter Tryz.func45, Tryz.ntmps45
  go_wp2_with (fail)
  refine (eqPoint_same _ _ _).mono ?_
  rintro e w1 ⟨rfl, k⟩
  replace BA := hidIt (BA.out.kept k)
  replace BB := hidIt (BB.out.kept k)
  replace HB := hidIt (HB.out.trans (k.mono HB.out.size))
  clear k
  generalize w.heap.size + 1 = n1 at *
  have a2 := BA.out.c 2 rfl
  have a3 := BA.out.c 3 rfl
  have a4 := BA.out.c 4 rfl
  have a5 := BA.out.c 5 rfl
  have b2 := BB.out.c 2 rfl
  have b3 := BB.out.c 3 rfl
  have b4 := BB.out.c 4 rfl
  have b5 := BB.out.c 5 rfl
  go_wp2_with (fail)
  refine (eqSig_same _ _ _ _).mono ?_
  rintro e w2 ⟨rfl, k⟩
  replace HB := hidIt (HB.out.trans (k.mono HB.out.size))
  clear k a2 a3 a4 a5 b2 b3 b4 b5 BA BB
  go_wp2_with (fail)
  go_ret
  exact ⟨rfl, HB.out⟩
end Go.Proofs.YtllajhieocploaaGreatDoor.Dd
