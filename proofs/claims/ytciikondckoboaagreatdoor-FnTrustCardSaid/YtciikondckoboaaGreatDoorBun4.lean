/-
  A list of keys: whether all are Points, its text; KeysText of the specification.
  A Deed: its cells; DsOf of the specification.
  Times, numbers with a blank, what is sealed, and SealOf of the program.
  Trusted of the specification.
  What the drawing functions of chapter 9 answer, whatever the bytes: some numbers, some short text, some Points; they turn nothing that was.
-/
import Derived.Test.YtciikondckoboaaGreatDoorBun3
import Derived.Test.YtciikondckoboaaGreatDoorAllN
import Derived.Test.YtciikondckoboaaGreatDoorCurveS
import Derived.Test.YtciikondckoboaaGreatDoorNameT
import Derived.Test.YtciikondckoboaaGreatDoorNameL
import Derived.Test.YtciikondckoboaaGreatDoorQuiet
import Derived.Test.YtciikondckoboaaGreatDoorSignK
import Derived.Test.YtciikondckoboaaGreatDoorBun2
import Derived.Laws.StructEq
import Derived.Test.YtciikondckoboaaGreatDoorBun1
import Derived.Test.YtciikondckoboaaGreatDoorCurveD
import Derived.Test.YtciikondckoboaaGreatDoorBoxM
namespace Go.Proofs.YtciikondckoboaaGreatDoor.Dd
open Go.ChangeShapes Go.WideShapes Go.ChangeAt Go.RowKit
open Cv Cu Sg
open Go.Proofs.YtciikondckoboaaGreatDoor.Pt (Ln lat)
set_option linter.unusedVariables false
def okP (p : Ln) : Bool := okI p.1 p.2
def keysB (L : List Ln) : Bool := L.all okP && decide (L.length ≤ 4)
theorem lat_eq {L : List Ln} {i : Nat} (h : i < L.length) : lat L i = L[i] := by
  have := Pt.lat_getElem? h
  rw [List.getElem?_eq_getElem h] at this
  exact (Option.some.inj this).symm
theorem keys_bad {L : List Ln} {i : Nat} (hi : i < L.length) (h : okP (lat L i) = false) : keysB L = false := by
  unfold keysB
  rw [Nm.all_bad hi (by rw [← lat_eq hi]; exact h), Bool.false_and]
theorem keys_end {L : List Ln} (h : (L.take L.length).all okP = true) : keysB L = decide (L.length ≤ 4) := by
  unfold keysB
  rw [List.take_length] at h
  rw [h, Bool.true_and]
theorem keys_each {L : List Ln} (h : keysB L = true) : L.length ≤ 4 ∧ ∀ i, i < L.length → okP (lat L i) = true := by
  unfold keysB at h
  simp only [Bool.and_eq_true, decide_eq_true_eq] at h
  exact ⟨h.2, fun i hi => by rw [lat_eq hi]; exact List.all_eq_true.1 h.1 _ (List.getElem_mem hi)⟩
theorem okP_nat {p : Ln} (h : okP p = true) : ∃ a b : Nat, p = ((a : Int), (b : Int)) ∧ okN (a, b) = true := by
  obtain ⟨a, b, e1, e2, hk⟩ := okI_nat h
  exact ⟨a, b, by rw [← e1, ← e2], hk⟩
/-- The text of the keys. -/
def ktx (L : List Ln) : ByteArray := L.foldl (fun s p => s ++ ptS p.1.toNat p.2.toNat) ByteArray.empty
theorem ktx_nil : ktx [] = ByteArray.empty := rfl
theorem ktx_more (L : List Ln) (p : Ln) : ktx (L ++ [p]) = ktx L ++ ptS p.1.toNat p.2.toNat := by
  unfold ktx
  rw [List.foldl_append]
  rfl
theorem ktx_take {L : List Ln} {i : Nat} (hi : i < L.length) : ktx (L.take (i + 1)) = ktx (L.take i) ++ ptS (lat L i).1.toNat (lat L i).2.toNat := by
  rw [List.take_add_one, List.getElem?_eq_getElem hi, ← lat_eq hi]
  exact ktx_more _ _
theorem okP_size {p : Ln} (h : okP p = true) : (ptS p.1.toNat p.2.toNat).size ≤ 44 := by
  obtain ⟨a, b, rfl, hk⟩ := okP_nat h
  have := ok_le hk
  exact ptS_size a b this.1 this.2
theorem ktx_size {L : List Ln} (h : ∀ i, i < L.length → okP (lat L i) = true) : ∀ i, i ≤ L.length → (ktx (L.take i)).size ≤ 44 * i
  | 0, _ => by simp [ktx_nil]
  | i + 1, hi => by
    have h1 := ktx_size h i (by omega)
    have h2 := okP_size (h i (by omega))
    rw [ktx_take (by omega), ByteArray.size_append]
    omega
def keysT (L : List Ln) : ByteArray := if keysB L then ktx L else ByteArray.empty
theorem keysT_size (L : List Ln) : (keysT L).size ≤ 176 := by
  unfold keysT
  split
  · next h =>
    have hk := keys_each h
    have := ktx_size hk.2 L.length (Nat.le_refl _)
    rw [List.take_length] at this
    omega
  · simp
set_option maxRecDepth 100000 in
set_option maxHeartbeats 4000000 in
theorem spec_l9Keys (a : Option Addr) (cap : Nat) (L : List Ln) (w : World) (h : Pt.Rd w a L) (hl : L.length ≤ 9223372036854775806) :
    Calls Tryz.prog 25 #[.slice a L.length cap] w fun e w' => e = .returned (.bool (keysB L)) ∧ Below w.heap.size w w' := by
  have hbad : Hid (∀ i, i < L.length → okP (lat L i) = false → keysB L = false) := hidIt (fun i hi k => keys_bad hi k)
  have hend : Hid ((L.take L.length).all okP = true → keysB L = decide (L.length ≤ 4)) := hidIt keys_end
  have hst : Hid (∀ i, i < L.length → (L.take i).all okP = true → okP (lat L i) = true → (L.take (i + 1)).all okP = true) := hidIt (fun i hi h1 h2 => Nm.all_take hi h1 (by rw [← lat_eq hi]; exact h2))
  generalize keysB L = r at hbad hend ⊢
  have HR := hidIt h
  clear h
  generalize hn : L.length = n at *
  have HN := hidIt hn
  clear hn
  go_enter Tryz.func25, Tryz.ntmps25
  go_wp2_with (fail)
  go_loopw [3] (fun y wx => ∃ i : Nat, y = .int .i64 i ∧ i ≤ n ∧ Hid ((L.take i).all okP = true) ∧ Hid (Below w.heap.size w wx)) (fun y _ => (n - intOf y).toNat)
  case atStart => exact ⟨0, rfl, by omega, hidIt rfl, hidIt (Below.refl _ _)⟩
  case round =>
    obtain ⟨i, rfl, hi, HA, HB⟩ := hrel
    rcases Nat.lt_or_ge i n with hin | hin
    · have g2 : (i : Int) < (n : Int) := by omega
      obtain ⟨b, off, rfl, c0, c1⟩ := (HR.out.kept HB.out).cell i (by rw [HN.out]; exact hin)
      have HK := hidIt (fun W => spec_PointOk (lat L i).1 (lat L i).2 W)
      have Hb := hidIt (hbad.out i hin)
      have Hs := hidIt (hst.out i hin HA.out)
      have hq : okP (lat L i) = okI (lat L i).1 (lat L i).2 := rfl
      rw [hq] at Hb Hs
      clear hq
      generalize lat L i = p at *
      obtain ⟨x, y⟩ := p
      simp only at HK c0 c1 Hb Hs
      cases hk : okI x y with
      | false =>
        rw [hk] at HK
        have er := Hb.out hk
        subst er
        clear hk
        go_wp2_with (go_at_call 30; refine (HK.out _).mono ?_; rintro e w1 ⟨rfl, hB1⟩)
        go_ret
        exact ⟨rfl, HB.out.trans (hB1.mono HB.out.size)⟩
      | true =>
        rw [hk] at HK
        have HA2 := hidIt (Hs.out hk)
        clear hk
        go_wp2_with (go_at_call 30; refine (HK.out _).mono ?_; rintro e w1 ⟨rfl, hB1⟩)
        refine ⟨⟨i + 1, by simp, by omega, HA2, hidIt (HB.out.trans (hB1.mono HB.out.size))⟩, by simp [intOf]; omega⟩
    · have g2 : ¬ (i : Int) < (n : Int) := by omega
      have e : i = n := by omega
      subst e
      have er := hend.out HA.out
      by_cases h4 : i ≤ 4
      · have h4' : (i : Int) ≤ 4 := by omega
        rw [decide_eq_true h4] at er
        subst er
        go_wp2_with (fail)
        go_ret
        exact ⟨rfl, HB.out⟩
      · have h4' : ¬ (i : Int) ≤ 4 := by omega
        rw [decide_eq_false h4] at er
        subst er
        go_wp2_with (fail)
        go_ret
        exact ⟨rfl, HB.out⟩
set_option maxRecDepth 100000 in
set_option maxHeartbeats 4000000 in
theorem spec_l9KeysText (a : Option Addr) (cap : Nat) (L : List Ln) (w : World) (h : Pt.Rd w a L) (hk : keysB L = true) :
    Calls Tryz.prog 17 #[.slice a L.length cap] w fun e w' => e = .returned (.string (ktx L)) ∧ Below w.heap.size w w' := by
  obtain ⟨h4, hall⟩ := keys_each hk
  have hsz := hidIt (ktx_size hall)
  have hst : Hid (∀ i, i < L.length → ktx (L.take (i + 1)) = ktx (L.take i) ++ ptS (lat L i).1.toNat (lat L i).2.toNat) := hidIt (fun i hi => ktx_take hi)
  have hend : Hid (ktx (L.take L.length) = ktx L) := hidIt (by rw [List.take_length])
  have HA := hidIt hall
  have HR := hidIt h
  clear h hall hk
  generalize ktx L = res at hend ⊢
  generalize hn : L.length = n at *
  have HN := hidIt hn
  clear hn
  go_enter Tryz.func17, Tryz.ntmps17
  go_wp2_with (fail)
  go_loopw [3, 4] (fun z y wx => ∃ i : Nat, y = .int .i64 i ∧ i ≤ n ∧ z = .string (ktx (L.take i)) ∧ Hid (Below w.heap.size w wx)) (fun _ y _ => (n - intOf y).toNat)
  case atStart => exact ⟨0, rfl, by omega, rfl, hidIt (Below.refl _ _)⟩
  case round =>
    obtain ⟨i, rfl, hi, rfl, HB⟩ := hrel
    have hs1 := hsz.out i hi
    rcases Nat.lt_or_ge i n with hin | hin
    · have g2 : (i : Int) < (n : Int) := by omega
      obtain ⟨b, off, rfl, c0, c1⟩ := (HR.out.kept HB.out).cell i (by rw [HN.out]; exact hin)
      have HS := hidIt (hst.out i hin)
      have hok := HA.out i hin
      have hs2 := okP_size hok
      generalize lat L i = p at *
      obtain ⟨x, y, rfl, hxy⟩ := okP_nat hok
      have hle := ok_le hxy
      have HK := hidIt (fun W => l3Point_any x y W hle.1 hle.2)
      simp only [Int.toNat_natCast] at HS hs2 c0 c1
      generalize ptS x y = t at HK HS hs2
      generalize ktx (L.take i) = v at HS hs1 ⊢
      have q1 : ¬ 9223372036854775807 < v.size + t.size := by omega
      clear hok hxy hle
      go_wp2_with (go_at_call 38; refine (HK.out _).mono ?_; rintro e w1 ⟨rfl, hB1⟩)
      refine ⟨⟨i + 1, by simp, by omega, by rw [HS.out], hidIt (HB.out.trans (hB1.mono HB.out.size))⟩, by simp [intOf]; omega⟩
    · have g2 : ¬ (i : Int) < (n : Int) := by omega
      have e : i = n := by omega
      subst e
      rw [hend.out]
      go_wp2_with (fail)
      go_ret
      exact ⟨rfl, HB.out⟩
end Go.Proofs.YtciikondckoboaaGreatDoor.Dd
namespace Go.Proofs.YtciikondckoboaaGreatDoor.Dd
open Go.ChangeShapes Go.WideShapes Go.ChangeAt Go.RowKit
open Cv Cu Sg
open Go.Proofs.YtciikondckoboaaGreatDoor.Pt (Ln lat)
open Go.Proofs.YtciikondckoboaaGreatDoor.Bo (Box Box.new Box.newAt Box.kept Box.alloc Box.put Box.other Box.c Box.drew)
open Go.Proofs.YtciikondckoboaaGreatDoor.Nm (bs okB)
set_option linter.unusedVariables false
/-- The cells of a Deed: its Zone, its Keys, its Seal. -/
abbrev dc (z : ByteArray) (v : Value) (k1 k2 u r1 r2 t : Int) : Array Value := #[.string z, v, .int .i64 k1, .int .i64 k2, .int .i64 u, .int .i64 r1, .int .i64 r2, .int .i64 t]
abbrev dv (z : ByteArray) (v : Value) (k1 k2 u r1 r2 t : Int) : Value := .agg (dc z v k1 k2 u r1 r2 t)
def dsN (z : ByteArray) (a b : Nat) : Nat := hashN (nums (z ++ Sg.blank ++ ptS a b))
def dsB (z : ByteArray) (k1 k2 : Int) : Int := if okB (bs z) && okI k1 k2 then (dsN z k1.toNat k2.toNat : Int) else -1
theorem dsB_no {z : ByteArray} {k1 k2 : Int} (h : okB (bs z) = false ∨ okI k1 k2 = false) : dsB z k1 k2 = -1 := by
  unfold dsB
  rcases h with h | h
  · rw [h]; rfl
  · rw [h, Bool.and_false]; rfl
theorem dsB_yes {z : ByteArray} {a b : Nat} (h : okB (bs z) = true) (h' : okI a b = true) : dsB z a b = (dsN z a b : Int) := by
  unfold dsB
  rw [h, h']
  rfl
theorem okB_size {z : ByteArray} (h : okB (bs z) = true) : z.size ≤ 60 := by
  have := Nm.ok_short h
  rwa [Nm.bs_length] at this
set_option maxRecDepth 100000 in
set_option maxHeartbeats 4000000 in
theorem spec_l9Ds (z : ByteArray) (a b : Nat) (w : World) (hz : z.size ≤ 60) (hk : okN (a, b) = true) :
    Calls Tryz.prog 31 #[.string z, .agg #[.int .i64 a, .int .i64 b]] w fun e w' => e = .returned (.int .i64 (dsN z a b)) ∧ Below w.heap.size w w' := by
  have hle := ok_le hk
  have CP := hidIt (fun W => l3Point_any a b W hle.1 hle.2)
  have hs2 := ptS_size a b hle.1 hle.2
  have CH : Hid (∀ W, Calls Tryz.prog 57 #[.string (z ++ ⟨#[32]⟩ ++ ptS a b)] W fun e w' => e = .returned (.int .i64 (dsN z a b)) ∧ w' = W) := hidIt (fun W => by
    have := spec_Hash (z ++ Sg.blank ++ ptS a b) W (by rw [ByteArray.size_append, ByteArray.size_append, Sg.blank_size]; omega)
    exact this)
  generalize dsN z a b = r at CH ⊢
  generalize ptS a b = t at CP CH hs2
  have q0 : (⟨#[32]⟩ : ByteArray).size = 1 := rfl
  have q1 : ¬ 9223372036854775807 < z.size + 1 := by omega
  have q2 : ¬ 9223372036854775807 < z.size + 1 + t.size := by omega
  clear hle hk
  go_enter Tryz.func31, Tryz.ntmps31
  go_wp2_with (fail)
  refine (CP.out _).mono ?_
  rintro e w1 ⟨rfl, k1⟩
  have HB := hidIt (((Below.refl w.heap.size w).alloc (Nat.le_refl _) (.cells #[.int .i64 a, .int .i64 b] 26)).trans (k1.mono (by simp)))
  clear k1
  go_wp2_with (fail)
  refine (CH.out _).mono ?_
  rintro e w2 ⟨rfl, rfl⟩
  go_wp2_with (fail)
  go_ret
  exact ⟨rfl, HB.out⟩
set_option maxRecDepth 100000 in
set_option maxHeartbeats 4000000 in
theorem spec_DsOf (z : ByteArray) (v : Value) (k1 k2 u r1 r2 t : Int) (w : World) (hv : ∃ a n c, v = .slice a n c) :
    Calls Tryz.prog 10 #[dv z v k1 k2 u r1 r2 t] w fun e w' => e = .returned (.int .i64 (dsB z k1 k2)) ∧ Below w.heap.size w w' := by
  obtain ⟨a, n, cap, rfl⟩ := hv
  have CN := hidIt (fun W => Nm.spec_NameOk z W)
  have CP := hidIt (fun W => spec_PointOk k1 k2 W)
  have BA := hidIt (Box.new w (dc z (.slice a n cap) k1 k2 u r1 r2 t) 32)
  have HB : Hid (Below w.heap.size w (w.alloc (.cells (dc z (.slice a n cap) k1 k2 u r1 r2 t) 32))) := hidIt ((Below.refl w.heap.size w).alloc (Nat.le_refl _) _)
  cases h1 : okB (bs z) with
  | false =>
    rw [dsB_no (.inl h1)]
    rw [h1] at CN
    clear h1
    go_enter Tryz.func10, Tryz.ntmps10
    go_wp2_with (fail)
    refine (CN.out _).mono ?_
    rintro e w1 ⟨rfl, k⟩
    replace HB := hidIt (HB.out.trans (k.mono HB.out.size))
    clear k
    go_wp2_with (fail)
    go_ret
    exact ⟨rfl, HB.out⟩
  | true =>
    cases h2 : okI k1 k2 with
    | false =>
      rw [dsB_no (.inr h2)]
      rw [h1] at CN
      rw [h2] at CP
      clear h1 h2
      go_enter Tryz.func10, Tryz.ntmps10
      go_wp2_with (fail)
      refine (CN.out _).mono ?_
      rintro e w1 ⟨rfl, k⟩
      replace BA := hidIt (BA.out.kept k)
      replace HB := hidIt (HB.out.trans (k.mono HB.out.size))
      clear k
      have c2 := BA.out.c 2 (v := .int .i64 k1) rfl
      have c3 := BA.out.c 3 (v := .int .i64 k2) rfl
      go_wp2_with (fail)
      refine (CP.out _).mono ?_
      rintro e w2 ⟨rfl, k⟩
      replace HB := hidIt (HB.out.trans (k.mono HB.out.size))
      clear k
      go_wp2_with (fail)
      go_ret
      exact ⟨rfl, HB.out⟩
    | true =>
      obtain ⟨x, y, rfl, rfl, hxy⟩ := okI_nat h2
      rw [dsB_yes h1 h2]
      have CD := hidIt (fun W => spec_l9Ds z x y W (okB_size h1) hxy)
      rw [h1] at CN
      rw [h2] at CP
      clear h1 h2 hxy
      generalize dsN z x y = r at CD ⊢
      go_enter Tryz.func10, Tryz.ntmps10
      go_wp2_with (fail)
      refine (CN.out _).mono ?_
      rintro e w1 ⟨rfl, k⟩
      replace BA := hidIt (BA.out.kept k)
      replace HB := hidIt (HB.out.trans (k.mono HB.out.size))
      clear k
      have c2 := BA.out.c 2 (v := .int .i64 x) rfl
      have c3 := BA.out.c 3 (v := .int .i64 y) rfl
      go_wp2_with (fail)
      refine (CP.out _).mono ?_
      rintro e w2 ⟨rfl, k⟩
      replace BA := hidIt (BA.out.kept k)
      replace HB := hidIt (HB.out.trans (k.mono HB.out.size))
      clear k c2 c3
      have c0 := BA.out.c 0 (v := .string z) rfl
      have c2 := BA.out.c 2 (v := .int .i64 x) rfl
      have c3 := BA.out.c 3 (v := .int .i64 y) rfl
      go_wp2_with (fail)
      refine (CD.out _).mono ?_
      rintro e w3 ⟨rfl, k⟩
      replace HB := hidIt (HB.out.trans (k.mono HB.out.size))
      clear k c0 c2 c3 BA
      go_wp2_with (fail)
      go_ret
      exact ⟨rfl, HB.out⟩
end Go.Proofs.YtciikondckoboaaGreatDoor.Dd
namespace Go.Proofs.YtciikondckoboaaGreatDoor.Dd
open Go.ChangeShapes Go.WideShapes Go.ChangeAt Go.RowKit
open Cv Cu Sg
open Go.Proofs.YtciikondckoboaaGreatDoor.Pt (Ln lat)
open Go.Proofs.YtciikondckoboaaGreatDoor.Bo (Box Box.new Box.newAt Box.kept Box.alloc Box.put Box.other Box.c Box.drew)
open Go.Proofs.YtciikondckoboaaGreatDoor.Nm (bs okB)
open Go.Proofs.YtciikondckoboaaGreatDoor.Ro (timB secB inB)
open Go.Proofs.YtciikondckoboaaGreatDoor.Rc (BelowBy wp_region_below calls_below calls_same)
set_option linter.unusedVariables false
theorem inB_of {n lo hi : Int} : inB n lo hi = (decide (lo ≤ n) && decide (n ≤ hi)) := rfl
set_option maxRecDepth 100000 in
theorem impl_timeOk (n : Int) (w : World) : Calls Tryz.prog 58 #[.int .i64 n] w fun e w' => e = .returned (.bool (timB n)) ∧ w' = w := by
  unfold timB inB
  by_cases h : 0 ≤ n
  · have h' : decide ((0 : Int) ≤ n) = true := decide_eq_true h
    rw [h', Bool.true_and]
    go_enter Tryz.func58, Tryz.ntmps58
    go_wp2
    go_ret
    exact ⟨rfl, rfl⟩
  · have h' : decide ((0 : Int) ≤ n) = false := decide_eq_false h
    rw [h', Bool.false_and]
    go_enter Tryz.func58, Tryz.ntmps58
    go_wp2
    go_ret
    exact ⟨rfl, rfl⟩
theorem formatInt_S (n : Nat) (w : World) (hn : n ≤ 1099511627776) (ht : Tab w) : Calls Tryz.prog 80 #[.int .i64 n, .int .i64 10] w fun e w' => e = .returned (.string (numS n)) ∧ Below w.heap.size w w' :=
  formatInt_any n (by omega) (by omega) w ht
set_option maxRecDepth 100000 in
set_option maxHeartbeats 2000000 in
theorem impl_withBlank (u : Nat) (w : World) (hu : u ≤ 1099511627776) (ht : Tab w) : Calls Tryz.prog 63 #[.int .i64 u] w fun e w' => e = .returned (.string (numS u ++ ⟨#[32]⟩)) ∧ Below w.heap.size w w' := by
  have CF := hidIt (fun W t => formatInt_S u W hu t)
  have hx := numS_size u hu
  generalize numS u = x at CF hx ⊢
  have q0 : (⟨#[32]⟩ : ByteArray).size = 1 := rfl
  have q1 : ¬ 9223372036854775807 < x.size + 1 := by omega
  go_enter Tryz.func63, Tryz.ntmps63
  go_wp2_with (fail)
  refine (CF.out _ ht).mono ?_
  rintro e w1 ⟨rfl, k⟩
  go_wp2_with (fail)
  go_ret
  exact ⟨rfl, k⟩
set_option maxRecDepth 100000 in
set_option maxHeartbeats 2000000 in
theorem impl_sealed (u : Nat) (s : ByteArray) (w : World) (hu : u ≤ 1000000) (hs : s.size ≤ 4611686018427370000) (ht : Tab w) : Calls Tryz.prog 60 #[.int .i64 u, .string s] w fun e w' => e = .returned (.string (stx u s)) ∧ Below w.heap.size w w' := by
  have CF := hidIt (fun W t => impl_withBlank u W (by omega) t)
  have hx := numS_size u (by omega)
  rw [stx_eq]
  have q0 : (⟨#[32]⟩ : ByteArray).size = 1 := rfl
  have hy : (numS u ++ ⟨#[32]⟩).size ≤ 22 := by rw [ByteArray.size_append]; omega
  generalize numS u ++ ⟨#[32]⟩ = x at CF hy ⊢
  have q2 : ¬ 9223372036854775807 < x.size + s.size := by omega
  clear hx q0
  go_enter Tryz.func60, Tryz.ntmps60
  go_wp2_with (fail)
  refine (CF.out _ ht).mono ?_
  rintro e w1 ⟨rfl, k⟩
  go_wp2_with (fail)
  go_ret
  exact ⟨rfl, k⟩
end Go.Proofs.YtciikondckoboaaGreatDoor.Dd
namespace Go.Proofs.YtciikondckoboaaGreatDoor.Dd
open Go.ChangeShapes Go.WideShapes Go.ChangeAt Go.RowKit
open Cv Cu Sg
open Go.Proofs.YtciikondckoboaaGreatDoor.Pt (Ln lat)
open Go.Proofs.YtciikondckoboaaGreatDoor.Bo (Box Box.new Box.newAt Box.kept Box.alloc Box.put Box.other Box.c Box.drew)
open Go.Proofs.YtciikondckoboaaGreatDoor.Nm (bs okB)
open Go.Proofs.YtciikondckoboaaGreatDoor.Rc (BelowBy wp_region_below calls_below calls_same)
set_option linter.unusedVariables false
def hasB (L : List Ln) (x y : Int) : Bool := decide ((x, y) ∈ L)
theorem has_yes {L : List Ln} {x y : Int} {i : Nat} (hi : i < L.length) (h : lat L i = (x, y)) : hasB L x y = true := by
  rw [lat_eq hi] at h
  exact decide_eq_true (h ▸ List.getElem_mem hi)
theorem has_no {L : List Ln} {x y : Int} (h : ∀ i, i < L.length → lat L i ≠ (x, y)) : hasB L x y = false := by
  refine decide_eq_false (fun hm => ?_)
  obtain ⟨i, hi, e⟩ := List.mem_iff_getElem.1 hm
  exact h i hi (by rw [lat_eq hi]; exact e)
set_option maxRecDepth 100000 in
set_option maxHeartbeats 4000000 in
theorem spec_l9Has (a : Option Addr) (cap : Nat) (L : List Ln) (x y : Int) (w : World) (h : Pt.Rd w a L) (hl : L.length ≤ 9223372036854775806) :
    Calls Tryz.prog 26 #[.slice a L.length cap, .agg #[.int .i64 x, .int .i64 y]] w fun e w' => e = .returned (.bool (hasB L x y)) ∧ Below w.heap.size w w' := by
  have hall : Hid (∀ i, i < L.length → lat L i = (x, y) → hasB L x y = true) := hidIt (fun i hi e => has_yes hi e)
  have hnone : Hid ((∀ i, i < L.length → lat L i ≠ (x, y)) → hasB L x y = false) := hidIt has_no
  generalize hasB L x y = r at hall hnone ⊢
  have HR := hidIt h
  clear h
  generalize hn : L.length = n at *
  have HN := hidIt hn
  clear hn
  have BA := hidIt (Box.new w #[.int .i64 x, .int .i64 y] 26)
  have HB0 := hidIt ((Below.refl w.heap.size w).alloc (Nat.le_refl _) (.cells #[.int .i64 x, .int .i64 y] 26))
  go_enter Tryz.func26, Tryz.ntmps26
  go_wp2_with (fail)
  go_loopw [5] (fun z wx => ∃ i : Nat, z = .int .i64 i ∧ i ≤ n ∧ Hid (∀ j, j < i → lat L j ≠ (x, y)) ∧ Hid (Below w.heap.size w wx) ∧ Hid (Box wx w.heap.size #[.int .i64 x, .int .i64 y])) (fun z _ => (n - intOf z).toNat)
  case atStart => exact ⟨0, rfl, by omega, hidIt (fun j hj => by omega), HB0, BA⟩
  case round =>
    obtain ⟨i, rfl, hi, HE, HB, HX⟩ := hrel
    rcases Nat.lt_or_ge i n with hin | hin
    · have g2 : (i : Int) < (n : Int) := by omega
      obtain ⟨b, off, rfl, c0, c1⟩ := (HR.out.kept HB.out).cell i (by rw [HN.out]; exact hin)
      have d0 := HX.out.c 0 (v := .int .i64 x) rfl
      have d1 := HX.out.c 1 (v := .int .i64 y) rfl
      have HB' := hidIt (fun k => Go.Proofs.YtciikondckoboaaGreatDoor.Below.drewN HB.out k)
      have HX' : Hid (∀ k, Box (wr.drewN k) w.heap.size #[.int .i64 x, .int .i64 y]) := hidIt (fun k => ⟨HX.out.lt, HX.out.at', HX.out.fr⟩)
      by_cases e : lat L i = (x, y)
      · have er := hall.out i hin e
        subst er
        rw [e] at c0 c1
        have e1 : (x == x) = true := by simp
        have e2 : (y == y) = true := by simp
        clear e
        go_wp2_with (fail)
        go_quiet (fail)
        go_wp2_with (fail)
        go_ret
        exact ⟨rfl, HB'.out _⟩
      · have HE' : Hid (∀ j, j < i + 1 → lat L j ≠ (x, y)) := hidIt (fun j hj => by
          rcases Nat.lt_succ_iff_lt_or_eq.1 hj with h | h
          · exact HE.out j h
          · subst h; exact e)
        generalize lat L i = p at *
        obtain ⟨px, py⟩ := p
        simp only at c0 c1
        by_cases e1 : px = x
        · subst e1
          have e2 : (py == y) = false := by simp; intro h; exact e (by rw [h])
          have e3 : (px == px) = true := by simp
          clear e
          go_wp2_with (fail)
          go_quiet (fail)
          go_wp2_with (fail)
          exact ⟨⟨i + 1, by simp, by omega, HE', hidIt (HB'.out _), hidIt (HX'.out _)⟩, by simp [intOf]; omega⟩
        · have e2 : (px == x) = false := by simpa using e1
          clear e e1
          go_wp2_with (fail)
          go_quiet (fail)
          go_wp2_with (fail)
          exact ⟨⟨i + 1, by simp, by omega, HE', hidIt (HB'.out _), hidIt (HX'.out _)⟩, by simp [intOf]; omega⟩
    · have g2 : ¬ (i : Int) < (n : Int) := by omega
      have e : i = n := by omega
      subst e
      have er := hnone.out HE.out
      subst er
      go_wp2_with (fail)
      go_ret
      exact ⟨rfl, HB.out⟩
def trustB (ds : Int) (z : ByteArray) (L : List Ln) (k1 k2 u r1 r2 t K1 K2 U R1 R2 T : Int) (s : ByteArray) (now : Int) : Bool :=
  !decide (L.length = 0) && (keysB L && (decide (0 ≤ dsB z k1 k2) && (decide (ds = dsB z k1 k2) &&
    (hasB L k1 k2 && (holdsB k1 k2 u r1 r2 t (z ++ Sg.blank ++ ktx L) now && (hasB L K1 K2 && holdsB K1 K2 U R1 R2 T s now))))))
theorem dsB_cases (z : ByteArray) (k1 k2 : Int) : (dsB z k1 k2 = -1) ∨ (0 ≤ dsB z k1 k2 ∧ z.size ≤ 60) := by
  cases h1 : okB (bs z) with
  | false => exact .inl (dsB_no (.inl h1))
  | true =>
    cases h2 : okI k1 k2 with
    | false => exact .inl (dsB_no (.inr h2))
    | true =>
      obtain ⟨x, y, rfl, rfl, hxy⟩ := okI_nat h2
      refine .inr ⟨?_, okB_size h1⟩
      rw [dsB_yes h1 h2]
      omega
set_option maxRecDepth 100000 in
set_option maxHeartbeats 8000000 in
theorem spec_Trusted (ds : Int) (z : ByteArray) (a : Option Addr) (cap : Nat) (L : List Ln) (k1 k2 u r1 r2 t K1 K2 U R1 R2 T : Int) (s : ByteArray) (now : Int) (w : World) (h : Pt.Rd w a L) (hl : L.length ≤ 9223372036854775806) (hs : s.size ≤ 4611686018427370000) :
    Calls Tryz.prog 8 #[.int .i64 ds, dv z (.slice a L.length cap) k1 k2 u r1 r2 t, sv K1 K2 U R1 R2 T, .string s, .int .i64 now] w fun e w' => e = .returned (.bool (trustB ds z L k1 k2 u r1 r2 t K1 K2 U R1 R2 T s now)) ∧ Below w.heap.size w w' := by
  have CK := hidIt (fun W h => spec_l9Keys a cap L W h hl)
  have CD := hidIt (fun W => spec_DsOf z (.slice a L.length cap) k1 k2 u r1 r2 t W ⟨_, _, _, rfl⟩)
  have CT : Hid (keysB L = true → ∀ W, Pt.Rd W a L → _) := hidIt (fun hk W h => spec_l9KeysText a cap L W h hk)
  have CA := hidIt (fun W h => spec_l9Has a cap L k1 k2 W h hl)
  have CB := hidIt (fun W h => spec_l9Has a cap L K1 K2 W h hl)
  have CE := hidIt (fun W => spec_Holds K1 K2 U R1 R2 T s now W hs)
  have CF : Hid (keysB L = true → z.size ≤ 60 → ∀ W, Calls Tryz.prog 27 #[sv k1 k2 u r1 r2 t, .string (z ++ ⟨#[32]⟩ ++ ktx L), .int .i64 now] W fun e w' => e = .returned (.bool (holdsB k1 k2 u r1 r2 t (z ++ Sg.blank ++ ktx L) now)) ∧ Below W.heap.size W w') := hidIt (fun hk hz W => spec_Holds k1 k2 u r1 r2 t (z ++ Sg.blank ++ ktx L) now W (by
    have h1 := keys_each hk
    have := ktx_size h1.2 L.length (Nat.le_refl _)
    rw [List.take_length] at this
    rw [ByteArray.size_append, ByteArray.size_append, Sg.blank_size]
    omega))
  have HK : Hid (keysB L = true → (ktx L).size ≤ 176) := hidIt (fun hk => by
    have h1 := keys_each hk
    have := ktx_size h1.2 L.length (Nat.le_refl _)
    rw [List.take_length] at this
    omega)
  have hds := dsB_cases z k1 k2
  have HR := hidIt h
  clear h
  unfold trustB
  generalize dsB z k1 k2 = D at hds CD ⊢
  generalize holdsB k1 k2 u r1 r2 t (z ++ Sg.blank ++ ktx L) now = hd at CF ⊢
  generalize holdsB K1 K2 U R1 R2 T s now = hq at CE ⊢
  generalize hasB L k1 k2 = ha at CA ⊢
  generalize hasB L K1 K2 = hb at CB ⊢
  generalize ktx L = tx at CT CF HK
  generalize keysB L = kb at CK CT CF HK ⊢
  generalize hn : L.length = n at *
  have BA : Hid (Box ((w.alloc (.cells (dc z (.slice a n cap) k1 k2 u r1 r2 t) 32)).alloc (.cells (sc K1 K2 U R1 R2 T) 30)) w.heap.size (dc z (.slice a n cap) k1 k2 u r1 r2 t)) := hidIt ((Box.new w _ _).alloc _)
  have BB : Hid (Box ((w.alloc (.cells (dc z (.slice a n cap) k1 k2 u r1 r2 t) 32)).alloc (.cells (sc K1 K2 U R1 R2 T) 30)) (w.heap.size + 1) (sc K1 K2 U R1 R2 T)) := hidIt (Box.newAt (by simp))
  have HB : Hid (Below w.heap.size w ((w.alloc (.cells (dc z (.slice a n cap) k1 k2 u r1 r2 t) 32)).alloc (.cells (sc K1 K2 U R1 R2 T) 30))) := hidIt (((Below.refl w.heap.size w).alloc (Nat.le_refl _) _).alloc (by simp) _)
  have bool0 : decide ((0 : Nat) = 0) = true := rfl
  by_cases h0 : n = 0
  · subst h0
    rw [decide_eq_true rfl]
    go_enter Tryz.func8, Tryz.ntmps8
    go_wp2_with (fail)
    go_ret
    exact ⟨rfl, HB.out⟩
  · have h0' : ((n : Int) == 0) = false := by simpa using h0
    rw [decide_eq_false h0]
    cases kb with
    | false =>
      go_enter Tryz.func8, Tryz.ntmps8
      go_wp2_with (fail)
      refine (CK.out _ (HR.out.kept HB.out)).mono ?_
      rintro e w1 ⟨rfl, k⟩
      replace BA := hidIt (BA.out.kept k)
      replace BB := hidIt (BB.out.kept k)
      replace HB := hidIt (HB.out.trans (k.mono HB.out.size))
      clear k
      go_wp2_with (fail)
      go_ret
      exact ⟨rfl, HB.out⟩
    | true =>
      replace CT := hidIt (CT.out rfl)
      replace HK := HK.out rfl
      rcases hds with hD | ⟨hD, hz⟩
      · subst hD
        go_enter Tryz.func8, Tryz.ntmps8
        go_wp2_with (fail)
        refine (CK.out _ (HR.out.kept HB.out)).mono ?_
        rintro e w1 ⟨rfl, k⟩
        replace BA := hidIt (BA.out.kept k)
        replace BB := hidIt (BB.out.kept k)
        replace HB := hidIt (HB.out.trans (k.mono HB.out.size))
        clear k
        have a0 := BA.out.c 0 (v := .string z) rfl
        have a1 := BA.out.c 1 (v := .slice a n cap) rfl
        have a2 := BA.out.c 2 (v := .int .i64 k1) rfl
        have a3 := BA.out.c 3 (v := .int .i64 k2) rfl
        have a4 := BA.out.c 4 (v := .int .i64 u) rfl
        have a5 := BA.out.c 5 (v := .int .i64 r1) rfl
        have a6 := BA.out.c 6 (v := .int .i64 r2) rfl
        have a7 := BA.out.c 7 (v := .int .i64 t) rfl
        go_wp2_with (fail)
        refine (CD.out _).mono ?_
        rintro e w2 ⟨rfl, k⟩
        replace BA := hidIt (BA.out.kept k)
        replace BB := hidIt (BB.out.kept k)
        replace HB := hidIt (HB.out.trans (k.mono HB.out.size))
        clear k
        clear a0 a1 a2 a3 a4 a5 a6 a7
        go_wp2_with (fail)
        go_ret
        exact ⟨rfl, HB.out⟩
      · have hD' : ¬ D < 0 := by omega
        have hD2 : decide (0 ≤ D) = true := decide_eq_true hD
        rw [hD2]
        replace CF := hidIt (CF.out rfl hz)
        by_cases hE : ds = D
        · subst hE
          rw [decide_eq_true (rfl : ds = ds)]
          have hne : (ds != ds) = false := by simp
          have q0 : (⟨#[32]⟩ : ByteArray).size = 1 := rfl
          have q1 : ¬ 9223372036854775807 < z.size + 1 := by omega
          have q2 : ¬ 9223372036854775807 < z.size + 1 + tx.size := by omega
          go_enter Tryz.func8, Tryz.ntmps8
          go_wp2_with (fail)
          refine (CK.out _ (HR.out.kept HB.out)).mono ?_
          rintro e w1 ⟨rfl, k⟩
          replace BA := hidIt (BA.out.kept k)
          replace BB := hidIt (BB.out.kept k)
          replace HB := hidIt (HB.out.trans (k.mono HB.out.size))
          clear k
          have a0 := BA.out.c 0 (v := .string z) rfl
          have a1 := BA.out.c 1 (v := .slice a n cap) rfl
          have a2 := BA.out.c 2 (v := .int .i64 k1) rfl
          have a3 := BA.out.c 3 (v := .int .i64 k2) rfl
          have a4 := BA.out.c 4 (v := .int .i64 u) rfl
          have a5 := BA.out.c 5 (v := .int .i64 r1) rfl
          have a6 := BA.out.c 6 (v := .int .i64 r2) rfl
          have a7 := BA.out.c 7 (v := .int .i64 t) rfl
          go_wp2_with (fail)
          refine (CD.out _).mono ?_
          rintro e w2 ⟨rfl, k⟩
          replace BA := hidIt (BA.out.kept k)
          replace BB := hidIt (BB.out.kept k)
          replace HB := hidIt (HB.out.trans (k.mono HB.out.size))
          clear k
          clear a0 a1 a2 a3 a4 a5 a6 a7
          have a0 := BA.out.c 0 (v := .string z) rfl
          have a1 := BA.out.c 1 (v := .slice a n cap) rfl
          have a2 := BA.out.c 2 (v := .int .i64 k1) rfl
          have a3 := BA.out.c 3 (v := .int .i64 k2) rfl
          have a4 := BA.out.c 4 (v := .int .i64 u) rfl
          have a5 := BA.out.c 5 (v := .int .i64 r1) rfl
          have a6 := BA.out.c 6 (v := .int .i64 r2) rfl
          have a7 := BA.out.c 7 (v := .int .i64 t) rfl
          go_wp2_with (fail)
          refine (CD.out _).mono ?_
          rintro e wz ⟨rfl, k⟩
          replace BA := hidIt (BA.out.kept k)
          replace BB := hidIt (BB.out.kept k)
          replace HB := hidIt (HB.out.trans (k.mono HB.out.size))
          clear k
          clear a0 a1 a2 a3 a4 a5 a6 a7
          go_upto_region 3 with fail
          generalize w.heap.size + 1 = n1 at *
          haveI := BelowBy.one wz
          have TP := hidIt (fun p : BelowBy wz => (HR.out.kept HB.out).kept p.h)
          have g0 := fun p : BelowBy wz => p.cell (BA.out.c 0 (v := .string z) rfl)
          have g1 := fun p : BelowBy wz => p.cell (BA.out.c 1 (v := .slice a n cap) rfl)
          have g2 := fun p : BelowBy wz => p.cell (BA.out.c 2 (v := .int .i64 k1) rfl)
          have g3 := fun p : BelowBy wz => p.cell (BA.out.c 3 (v := .int .i64 k2) rfl)
          have g4 := fun p : BelowBy wz => p.cell (BA.out.c 4 (v := .int .i64 u) rfl)
          have g5 := fun p : BelowBy wz => p.cell (BA.out.c 5 (v := .int .i64 r1) rfl)
          have g6 := fun p : BelowBy wz => p.cell (BA.out.c 6 (v := .int .i64 r2) rfl)
          have g7 := fun p : BelowBy wz => p.cell (BA.out.c 7 (v := .int .i64 t) rfl)
          have m0 := fun p : BelowBy wz => p.cell (BB.out.c 0 (v := .int .i64 K1) rfl)
          have m1 := fun p : BelowBy wz => p.cell (BB.out.c 1 (v := .int .i64 K2) rfl)
          have m2 := fun p : BelowBy wz => p.cell (BB.out.c 2 (v := .int .i64 U) rfl)
          have m3 := fun p : BelowBy wz => p.cell (BB.out.c 3 (v := .int .i64 R1) rfl)
          have m4 := fun p : BelowBy wz => p.cell (BB.out.c 4 (v := .int .i64 R2) rfl)
          have m5 := fun p : BelowBy wz => p.cell (BB.out.c 5 (v := .int .i64 T) rfl)
          cases ha with
          | false =>
            refine wp_region_below (by kernel_rfl) (by kernel_rfl) ?_
            repeat (go_big_quiet_step (first | (go_at_call 26; first | (with_reducible exact calls_below (CA.out _ (TP.out _))) | (with_reducible exact calls_below (CB.out _ (TP.out _)))) | (go_at_call 17; exact calls_below (CT.out _ (TP.out _))) | (go_at_call 27; first | (with_reducible exact calls_below (CF.out _)) | (with_reducible exact calls_below (CE.out _)))))
            refine wpQuiet_nil ?_
            intro _ hw'
            obtain ⟨pq, rfl⟩ := hw'
            have k2 := pq.h
            generalize pq.world = w2 at k2 ⊢
            replace HB := hidIt (HB.out.trans (k2.mono HB.out.size))
            clear k2 g0 g1 g2 g3 g4 g5 g6 g7 m0 m1 m2 m3 m4 m5
            go_wp2_with (fail)
            go_ret
            exact ⟨by first | rfl | (cases hq <;> rfl), HB.out⟩
          | true =>
            cases hd with
            | false =>
              refine wp_region_below (by kernel_rfl) (by kernel_rfl) ?_
              repeat (go_big_quiet_step (first | (go_at_call 26; first | (with_reducible exact calls_below (CA.out _ (TP.out _))) | (with_reducible exact calls_below (CB.out _ (TP.out _)))) | (go_at_call 17; exact calls_below (CT.out _ (TP.out _))) | (go_at_call 27; first | (with_reducible exact calls_below (CF.out _)) | (with_reducible exact calls_below (CE.out _)))))
              refine wpQuiet_nil ?_
              intro _ hw'
              obtain ⟨pq, rfl⟩ := hw'
              have k2 := pq.h
              generalize pq.world = w2 at k2 ⊢
              replace HB := hidIt (HB.out.trans (k2.mono HB.out.size))
              clear k2 g0 g1 g2 g3 g4 g5 g6 g7 m0 m1 m2 m3 m4 m5
              go_wp2_with (fail)
              go_ret
              exact ⟨by first | rfl | (cases hq <;> rfl), HB.out⟩
            | true =>
              cases hb with
              | false =>
                refine wp_region_below (by kernel_rfl) (by kernel_rfl) ?_
                repeat (go_big_quiet_step (first | (go_at_call 26; first | (with_reducible exact calls_below (CA.out _ (TP.out _))) | (with_reducible exact calls_below (CB.out _ (TP.out _)))) | (go_at_call 17; exact calls_below (CT.out _ (TP.out _))) | (go_at_call 27; first | (with_reducible exact calls_below (CF.out _)) | (with_reducible exact calls_below (CE.out _)))))
                refine wpQuiet_nil ?_
                intro _ hw'
                obtain ⟨pq, rfl⟩ := hw'
                have k2 := pq.h
                generalize pq.world = w2 at k2 ⊢
                replace HB := hidIt (HB.out.trans (k2.mono HB.out.size))
                clear k2 g0 g1 g2 g3 g4 g5 g6 g7 m0 m1 m2 m3 m4 m5
                go_wp2_with (fail)
                go_ret
                exact ⟨by first | rfl | (cases hq <;> rfl), HB.out⟩
              | true =>
                refine wp_region_below (by kernel_rfl) (by kernel_rfl) ?_
                repeat (go_big_quiet_step (first | (go_at_call 26; first | (with_reducible exact calls_below (CA.out _ (TP.out _))) | (with_reducible exact calls_below (CB.out _ (TP.out _)))) | (go_at_call 17; exact calls_below (CT.out _ (TP.out _))) | (go_at_call 27; first | (with_reducible exact calls_below (CF.out _)) | (with_reducible exact calls_below (CE.out _)))))
                refine wpQuiet_nil ?_
                intro _ hw'
                obtain ⟨pq, rfl⟩ := hw'
                have k2 := pq.h
                generalize pq.world = w2 at k2 ⊢
                replace HB := hidIt (HB.out.trans (k2.mono HB.out.size))
                clear k2 g0 g1 g2 g3 g4 g5 g6 g7 m0 m1 m2 m3 m4 m5
                go_wp2_with (fail)
                go_ret
                exact ⟨by first | rfl | (cases hq <;> rfl), HB.out⟩
        · have hne : (ds != D) = true := by simpa using hE
          rw [decide_eq_false hE]
          go_enter Tryz.func8, Tryz.ntmps8
          go_wp2_with (fail)
          refine (CK.out _ (HR.out.kept HB.out)).mono ?_
          rintro e w1 ⟨rfl, k⟩
          replace BA := hidIt (BA.out.kept k)
          replace BB := hidIt (BB.out.kept k)
          replace HB := hidIt (HB.out.trans (k.mono HB.out.size))
          clear k
          have a0 := BA.out.c 0 (v := .string z) rfl
          have a1 := BA.out.c 1 (v := .slice a n cap) rfl
          have a2 := BA.out.c 2 (v := .int .i64 k1) rfl
          have a3 := BA.out.c 3 (v := .int .i64 k2) rfl
          have a4 := BA.out.c 4 (v := .int .i64 u) rfl
          have a5 := BA.out.c 5 (v := .int .i64 r1) rfl
          have a6 := BA.out.c 6 (v := .int .i64 r2) rfl
          have a7 := BA.out.c 7 (v := .int .i64 t) rfl
          go_wp2_with (fail)
          refine (CD.out _).mono ?_
          rintro e w2 ⟨rfl, k⟩
          replace BA := hidIt (BA.out.kept k)
          replace BB := hidIt (BB.out.kept k)
          replace HB := hidIt (HB.out.trans (k.mono HB.out.size))
          clear k
          clear a0 a1 a2 a3 a4 a5 a6 a7
          have a0 := BA.out.c 0 (v := .string z) rfl
          have a1 := BA.out.c 1 (v := .slice a n cap) rfl
          have a2 := BA.out.c 2 (v := .int .i64 k1) rfl
          have a3 := BA.out.c 3 (v := .int .i64 k2) rfl
          have a4 := BA.out.c 4 (v := .int .i64 u) rfl
          have a5 := BA.out.c 5 (v := .int .i64 r1) rfl
          have a6 := BA.out.c 6 (v := .int .i64 r2) rfl
          have a7 := BA.out.c 7 (v := .int .i64 t) rfl
          go_wp2_with (fail)
          refine (CD.out _).mono ?_
          rintro e w3 ⟨rfl, k⟩
          replace BA := hidIt (BA.out.kept k)
          replace BB := hidIt (BB.out.kept k)
          replace HB := hidIt (HB.out.trans (k.mono HB.out.size))
          clear k
          clear a0 a1 a2 a3 a4 a5 a6 a7
          go_wp2_with (fail)
          go_ret
          exact ⟨rfl, HB.out⟩
end Go.Proofs.YtciikondckoboaaGreatDoor.Dd
namespace Go.Proofs.YtciikondckoboaaGreatDoor.Dd
open Go.ChangeShapes Go.WideShapes Go.ChangeAt Go.RowKit
open Dr Cv Cu Sg
open Go.Proofs.YtciikondckoboaaGreatDoor.Pt (Ln)
set_option linter.unusedVariables false
theorem infoPt : (Tryz.prog.info? 26).map (fun i => (i.zero, i.size, i.bytes)) = some (some (.agg #[.int .i64 0, .int .i64 0]), 2, 16) := by kernel_rfl
theorem fresh_cells (w : World) (x y : Int) (T : TypeId) : ∀ j u, ([Value.int .i64 x, Value.int .i64 y] : List Value)[j]? = some u → (w.alloc (.cells #[.int .i64 x, .int .i64 y] T)).cell? ((⟨w.heap.size, 0, none⟩ : Addr).add j) = some u := by
  intro j u hj
  match j, hj with
  | 0, hj => simp at hj; subst hj; simp [Addr.add]
  | 1, hj => simp at hj; subst hj; simp [Addr.add]
end Go.Proofs.YtciikondckoboaaGreatDoor.Dd
