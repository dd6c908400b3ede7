/-
  A list of keys: whether all are Points, its text; KeysText of the specification.
  A Deed: its cells; DsOf of the specification.
  Times, numbers with a blank, what is sealed, and SealOf of the program.
  What the drawing functions of chapter 9 answer, whatever the bytes: some numbers, some short text, some Points; they turn nothing that was.
  DrawHolds: some Seal, some short text, some time; it turns nothing that was.
-/
import Derived.Test.YtciikondckoboaaDoorBun3
import Derived.Test.YtciikondckoboaaDoorAllN
import Derived.Test.YtciikondckoboaaDoorCurveS
import Derived.Test.YtciikondckoboaaDoorNameT
import Derived.Test.YtciikondckoboaaDoorNameL
import Derived.Test.YtciikondckoboaaDoorQuiet
import Derived.Test.YtciikondckoboaaDoorSignK
import Derived.Test.YtciikondckoboaaDoorBun1
import Derived.Test.YtciikondckoboaaDoorSignE
import Derived.Test.YtciikondckoboaaDoorCurveD
import Derived.Test.YtciikondckoboaaDoorBoxM
namespace Go.Proofs.YtciikondckoboaaDoor.Dd
open Go.ChangeShapes Go.WideShapes Go.ChangeAt Go.RowKit
open Cv Cu Sg
open Go.Proofs.YtciikondckoboaaDoor.Pt (Ln lat)
set_option linter.unusedVariables false
def okP (p : Ln) : Bool := okI p.1 p.2
def keysB (L : List Ln) : Bool := L.all okP && decide (L.length ≤ 4)
theorem lat_eq {L : List Ln} {i : Nat} (h : i < L.length) : lat L i = L[i] := by
  have := Pt.lat_getElem? h
  rw [List.getElem?_eq_getElem h] at this
  exact (Option.some.inj this).symm
theorem keys_bad {L : List Ln} {i : Nat} (hi : i < L.length) (h : okP (lat L i) = false) : keysB L = false := by
  unfold keysB
  rw [Nm.all_bad hi (by rw [← lat_eq hi]; exact h), Bool.false_and]
theorem keys_end {L : List Ln} (h : (L.take L.length).all okP = true) : keysB L = decide (L.length ≤ 4) := by
  unfold keysB
  rw [List.take_length] at h
  rw [h, Bool.true_and]
theorem keys_each {L : List Ln} (h : keysB L = true) : L.length ≤ 4 ∧ ∀ i, i < L.length → okP (lat L i) = true := by
  unfold keysB at h
  simp only [Bool.and_eq_true, decide_eq_true_eq] at h
  exact ⟨h.2, fun i hi => by rw [lat_eq hi]; exact List.all_eq_true.1 h.1 _ (List.getElem_mem hi)⟩
theorem okP_nat {p : Ln} (h : okP p = true) : ∃ a b : Nat, p = ((a : Int), (b : Int)) ∧ okN (a, b) = true := by
  obtain ⟨a, b, e1, e2, hk⟩ := okI_nat h
  exact ⟨a, b, by rw [← e1, ← e2], hk⟩
/-- The text of the keys. -/
def ktx (L : List Ln) : ByteArray := L.foldl (fun s p => s ++ ptS p.1.toNat p.2.toNat) ByteArray.empty
theorem ktx_nil : ktx [] = ByteArray.empty := rfl
theorem ktx_more (L : List Ln) (p : Ln) : ktx (L ++ [p]) = ktx L ++ ptS p.1.toNat p.2.toNat := by
  unfold ktx
  rw [List.foldl_append]
  rfl
theorem ktx_take {L : List Ln} {i : Nat} (hi : i < L.length) : ktx (L.take (i + 1)) = ktx (L.take i) ++ ptS (lat L i).1.toNat (lat L i).2.toNat := by
  rw [List.take_add_one, List.getElem?_eq_getElem hi, ← lat_eq hi]
  exact ktx_more _ _
theorem okP_size {p : Ln} (h : okP p = true) : (ptS p.1.toNat p.2.toNat).size ≤ 44 := by
  obtain ⟨a, b, rfl, hk⟩ := okP_nat h
  have := ok_le hk
  exact ptS_size a b this.1 this.2
theorem ktx_size {L : List Ln} (h : ∀ i, i < L.length → okP (lat L i) = true) : ∀ i, i ≤ L.length → (ktx (L.take i)).size ≤ 44 * i
  | 0, _ => by simp [ktx_nil]
  | i + 1, hi => by
    have h1 := ktx_size h i (by omega)
    have h2 := okP_size (h i (by omega))
    rw [ktx_take (by omega), ByteArray.size_append]
    omega
def keysT (L : List Ln) : ByteArray := if keysB L then ktx L else ByteArray.empty
theorem keysT_size (L : List Ln) : (keysT L).size ≤ 176 := by
  unfold keysT
  split
  · next h =>
    have hk := keys_each h
    have := ktx_size hk.2 L.length (Nat.le_refl _)
    rw [List.take_length] at this
    omega
  · simp
set_option maxRecDepth 100000 in
set_option maxHeartbeats 4000000 in
theorem spec_l9Keys (a : Option Addr) (cap : Nat) (L : List Ln) (w : World) (h : Pt.Rd w a L) (hl : L.length ≤ 9223372036854775806) :
    Calls Tryd.prog 36 #[.slice a L.length cap] w fun e w' => e = .returned (.bool (keysB L)) ∧ Below w.heap.size w w' := by
  have hbad : Hid (∀ i, i < L.length → okP (lat L i) = false → keysB L = false) := hidIt (fun i hi k => keys_bad hi k)
  have hend : Hid ((L.take L.length).all okP = true → keysB L = decide (L.length ≤ 4)) := hidIt keys_end
  have hst : Hid (∀ i, i < L.length → (L.take i).all okP = true → okP (lat L i) = true → (L.take (i + 1)).all okP = true) := hidIt (fun i hi h1 h2 => Nm.all_take hi h1 (by rw [← lat_eq hi]; exact h2))
  generalize keysB L = r at hbad hend ⊢
  have HR := hidIt h
  clear h
  generalize hn : L.length = n at *
  have HN := hidIt hn
  clear hn
  go_enter Tryd.func36, Tryd.ntmps36
  go_wp2_with (fail)
  go_loopw [3] (fun y wx => ∃ i : Nat, y = .int .i64 i ∧ i ≤ n ∧ Hid ((L.take i).all okP = true) ∧ Hid (Below w.heap.size w wx)) (fun y _ => (n - intOf y).toNat)
  case atStart => exact ⟨0, rfl, by omega, hidIt rfl, hidIt (Below.refl _ _)⟩
  case round =>
    obtain ⟨i, rfl, hi, HA, HB⟩ := hrel
    rcases Nat.lt_or_ge i n with hin | hin
    · have g2 : (i : Int) < (n : Int) := by omega
      obtain ⟨b, off, rfl, c0, c1⟩ := (HR.out.kept HB.out).cell i (by rw [HN.out]; exact hin)
      have HK := hidIt (fun W => spec_PointOk (lat L i).1 (lat L i).2 W)
      have Hb := hidIt (hbad.out i hin)
      have Hs := hidIt (hst.out i hin HA.out)
      have hq : okP (lat L i) = okI (lat L i).1 (lat L i).2 := rfl
      rw [hq] at Hb Hs
      clear hq
      generalize lat L i = p at *
      obtain ⟨x, y⟩ := p
      simp only at HK c0 c1 Hb Hs
      cases hk : okI x y with
      | false =>
        rw [hk] at HK
        have er := Hb.out hk
        subst er
        clear hk
        go_wp2_with (go_at_call 29; refine (HK.out _).mono ?_; rintro e w1 ⟨rfl, hB1⟩)
        go_ret
        exact ⟨rfl, HB.out.trans (hB1.mono HB.out.size)⟩
      | true =>
        rw [hk] at HK
        have HA2 := hidIt (Hs.out hk)
        clear hk
        go_wp2_with (go_at_call 29; refine (HK.out _).mono ?_; rintro e w1 ⟨rfl, hB1⟩)
        refine ⟨⟨i + 1, by simp, by omega, HA2, hidIt (HB.out.trans (hB1.mono HB.out.size))⟩, by simp [intOf]; omega⟩
    · have g2 : ¬ (i : Int) < (n : Int) := by omega
      have e : i = n := by omega
      subst e
      have er := hend.out HA.out
      by_cases h4 : i ≤ 4
      · have h4' : (i : Int) ≤ 4 := by omega
        rw [decide_eq_true h4] at er
        subst er
        go_wp2_with (fail)
        go_ret
        exact ⟨rfl, HB.out⟩
      · have h4' : ¬ (i : Int) ≤ 4 := by omega
        rw [decide_eq_false h4] at er
        subst er
        go_wp2_with (fail)
        go_ret
        exact ⟨rfl, HB.out⟩
set_option maxRecDepth 100000 in
set_option maxHeartbeats 4000000 in
theorem spec_l9KeysText (a : Option Addr) (cap : Nat) (L : List Ln) (w : World) (h : Pt.Rd w a L) (hk : keysB L = true) :
    Calls Tryd.prog 37 #[.slice a L.length cap] w fun e w' => e = .returned (.string (ktx L)) ∧ Below w.heap.size w w' := by
  obtain ⟨h4, hall⟩ := keys_each hk
  have hsz := hidIt (ktx_size hall)
  have hst : Hid (∀ i, i < L.length → ktx (L.take (i + 1)) = ktx (L.take i) ++ ptS (lat L i).1.toNat (lat L i).2.toNat) := hidIt (fun i hi => ktx_take hi)
  have hend : Hid (ktx (L.take L.length) = ktx L) := hidIt (by rw [List.take_length])
  have HA := hidIt hall
  have HR := hidIt h
  clear h hall hk
  generalize ktx L = res at hend ⊢
  generalize hn : L.length = n at *
  have HN := hidIt hn
  clear hn
  go_enter Tryd.func37, Tryd.ntmps37
  go_wp2_with (fail)
  go_loopw [3, 4] (fun z y wx => ∃ i : Nat, y = .int .i64 i ∧ i ≤ n ∧ z = .string (ktx (L.take i)) ∧ Hid (Below w.heap.size w wx)) (fun _ y _ => (n - intOf y).toNat)
  case atStart => exact ⟨0, rfl, by omega, rfl, hidIt (Below.refl _ _)⟩
  case round =>
    obtain ⟨i, rfl, hi, rfl, HB⟩ := hrel
    have hs1 := hsz.out i hi
    rcases Nat.lt_or_ge i n with hin | hin
    · have g2 : (i : Int) < (n : Int) := by omega
      obtain ⟨b, off, rfl, c0, c1⟩ := (HR.out.kept HB.out).cell i (by rw [HN.out]; exact hin)
      have HS := hidIt (hst.out i hin)
      have hok := HA.out i hin
      have hs2 := okP_size hok
      generalize lat L i = p at *
      obtain ⟨x, y, rfl, hxy⟩ := okP_nat hok
      have hle := ok_le hxy
      have HK := hidIt (fun W => l3Point_any x y W hle.1 hle.2)
      simp only [Int.toNat_natCast] at HS hs2 c0 c1
      generalize ptS x y = t at HK HS hs2
      generalize ktx (L.take i) = v at HS hs1 ⊢
      have q1 : ¬ 9223372036854775807 < v.size + t.size := by omega
      clear hok hxy hle
      go_wp2_with (go_at_call 62; refine (HK.out _).mono ?_; rintro e w1 ⟨rfl, hB1⟩)
      refine ⟨⟨i + 1, by simp, by omega, by rw [HS.out], hidIt (HB.out.trans (hB1.mono HB.out.size))⟩, by simp [intOf]; omega⟩
    · have g2 : ¬ (i : Int) < (n : Int) := by omega
      have e : i = n := by omega
      subst e
      rw [hend.out]
      go_wp2_with (fail)
      go_ret
      exact ⟨rfl, HB.out⟩
set_option maxRecDepth 100000 in
set_option maxHeartbeats 4000000 in
theorem spec_KeysText (a : Option Addr) (cap : Nat) (L : List Ln) (w : World) (h : Pt.Rd w a L) (hl : L.length ≤ 9223372036854775806) :
    Calls Tryd.prog 13 #[.slice a L.length cap] w fun e w' => e = .returned (.string (keysT L)) ∧ Below w.heap.size w w' := by
  have CK := hidIt (spec_l9Keys a cap L w h hl)
  have HR := hidIt h
  clear h
  unfold keysT
  cases hk : keysB L with
  | false =>
    rw [hk] at CK
    clear hk
    go_enter Tryd.func13, Tryd.ntmps13
    go_wp2_with (fail)
    refine CK.out.mono ?_
    rintro e w1 ⟨rfl, k1⟩
    go_wp2_with (fail)
    go_ret
    exact ⟨rfl, k1⟩
  | true =>
    rw [hk] at CK
    have CT := hidIt (fun W hW => spec_l9KeysText a cap L W hW hk)
    clear hk
    generalize ktx L = res at CT ⊢
    go_enter Tryd.func13, Tryd.ntmps13
    go_wp2_with (fail)
    refine CK.out.mono ?_
    rintro e w1 ⟨rfl, k1⟩
    go_wp2_with (fail)
    refine (CT.out _ (HR.out.kept k1)).mono ?_
    rintro e w2 ⟨rfl, k2⟩
    go_wp2_with (fail)
    go_ret
    exact ⟨rfl, k1.trans (k2.mono k1.size)⟩
end Go.Proofs.YtciikondckoboaaDoor.Dd
namespace Go.Proofs.YtciikondckoboaaDoor.Dd
open Go.ChangeShapes Go.WideShapes Go.ChangeAt Go.RowKit
open Cv Cu Sg
open Go.Proofs.YtciikondckoboaaDoor.Pt (Ln lat)
open Go.Proofs.YtciikondckoboaaDoor.Bo (Box Box.new Box.newAt Box.kept Box.alloc Box.put Box.other Box.c Box.drew)
open Go.Proofs.YtciikondckoboaaDoor.Nm (bs okB)
set_option linter.unusedVariables false
/-- The cells of a Deed: its Zone, its Keys, its Seal. -/
abbrev dc (z : ByteArray) (v : Value) (k1 k2 u r1 r2 t : Int) : Array Value := #[.string z, v, .int .i64 k1, .int .i64 k2, .int .i64 u, .int .i64 r1, .int .i64 r2, .int .i64 t]
abbrev dv (z : ByteArray) (v : Value) (k1 k2 u r1 r2 t : Int) : Value := .agg (dc z v k1 k2 u r1 r2 t)
def dsN (z : ByteArray) (a b : Nat) : Nat := hashN (nums (z ++ Sg.blank ++ ptS a b))
def dsB (z : ByteArray) (k1 k2 : Int) : Int := if okB (bs z) && okI k1 k2 then (dsN z k1.toNat k2.toNat : Int) else -1
theorem dsB_no {z : ByteArray} {k1 k2 : Int} (h : okB (bs z) = false ∨ okI k1 k2 = false) : dsB z k1 k2 = -1 := by
  unfold dsB
  rcases h with h | h
  · rw [h]; rfl
  · rw [h, Bool.and_false]; rfl
theorem dsB_yes {z : ByteArray} {a b : Nat} (h : okB (bs z) = true) (h' : okI a b = true) : dsB z a b = (dsN z a b : Int) := by
  unfold dsB
  rw [h, h']
  rfl
theorem okB_size {z : ByteArray} (h : okB (bs z) = true) : z.size ≤ 60 := by
  have := Nm.ok_short h
  rwa [Nm.bs_length] at this
end Go.Proofs.YtciikondckoboaaDoor.Dd
namespace Go.Proofs.YtciikondckoboaaDoor.Dd
open Go.ChangeShapes Go.WideShapes Go.ChangeAt Go.RowKit
open Cv Cu Sg
open Go.Proofs.YtciikondckoboaaDoor.Pt (Ln lat)
open Go.Proofs.YtciikondckoboaaDoor.Bo (Box Box.new Box.newAt Box.kept Box.alloc Box.put Box.other Box.c Box.drew)
open Go.Proofs.YtciikondckoboaaDoor.Nm (bs okB)
open Go.Proofs.YtciikondckoboaaDoor.Ro (timB secB inB)
open Go.Proofs.YtciikondckoboaaDoor.Rc (BelowBy wp_region_below calls_below calls_same)
set_option linter.unusedVariables false
theorem inB_of {n lo hi : Int} : inB n lo hi = (decide (lo ≤ n) && decide (n ≤ hi)) := rfl
set_option maxRecDepth 100000 in
theorem impl_timeOk (n : Int) (w : World) : Calls Tryd.prog 22 #[.int .i64 n] w fun e w' => e = .returned (.bool (timB n)) ∧ w' = w := by
  unfold timB inB
  by_cases h : 0 ≤ n
  · have h' : decide ((0 : Int) ≤ n) = true := decide_eq_true h
    rw [h', Bool.true_and]
    go_enter Tryd.func22, Tryd.ntmps22
    go_wp2
    go_ret
    exact ⟨rfl, rfl⟩
  · have h' : decide ((0 : Int) ≤ n) = false := decide_eq_false h
    rw [h', Bool.false_and]
    go_enter Tryd.func22, Tryd.ntmps22
    go_wp2
    go_ret
    exact ⟨rfl, rfl⟩
theorem formatInt_S (n : Nat) (w : World) (hn : n ≤ 1099511627776) (ht : Tab w) : Calls Tryd.prog 70 #[.int .i64 n, .int .i64 10] w fun e w' => e = .returned (.string (numS n)) ∧ Below w.heap.size w w' :=
  formatInt_any n (by omega) (by omega) w ht
set_option maxRecDepth 100000 in
set_option maxHeartbeats 2000000 in
theorem impl_withBlank (u : Nat) (w : World) (hu : u ≤ 1099511627776) (ht : Tab w) : Calls Tryd.prog 49 #[.int .i64 u] w fun e w' => e = .returned (.string (numS u ++ ⟨#[32]⟩)) ∧ Below w.heap.size w w' := by
  have CF := hidIt (fun W t => formatInt_S u W hu t)
  have hx := numS_size u hu
  generalize numS u = x at CF hx ⊢
  have q0 : (⟨#[32]⟩ : ByteArray).size = 1 := rfl
  have q1 : ¬ 9223372036854775807 < x.size + 1 := by omega
  go_enter Tryd.func49, Tryd.ntmps49
  go_wp2_with (fail)
  refine (CF.out _ ht).mono ?_
  rintro e w1 ⟨rfl, k⟩
  go_wp2_with (fail)
  go_ret
  exact ⟨rfl, k⟩
set_option maxRecDepth 100000 in
set_option maxHeartbeats 2000000 in
theorem impl_sealed (u : Nat) (s : ByteArray) (w : World) (hu : u ≤ 1000000) (hs : s.size ≤ 4611686018427370000) (ht : Tab w) : Calls Tryd.prog 24 #[.int .i64 u, .string s] w fun e w' => e = .returned (.string (stx u s)) ∧ Below w.heap.size w w' := by
  have CF := hidIt (fun W t => impl_withBlank u W (by omega) t)
  have hx := numS_size u (by omega)
  rw [stx_eq]
  have q0 : (⟨#[32]⟩ : ByteArray).size = 1 := rfl
  have hy : (numS u ++ ⟨#[32]⟩).size ≤ 22 := by rw [ByteArray.size_append]; omega
  generalize numS u ++ ⟨#[32]⟩ = x at CF hy ⊢
  have q2 : ¬ 9223372036854775807 < x.size + s.size := by omega
  clear hx q0
  go_enter Tryd.func24, Tryd.ntmps24
  go_wp2_with (fail)
  refine (CF.out _ ht).mono ?_
  rintro e w1 ⟨rfl, k⟩
  go_wp2_with (fail)
  go_ret
  exact ⟨rfl, k⟩
theorem sec_no {n : Int} (h : secB n = false) : ¬ 0 < n ∨ 0 < n ∧ ¬ n < 2549 := by
  unfold secB inB at h
  simp only [Bool.and_eq_false_iff, decide_eq_false_iff_not] at h
  omega
set_option maxRecDepth 100000 in
set_option maxHeartbeats 4000000 in
theorem impl_SealOf (n : Int) (s : ByteArray) (u : Int) (w : World) (ht : Tab w) (hs : s.size ≤ 4611686018427370000) :
    Calls Tryd.prog 6 #[.int .i64 n, .string s, .int .i64 u] w fun e w' => e = .returned (.tuple #[svt (sealR n s u).1, .bool (sealR n s u).2]) ∧ Below w.heap.size w w' := by
  have CT := hidIt (fun W => impl_timeOk u W)
  have BA := hidIt (Box.new w (sc 0 0 0 0 0 0) 31)
  have HB : Hid (Below w.heap.size w (w.alloc (.cells (sc 0 0 0 0 0 0) 31))) := hidIt ((Below.refl w.heap.size w).alloc (Nat.le_refl _) _)
  have HT := hidIt ht
  clear ht
  cases h1 : secB n with
  | false =>
    rw [sealR_no (.inl h1)]
    have CK := hidIt (fun W => impl_KeyOf_no n W (sec_no h1))
    clear h1
    go_enter Tryd.func6, Tryd.ntmps6
    go_wp2_with (fail)
    refine (CK.out _).mono ?_
    rintro e w1 ⟨rfl, k⟩
    replace HB := hidIt (HB.out.trans (k.mono HB.out.size))
    replace BA := hidIt (BA.out.kept k)
    clear k
    have k := (Below.refl w1.heap.size w1).alloc (Nat.le_refl _) (.cells #[.int .i64 0, .int .i64 0] 27)
    replace HB := hidIt (HB.out.trans (k.mono HB.out.size))
    replace BA := hidIt (BA.out.kept k)
    clear k
    have c0 := BA.out.c 0 (v := .int .i64 0) rfl
    have f0 := BA.out.fr 0
    have c1 := BA.out.c 1 (v := .int .i64 0) rfl
    have f1 := BA.out.fr 1
    have c2 := BA.out.c 2 (v := .int .i64 0) rfl
    have f2 := BA.out.fr 2
    have c3 := BA.out.c 3 (v := .int .i64 0) rfl
    have f3 := BA.out.fr 3
    have c4 := BA.out.c 4 (v := .int .i64 0) rfl
    have f4 := BA.out.fr 4
    have c5 := BA.out.c 5 (v := .int .i64 0) rfl
    have f5 := BA.out.fr 5
    go_wp2_with (fail)
    have BZ := (((((BA.out.put (c' := sc 0 0 0 0 0 0) 0 (.int .i64 0) (by simp) rfl).put (c' := sc 0 0 0 0 0 0) 1 (.int .i64 0) (by simp) rfl).put (c' := sc 0 0 0 0 0 0) 2 (.int .i64 0) (by simp) rfl).put (c' := sc 0 0 0 0 0 0) 3 (.int .i64 0) (by simp) rfl).put (c' := sc 0 0 0 0 0 0) 4 (.int .i64 0) (by simp) rfl).put (c' := sc 0 0 0 0 0 0) 5 (.int .i64 0) (by simp) rfl
    refine bodyPost_ret (v := .tuple #[sv 0 0 0 0 0 0, .bool false]) ?_ rfl ⟨rfl, ?_⟩
    · refine ret_box BZ (fun w9 j => ?_)
      have j0 := j.c 0 (v := .int .i64 0) rfl
      have j1 := j.c 1 (v := .int .i64 0) rfl
      have j2 := j.c 2 (v := .int .i64 0) rfl
      have j3 := j.c 3 (v := .int .i64 0) rfl
      have j4 := j.c 4 (v := .int .i64 0) rfl
      have j5 := j.c 5 (v := .int .i64 0) rfl
      clear BZ c0 c1 c2 c3 c4 c5 f0 f1 f2 f3 f4 f5
      simp [results, Tryd.results6, go_sem, j0, j1, j2, j3, j4, j5]
    · exact ((((((HB.out.setCell (p := ⟨w.heap.size, 0, none⟩) (Nat.le_refl _) _).setCell (p := ⟨w.heap.size, 1, none⟩) (Nat.le_refl _) _).setCell (p := ⟨w.heap.size, 2, none⟩) (Nat.le_refl _) _).setCell (p := ⟨w.heap.size, 3, none⟩) (Nat.le_refl _) _).setCell (p := ⟨w.heap.size, 4, none⟩) (Nat.le_refl _) _).setCell (p := ⟨w.heap.size, 5, none⟩) (Nat.le_refl _) _)
  | true =>
    obtain ⟨m, rfl, m1, m2⟩ := sec_nat h1
    have CK := hidIt (fun W => impl_KeyOf_yes m W m1 m2)
    cases h2 : timB u with
    | false =>
      rw [sealR_no (.inr h2)]
      rw [h2] at CT
      clear h1 h2
      generalize ns (2791, 6375) m = K at CK
      obtain ⟨K1, K2⟩ := K
      simp only at CK
      go_enter Tryd.func6, Tryd.ntmps6
      go_wp2_with (fail)
      refine (CK.out _).mono ?_
      rintro e w1 ⟨rfl, k⟩
      replace HB := hidIt (HB.out.trans (k.mono HB.out.size))
      replace BA := hidIt (BA.out.kept k)
      clear k
      have k := (Below.refl w1.heap.size w1).alloc (Nat.le_refl _) (.cells #[.int .i64 K1, .int .i64 K2] 27)
      replace HB := hidIt (HB.out.trans (k.mono HB.out.size))
      replace BA := hidIt (BA.out.kept k)
      clear k
      go_wp2_with (fail)
      refine (CT.out _).mono ?_
      rintro e w2 ⟨rfl, rfl⟩
      have c0 := BA.out.c 0 (v := .int .i64 0) rfl
      have f0 := BA.out.fr 0
      have c1 := BA.out.c 1 (v := .int .i64 0) rfl
      have f1 := BA.out.fr 1
      have c2 := BA.out.c 2 (v := .int .i64 0) rfl
      have f2 := BA.out.fr 2
      have c3 := BA.out.c 3 (v := .int .i64 0) rfl
      have f3 := BA.out.fr 3
      have c4 := BA.out.c 4 (v := .int .i64 0) rfl
      have f4 := BA.out.fr 4
      have c5 := BA.out.c 5 (v := .int .i64 0) rfl
      have f5 := BA.out.fr 5
      go_wp2_with (fail)
      have BZ := (((((BA.out.put (c' := sc 0 0 0 0 0 0) 0 (.int .i64 0) (by simp) rfl).put (c' := sc 0 0 0 0 0 0) 1 (.int .i64 0) (by simp) rfl).put (c' := sc 0 0 0 0 0 0) 2 (.int .i64 0) (by simp) rfl).put (c' := sc 0 0 0 0 0 0) 3 (.int .i64 0) (by simp) rfl).put (c' := sc 0 0 0 0 0 0) 4 (.int .i64 0) (by simp) rfl).put (c' := sc 0 0 0 0 0 0) 5 (.int .i64 0) (by simp) rfl
      refine bodyPost_ret (v := .tuple #[sv 0 0 0 0 0 0, .bool false]) ?_ rfl ⟨rfl, ?_⟩
      · refine ret_box BZ (fun w9 j => ?_)
        have j0 := j.c 0 (v := .int .i64 0) rfl
        have j1 := j.c 1 (v := .int .i64 0) rfl
        have j2 := j.c 2 (v := .int .i64 0) rfl
        have j3 := j.c 3 (v := .int .i64 0) rfl
        have j4 := j.c 4 (v := .int .i64 0) rfl
        have j5 := j.c 5 (v := .int .i64 0) rfl
        clear BZ c0 c1 c2 c3 c4 c5 f0 f1 f2 f3 f4 f5
        simp [results, Tryd.results6, go_sem, j0, j1, j2, j3, j4, j5]
      · exact ((((((HB.out.setCell (p := ⟨w.heap.size, 0, none⟩) (Nat.le_refl _) _).setCell (p := ⟨w.heap.size, 1, none⟩) (Nat.le_refl _) _).setCell (p := ⟨w.heap.size, 2, none⟩) (Nat.le_refl _) _).setCell (p := ⟨w.heap.size, 3, none⟩) (Nat.le_refl _) _).setCell (p := ⟨w.heap.size, 4, none⟩) (Nat.le_refl _) _).setCell (p := ⟨w.heap.size, 5, none⟩) (Nat.le_refl _) _)
    | true =>
      obtain ⟨v, rfl, hv⟩ := tim_nat h2
      rw [sealR_yes h1 h2, sealN_eq]
      rw [h2] at CT
      have CX := hidIt (fun W t => impl_sealed v s W hv hs t)
      have CG := hidIt (fun W t => impl_Signed_yes m (stx v s) W m1 m2 (by have := stx_size (u := v) (s := s) (by omega); omega) t)
      clear h1 h2
      generalize ((ns (2791, 6375) m).1 : Int) = K1 at CK ⊢
      generalize ((ns (2791, 6375) m).2 : Int) = K2 at CK ⊢
      generalize ((sgR m (stx v s)).1 : Int) = R1 at CG ⊢
      generalize ((sgR m (stx v s)).2 : Int) = R2 at CG ⊢
      generalize (sgT m (stx v s) : Int) = T at CG ⊢
      generalize stx v s = tx at CX CG
      go_enter Tryd.func6, Tryd.ntmps6
      go_wp2_with (fail)
      refine (CK.out _).mono ?_
      rintro e w1 ⟨rfl, k⟩
      replace HB := hidIt (HB.out.trans (k.mono HB.out.size))
      replace BA := hidIt (BA.out.kept k)
      clear k
      have BK := hidIt (Box.new w1 #[.int .i64 K1, .int .i64 K2] 27)
      have k := (Below.refl w1.heap.size w1).alloc (Nat.le_refl _) (.cells #[.int .i64 K1, .int .i64 K2] 27)
      replace HB := hidIt (HB.out.trans (k.mono HB.out.size))
      replace BA := hidIt (BA.out.kept k)
      clear k
      go_wp2_with (fail)
      refine (CT.out _).mono ?_
      rintro e w2 ⟨rfl, rfl⟩
      go_wp2_with (fail)
      refine (CX.out _ (HT.out.kept HB.out)).mono ?_
      rintro e w3 ⟨rfl, k⟩
      replace HB := hidIt (HB.out.trans (k.mono HB.out.size))
      replace BA := hidIt (BA.out.kept k)
      replace BK := hidIt (BK.out.kept k)
      clear k
      go_wp2_with (fail)
      refine (CG.out _ (HT.out.kept HB.out)).mono ?_
      rintro e w4 ⟨rfl, k⟩
      replace HB := hidIt (HB.out.trans (k.mono HB.out.size))
      replace BA := hidIt (BA.out.kept k)
      replace BK := hidIt (BK.out.kept k)
      clear k
      have k := (Below.refl w4.heap.size w4).alloc (Nat.le_refl _) (.cells #[.int .i64 R1, .int .i64 R2, .int .i64 T] 29)
      replace HB := hidIt (HB.out.trans (k.mono HB.out.size))
      replace BA := hidIt (BA.out.kept k)
      replace BK := hidIt (BK.out.kept k)
      clear k
      generalize w1.heap.size = b1 at BK ⊢
      have d0 := BK.out.c 0 (v := .int .i64 K1) rfl
      have d1 := BK.out.c 1 (v := .int .i64 K2) rfl
      have c0 := BA.out.c 0 (v := .int .i64 0) rfl
      have f0 := BA.out.fr 0
      have c1 := BA.out.c 1 (v := .int .i64 0) rfl
      have f1 := BA.out.fr 1
      have c2 := BA.out.c 2 (v := .int .i64 0) rfl
      have f2 := BA.out.fr 2
      have c3 := BA.out.c 3 (v := .int .i64 0) rfl
      have f3 := BA.out.fr 3
      have c4 := BA.out.c 4 (v := .int .i64 0) rfl
      have f4 := BA.out.fr 4
      have c5 := BA.out.c 5 (v := .int .i64 0) rfl
      have f5 := BA.out.fr 5
      go_wp2_with (fail)
      have BZ := (((((BA.out.put (c' := sc K1 0 0 0 0 0) 0 (.int .i64 K1) (by simp) rfl).put (c' := sc K1 K2 0 0 0 0) 1 (.int .i64 K2) (by simp) rfl).put (c' := sc K1 K2 v 0 0 0) 2 (.int .i64 v) (by simp) rfl).put (c' := sc K1 K2 v R1 0 0) 3 (.int .i64 R1) (by simp) rfl).put (c' := sc K1 K2 v R1 R2 0) 4 (.int .i64 R2) (by simp) rfl).put (c' := sc K1 K2 v R1 R2 T) 5 (.int .i64 T) (by simp) rfl
      refine bodyPost_ret (v := .tuple #[sv K1 K2 v R1 R2 T, .bool true]) ?_ rfl ⟨rfl, ?_⟩
      · refine ret_box BZ (fun w9 j => ?_)
        have j0 := j.c 0 (v := .int .i64 K1) rfl
        have j1 := j.c 1 (v := .int .i64 K2) rfl
        have j2 := j.c 2 (v := .int .i64 v) rfl
        have j3 := j.c 3 (v := .int .i64 R1) rfl
        have j4 := j.c 4 (v := .int .i64 R2) rfl
        have j5 := j.c 5 (v := .int .i64 T) rfl
        clear BZ c0 c1 c2 c3 c4 c5 f0 f1 f2 f3 f4 f5 d0 d1
        simp [results, Tryd.results6, go_sem, j0, j1, j2, j3, j4, j5]
      · exact ((((((HB.out.setCell (p := ⟨w.heap.size, 0, none⟩) (Nat.le_refl _) _).setCell (p := ⟨w.heap.size, 1, none⟩) (Nat.le_refl _) _).setCell (p := ⟨w.heap.size, 2, none⟩) (Nat.le_refl _) _).setCell (p := ⟨w.heap.size, 3, none⟩) (Nat.le_refl _) _).setCell (p := ⟨w.heap.size, 4, none⟩) (Nat.le_refl _) _).setCell (p := ⟨w.heap.size, 5, none⟩) (Nat.le_refl _) _)
end Go.Proofs.YtciikondckoboaaDoor.Dd
namespace Go.Proofs.YtciikondckoboaaDoor.Dd
open Go.ChangeShapes Go.WideShapes Go.ChangeAt Go.RowKit
open Dr Cv Cu Sg
open Go.Proofs.YtciikondckoboaaDoor.Pt (Ln)
set_option linter.unusedVariables false
set_option maxRecDepth 100000 in
set_option maxHeartbeats 4000000 in
theorem l9DrawUntil_any (B c : Nat) (a : Option Addr) (len cap : Nat) (w : World) (hC : Cur B w c a len cap) :
    Calls Tryd.prog 21 #[.pointer (some ⟨c, 0, none⟩)] w fun e w' => ∃ n : Int, e = .returned (.int .i64 n) ∧ Cur B w' c a len cap ∧ Only c w w' := by
  have HC := hidIt hC
  clear hC
  go_enter Tryd.func21, Tryd.ntmps21
  go_wp2_with (fail)
  refine (l1Once_any B c a len cap _ _ (by decide) HC.out).mono ?_
  rintro e w1 ⟨f, rfl, hC1, hO1⟩
  have hlt := hC1.lt
  have C1 := hidIt hC1
  have O1 := hidIt hO1
  clear hC1 hO1
  cases f with
  | true =>
    go_wp2_with (fail)
    refine (l1Below_any B c a len cap _ _ (by decide) (C1.out.kept ((Below.refl (c + 1) _).alloc (by omega) _))).mono ?_
    rintro e w2 ⟨x, x0, x1, rfl, hC2, hO2⟩
    have z2 : w1.heap.size < w2.heap.size := by have := hO2.size; simp at this; omega
    have hcell := fun o => hO2.cell (p := ⟨w1.heap.size, o, none⟩) (by simp) (by simp; omega)
    have C2 := hidIt hC2
    have O2 := hidIt ((O1.out.alloc _).trans hO2)
    clear hC2 hO2
    have hx : x = 0 ∨ x = 1 ∨ x = 2 ∨ x = 3 := by omega
    clear x0 x1
    rcases hx with rfl | rfl | rfl | rfl
    all_goals
      go_wp2_with (fail)
      go_ret
      exact ⟨_, rfl, C2.out, O2.out⟩
  | false =>
    go_wp2_with (fail)
    refine (l1Below_any B c a len cap _ _ (by decide) C1.out).mono ?_
    rintro e w2 ⟨x, x0, x1, rfl, hC2, hO2⟩
    have C2 := hidIt hC2
    have O2 := hidIt (O1.out.trans hO2)
    clear hC2 hO2
    go_wp2_with (fail)
    go_ret
    exact ⟨_, rfl, C2.out, O2.out⟩
set_option maxRecDepth 100000 in
set_option maxHeartbeats 4000000 in
theorem DrawSealOf_any (a : Option Addr) (len cap : Nat) (w : World) (hc : Dr.Code w.heap.size w a len) (hl : len ≤ 4096) :
    Calls Tryd.prog 5 #[.slice a len cap] w fun e w' => ∃ (n : Int) (s : ByteArray) (u : Int), s.size ≤ 6 ∧ e = .returned (.tuple #[.int .i64 n, .string s, .int .i64 u]) ∧ Below w.heap.size w w' := by
  have HC := hidIt hc
  clear hc
  go_enter Tryd.func5, Tryd.ntmps5
  go_wp2_with (fail)
  refine (l1New_any _ a len cap _ (Nat.le_refl _) HC.out hl).mono ?_
  rintro e w1 ⟨c, rfl, hC1, hb1⟩
  have hh := hC1.here
  have C1 := hidIt hC1
  have B1 := hidIt hb1
  clear hC1 hb1
  go_wp2_with (fail)
  refine (l3DrawSecret_any _ c a len cap _ C1.out).mono ?_
  rintro e w2 ⟨n, rfl, hC2, hO2⟩
  have C2 := hidIt hC2
  have B2 := hidIt (B1.out.trans (hO2.below (B := w.heap.size) hh B1.out.size))
  clear hC2 hO2
  go_wp2_with (fail)
  refine (l3DrawText_any _ c a len cap _ C2.out).mono ?_
  rintro e w3 ⟨s, hs, rfl, hC3, hO3⟩
  have C3 := hidIt hC3
  have B3 := hidIt (B2.out.trans (hO3.below (B := w.heap.size) hh B2.out.size))
  clear hC3 hO3
  go_wp2_with (fail)
  refine (l9DrawUntil_any _ c a len cap _ C3.out).mono ?_
  rintro e w4 ⟨u, rfl, hC4, hO4⟩
  have B4 := hidIt (B3.out.trans (hO4.below (B := w.heap.size) hh B3.out.size))
  clear hC4 hO4
  go_wp2_with (fail)
  refine bodyPost_ret (v := .tuple #[.int .i64 n, .string s, .int .i64 u]) (by simp [results, Tryd.results5, go_sem]) rfl ⟨n, s, u, hs, rfl, B4.out⟩
theorem infoPt : (Tryd.prog.info? 27).map (fun i => (i.zero, i.size, i.bytes)) = some (some (.agg #[.int .i64 0, .int .i64 0]), 2, 16) := by kernel_rfl
theorem fresh_cells (w : World) (x y : Int) (T : TypeId) : ∀ j u, ([Value.int .i64 x, Value.int .i64 y] : List Value)[j]? = some u → (w.alloc (.cells #[.int .i64 x, .int .i64 y] T)).cell? ((⟨w.heap.size, 0, none⟩ : Addr).add j) = some u := by
  intro j u hj
  match j, hj with
  | 0, hj => simp at hj; subst hj; simp [Addr.add]
  | 1, hj => simp at hj; subst hj; simp [Addr.add]
set_option maxRecDepth 100000 in
set_option maxHeartbeats 8000000 in
theorem DrawKeysText_any (a : Option Addr) (len cap : Nat) (w : World) (hc : Dr.Code w.heap.size w a len) (hl : len ≤ 4096) :
    Calls Tryd.prog 8 #[.slice a len cap] w fun e w' => ∃ (v : Value) (L : List Ln), L.length ≤ 5 ∧ e = .returned v ∧ Pt.Own w' w.heap.size v L ∧ Below w.heap.size w w' := by
  obtain ⟨i0, hi0, hz0, hz1, hz2⟩ := info_parts infoPt
  have HC := hidIt hc
  clear hc
  go_enter Tryd.func8, Tryd.ntmps8
  go_wp2_with (fail)
  refine (l1New_any _ a len cap _ (Nat.le_refl _) HC.out hl).mono ?_
  rintro e w1 ⟨c, rfl, hC1, hb1⟩
  have hh := hC1.here
  have hlt1 := hC1.lt
  have C1 := hidIt hC1
  have B1 := hidIt hb1
  clear hC1 hb1
  go_wp2_with (fail)
  refine (l1Below_any _ c a len cap _ _ (by decide) (C1.out.kept ((Below.refl (c + 1) w1).alloc (by omega) (.cells #[] 27)))).mono ?_
  rintro e w2 ⟨q, q0, q1, rfl, hC2, hO2⟩
  obtain ⟨qn, rfl⟩ := Int.eq_ofNat_of_zero_le q0
  have S2 := hidIt ((Pt.Own.new w1).only hO2 (.inl hlt1))
  have C2 := hidIt hC2
  have O2 := hidIt (((Only.refl c w1).alloc _).trans hO2)
  clear hC2 hO2 C1
  go_wp2_with (fail)
  go_loopw [4, 5] (fun v y wx => ∃ (n : Nat) (L : List Ln), y = .int .i64 n ∧ n + L.length ≤ 5 ∧ Pt.Own wx w1.heap.size v L ∧ Cur w.heap.size wx c a len cap ∧ Only c w1 wx) (fun _ y _ => (intOf y).toNat)
  case atStart => exact ⟨qn, [], rfl, by simp; omega, S2.out, C2.out, O2.out⟩
  case round =>
    obtain ⟨n, L, rfl, hn, hS, hCr, hOr⟩ := hrel
    have HS := hidIt hS
    have HCr := hidIt hCr
    have HOr := hidIt hOr
    have hltr := hCr.lt
    clear hS hCr hOr S2 C2 O2
    rcases Nat.eq_zero_or_pos n with hz | hp
    · subst hz
      go_wp2_with (fail)
      go_ret
      have hB := hidIt (B1.out.trans (HOr.out.below (B := w.heap.size) hh B1.out.size))
      exact ⟨_, L, by omega, rfl, HS.out.mono B1.out.size, hB.out⟩
    · obtain ⟨n, rfl⟩ : ∃ m, n = m + 1 := ⟨n - 1, by omega⟩
      have hp' : (0 : Int) < ((n + 1 : Nat) : Int) := by omega
      go_wp2_with (fail)
      refine (l2Draw_any _ c a len cap _ HCr.out).mono ?_
      rintro e w3 ⟨x, y, rfl, hC3, hO3⟩
      have HS3 := hidIt ((HS.out.only hO3 (.inl hlt1)).alloc (.cells #[.int .i64 x, .int .i64 y] 27))
      have HO3 := hidIt ((HOr.out.trans hO3).alloc (.cells #[.int .i64 x, .int .i64 y] 27))
      have hlt3 := hC3.lt
      have HC3 := hidIt (hC3.kept ((Below.refl (c + 1) w3).alloc (by omega) (.cells #[.int .i64 x, .int .i64 y] 27)))
      have HX3 := hidIt (Bo.Box.new w3 #[.int .i64 x, .int .i64 y] 27)
      have hne : ¬ w3.heap.size = c := by omega
      clear hC3 hO3 HS HCr HOr
      have CP := hidIt (fun W => spec_PointOk x y W)
      generalize okI x y = f at CP
      go_wp2_with (fail)
      refine (CP.out _).mono ?_
      rintro e w4 ⟨rfl, k⟩
      have HS4 := hidIt (HS3.out.kept k)
      have HO4 : Hid (Only c w1 w4) := hidIt (HO3.out.trans (Only.of_below k))
      have HC4 := hidIt (HC3.out.kept (k.mono (B' := c + 1) (by have := HC3.out.lt; omega)))
      have HX4 := hidIt (HX3.out.kept k)
      clear k HS3 HO3 HC3 HX3
      generalize w3.heap.size = b3 at *
      cases f with
      | true =>
        have xd0 := HX4.out.c 0 (v := .int .i64 x) rfl
        have xd1 := HX4.out.c 1 (v := .int .i64 y) rfl
        have hlt9 := HC4.out.lt
        go_wp2_with (first | (at_builtin; refine wpList_append_own _ rfl _ _ 36 rfl w1.heap.size 27 i0 (.agg #[.int .i64 0, .int .i64 0]) 2 16 Tryd.underlying36 hi0 hz0 hz1 hz2 rfl (by decide) _ _ _ rfl (World.ownsRow.alloc HS4.out _) ⟨w4.heap.size, 0, none⟩ 1 1 [.int .i64 x, .int .i64 y] rfl rfl (fresh_cells w4 x y 27) (Pt.lcells_one [(x, y)]) ?c3 ?c4 ?c5 ?_))
        case c3 => unfold maxLen; omega
        case c4 => omega
        case c5 => have := HO4.out.size; simp; omega
        intro v' w9 hown hgrow _
        have HO9 := hidIt (Pt.Own.more (x := (x, y)) hown)
        have HB9 := hidIt (Pt.grown_below (Pt.Own.alloc HS4.out (.cells #[.int .i64 x, .int .i64 y] 27)) hgrow (B := c + 1) (by omega) (by simp; omega))
        have HC9 := hidIt ((HC4.out.kept ((Below.refl (c + 1) _).alloc (by omega) (.cells #[.int .i64 x, .int .i64 y] 27))).kept HB9.out)
        have HQ9 : Hid (Only c w1 w9) := hidIt ⟨hgrow.os.trans HO4.out.os, hgrow.tape.trans HO4.out.tape, hgrow.output.trans HO4.out.output, by have h1 := HO4.out.size; have h2 := hgrow.size; simp at h2; omega, fun k hk hc => by
          rw [hgrow.block k (by have := HO4.out.size; simp; omega) (fun e => by have := (World.ownsRow.lt (Pt.Own.alloc HS4.out (.cells #[.int .i64 x, .int .i64 y] 27)) k e.symm).1; omega), Below.heap_alloc _ _ _ (by have := HO4.out.size; omega)]
          exact HO4.out.block k hk hc⟩
        clear hown hgrow
        go_wp2_with (fail)
        exact ⟨⟨n, L ++ [(x, y)], by simp, by simp; omega, HO9.out, HC9.out, HQ9.out⟩, by simp [intOf]⟩
      | false =>
        go_wp2_with (fail)
        refine (l1Once_any _ c a len cap _ _ (by decide) HC4.out).mono ?_
        rintro e w5 ⟨g, rfl, hC5, hO5⟩
        have HS5 := hidIt (HS4.out.only hO5 (.inl hlt1))
        have HO5 := hidIt (HO4.out.trans hO5)
        have HX5 : Hid (Bo.Box w5 b3 #[.int .i64 x, .int .i64 y]) := hidIt ⟨Nat.lt_of_lt_of_le HX4.out.lt hO5.size, fun i => by rw [hO5.cell (p := ⟨b3, i, none⟩) HX4.out.lt hne]; exact HX4.out.at' i, fun i => by rw [hO5.frozen (p := ⟨b3, i, none⟩) HX4.out.lt hne]; exact HX4.out.fr i⟩
        have HC5 := hidIt hC5
        clear hC5 hO5 HS4 HO4 HC4 HX4
        cases g with
        | true =>
          have xd0 := HX5.out.c 0 (v := .int .i64 x) rfl
          have xd1 := HX5.out.c 1 (v := .int .i64 y) rfl
          have hlt9 := HC5.out.lt
          go_wp2_with (first | (at_builtin; refine wpList_append_own _ rfl _ _ 36 rfl w1.heap.size 27 i0 (.agg #[.int .i64 0, .int .i64 0]) 2 16 Tryd.underlying36 hi0 hz0 hz1 hz2 rfl (by decide) _ _ _ rfl (World.ownsRow.alloc HS5.out _) ⟨w5.heap.size, 0, none⟩ 1 1 [.int .i64 x, .int .i64 y] rfl rfl (fresh_cells w5 x y 27) (Pt.lcells_one [(x, y)]) ?c3 ?c4 ?c5 ?_))
          case c3 => unfold maxLen; omega
          case c4 => omega
          case c5 => have := HO5.out.size; simp; omega
          intro v' w9 hown hgrow _
          have HO9 := hidIt (Pt.Own.more (x := (x, y)) hown)
          have HB9 := hidIt (Pt.grown_below (Pt.Own.alloc HS5.out (.cells #[.int .i64 x, .int .i64 y] 27)) hgrow (B := c + 1) (by omega) (by simp; omega))
          have HC9 := hidIt ((HC5.out.kept ((Below.refl (c + 1) _).alloc (by omega) (.cells #[.int .i64 x, .int .i64 y] 27))).kept HB9.out)
          have HQ9 : Hid (Only c w1 w9) := hidIt ⟨hgrow.os.trans HO5.out.os, hgrow.tape.trans HO5.out.tape, hgrow.output.trans HO5.out.output, by have h1 := HO5.out.size; have h2 := hgrow.size; simp at h2; omega, fun k hk hc => by
            rw [hgrow.block k (by have := HO5.out.size; simp; omega) (fun e => by have := (World.ownsRow.lt (Pt.Own.alloc HS5.out (.cells #[.int .i64 x, .int .i64 y] 27)) k e.symm).1; omega), Below.heap_alloc _ _ _ (by have := HO5.out.size; omega)]
            exact HO5.out.block k hk hc⟩
          clear hown hgrow
          go_wp2_with (fail)
          exact ⟨⟨n, L ++ [(x, y)], by simp, by simp; omega, HO9.out, HC9.out, HQ9.out⟩, by simp [intOf]⟩
        | false =>
          go_wp2_with (fail)
          exact ⟨⟨n, L, by simp, by omega, HS5.out, HC5.out, HO5.out⟩, by simp [intOf]⟩
end Go.Proofs.YtciikondckoboaaDoor.Dd
namespace Go.Proofs.YtciikondckoboaaDoor.Dd
open Go.ChangeShapes Go.WideShapes Go.ChangeAt Go.RowKit
open Dr Cv Cu Sg
set_option linter.unusedVariables false
theorem box_only {w w' : World} {b c : Nat} {cs : Array Value} (h : Bo.Box w b cs) (k : Only c w w') (hne : ¬ b = c) : Bo.Box w' b cs :=
  ⟨Nat.lt_of_lt_of_le h.lt k.size, fun i => by rw [k.cell (p := ⟨b, i, none⟩) h.lt hne]; exact h.at' i, fun i => by rw [k.frozen (p := ⟨b, i, none⟩) h.lt hne]; exact h.fr i⟩
theorem box_ret {fn : Func} {tm : Array Value} {wf : World} {b : Nat} {c : Array Value} {v : Value} (t : Bo.Box wf b c) (h : ∀ w2, Bo.Box w2 b c → (results fn tm).run Tryd.prog w2 = .ok v w2) : (results fn tm).run Tryd.prog wf = .ok v wf := h wf t
set_option maxRecDepth 100000 in
set_option maxHeartbeats 8000000 in
theorem DrawHolds_any (a : Option Addr) (len cap : Nat) (w : World) (hc : Dr.Code w.heap.size w a len) (hl : len ≤ 4096) :
    Calls Tryd.prog 7 #[.slice a len cap] w fun e w' => ∃ (k1 k2 u r1 r2 t : Int) (s : ByteArray) (now : Int), s.size ≤ 7 ∧ e = .returned (.tuple #[.agg #[.int .i64 k1, .int .i64 k2, .int .i64 u, .int .i64 r1, .int .i64 r2, .int .i64 t], .string s, .int .i64 now]) ∧ Below w.heap.size w w' := by
  have HC := hidIt hc
  clear hc
  go_enter Tryd.func7, Tryd.ntmps7
  go_wp2_with (fail)
  refine (l1New_any _ a len cap _ (Nat.le_refl _) (code_old HC.out) hl).mono ?_
  rintro e w1 ⟨c, rfl, hC1, hb1⟩
  have hcs : w.heap.size < c := by have := hC1.here; simp at this; omega
  have hcB : w.heap.size ≤ c := by omega
  have na : ¬ w.heap.size = c := by omega
  have BA := hidIt ((Bo.Box.new w #[.int .i64 0, .int .i64 0, .int .i64 0, .int .i64 0, .int .i64 0, .int .i64 0] 31).kept hb1)
  have HB : Hid (Below w.heap.size w w1) := hidIt (below_next (below_old (Below.refl w.heap.size w)) hb1)
  have HCu := hidIt hC1
  clear hC1 hb1
  go_wp2_with (fail)
  refine (l3DrawText_any _ c a len cap _ HCu.out).mono ?_
  rintro e w2 ⟨s, hs, rfl, hC, hO⟩
  replace BA := hidIt (box_only BA.out hO na)
  replace HB := hidIt (HB.out.trans (hO.below (B := w.heap.size) hcB HB.out.size))
  replace HCu := hidIt hC
  clear hC hO
  go_wp2_with (fail)
  refine (l1Below_any _ c a len cap 2548 _ (by decide) HCu.out).mono ?_
  rintro e w3 ⟨x, x0, x1, rfl, hC, hO⟩
  obtain ⟨xn, rfl⟩ := Int.eq_ofNat_of_zero_le x0
  have hx1 : (xn : Int) < 2548 := x1
  replace BA := hidIt (box_only BA.out hO na)
  replace HB := hidIt (HB.out.trans (hO.below (B := w.heap.size) hcB HB.out.size))
  replace HCu := hidIt hC
  clear hC hO x0 x1
  go_wp2_with (fail)
  refine (l1Below_any _ c a len cap 40 _ (by decide) HCu.out).mono ?_
  rintro e w4 ⟨y, y0, y1, rfl, hC, hO⟩
  obtain ⟨un, rfl⟩ := Int.eq_ofNat_of_zero_le y0
  have hu1 : (un : Int) < 40 := y1
  replace BA := hidIt (box_only BA.out hO na)
  replace HB := hidIt (HB.out.trans (hO.below (B := w.heap.size) hcB HB.out.size))
  replace HCu := hidIt hC
  clear hC hO y0 y1
  have e1 : (1 : Int) + (xn : Int) = ((xn + 1 : Nat) : Int) := by omega
  have CS := hidIt (fun W => spec_l9Seal (xn + 1) un s W (by omega) (by omega) (by omega))
  rw [← e1] at CS
  obtain ⟨k1, k2, r1, r2, t, CS'⟩ : ∃ k1 k2 r1 r2 t : Int, Hid (∀ W, Calls Tryd.prog 25 #[.int .i64 (1 + (xn : Int)), .string s, .int .i64 un] W fun e w' => e = .returned (sv k1 k2 un r1 r2 t) ∧ Below W.heap.size W w') := ⟨_, _, _, _, _, CS⟩
  clear CS e1
  go_wp2_with (fail)
  refine (CS'.out _).mono ?_
  rintro e w5 ⟨rfl, k⟩
  replace BA := hidIt (BA.out.kept k)
  replace HB := hidIt (HB.out.trans (k.mono HB.out.size))
  replace HCu := hidIt (HCu.out.kept (k.mono (B' := c + 1) (by have := HCu.out.lt; omega)))
  clear k CS'
  have nb : ¬ w5.heap.size = c := by have := HCu.out.lt; omega
  have nc : ¬ w5.heap.size = w.heap.size := by have := BA.out.lt; omega
  have hc7 : c + 1 ≤ w5.heap.size := by have := HCu.out.lt; omega
  have hsB : w.heap.size ≤ w5.heap.size := HB.out.size
  have BS := hidIt (Bo.Box.new w5 #[.int .i64 k1, .int .i64 k2, .int .i64 un, .int .i64 r1, .int .i64 r2, .int .i64 t] 31)
  replace BA := hidIt (BA.out.alloc (.cells #[.int .i64 k1, .int .i64 k2, .int .i64 un, .int .i64 r1, .int .i64 r2, .int .i64 t] 31))
  have HBn := hidIt (below_old (o := .cells #[.int .i64 k1, .int .i64 k2, .int .i64 un, .int .i64 r1, .int .i64 r2, .int .i64 t] 31) HB.out)
  replace HCu := hidIt (HCu.out.kept ((Below.refl (c + 1) w5).alloc (by have := HCu.out.lt; omega) (.cells #[.int .i64 k1, .int .i64 k2, .int .i64 un, .int .i64 r1, .int .i64 r2, .int .i64 t] 31)))
  clear HB
  have HB := HBn
  clear HBn
  go_wp2_with (fail)
  refine (l1Once_any _ c a len cap _ _ (by decide) HCu.out).mono ?_
  rintro e w6 ⟨f, rfl, hC, hO⟩
  replace BA := hidIt (box_only BA.out hO na)
  replace BS := hidIt (box_only BS.out hO nb)
  replace HB := hidIt (HB.out.trans (hO.below (B := w.heap.size) hcB HB.out.size))
  replace HCu := hidIt hC
  clear hC hO
  generalize w5.heap.size = b7 at *
  have u1 : -9223372036854775808 ≤ (un : Int) + 1 := by omega
  have u2 : (un : Int) + 1 ≤ 9223372036854775807 := by omega
  cases f with
  | false =>
    go_upto_region 12 with fail
    have s0 := BS.out.c 0 (v := .int .i64 k1) rfl
    have s1 := BS.out.c 1 (v := .int .i64 k2) rfl
    have s2 := BS.out.c 2 (v := .int .i64 un) rfl
    have s3 := BS.out.c 3 (v := .int .i64 r1) rfl
    have s4 := BS.out.c 4 (v := .int .i64 r2) rfl
    have s5 := BS.out.c 5 (v := .int .i64 t) rfl
    have z0 := BA.out.c 0 (v := .int .i64 0) rfl
    have f0 := BA.out.fr 0
    have z1 := BA.out.c 1 (v := .int .i64 0) rfl
    have f1 := BA.out.fr 1
    have z2 := BA.out.c 2 (v := .int .i64 0) rfl
    have f2 := BA.out.fr 2
    have z3 := BA.out.c 3 (v := .int .i64 0) rfl
    have f3 := BA.out.fr 3
    have z4 := BA.out.c 4 (v := .int .i64 0) rfl
    have f4 := BA.out.fr 4
    have z5 := BA.out.c 5 (v := .int .i64 0) rfl
    have f5 := BA.out.fr 5
    go_region_with (first | (go_at_call 26; refine (l1Below_any _ c a len cap 40 _ (by decide) (HCu.out.drewN 1)).mono ?_; rintro e w9 ⟨now, n0', n1', rfl, hC9, hO9⟩; have BS9 := hidIt (box_only BS.out.drew hO9 nb); have BA9 := hidIt (box_only BA.out.drew hO9 na); have HB9 := hidIt (HB.out.drew.trans (hO9.below (B := w.heap.size) hcB HB.out.size)); clear hC9 hO9 n0' n1'; have y0 := BS9.out.c 0 (v := .int .i64 k1) rfl; have y1 := BS9.out.c 1 (v := .int .i64 k2) rfl; have y2 := BS9.out.c 2 (v := .int .i64 un) rfl; have y3 := BS9.out.c 3 (v := .int .i64 r1) rfl; have y4 := BS9.out.c 4 (v := .int .i64 r2) rfl; have y5 := BS9.out.c 5 (v := .int .i64 t) rfl; have x0 := BA9.out.c 0 (v := .int .i64 0) rfl; have v0 := BA9.out.fr 0; have x1 := BA9.out.c 1 (v := .int .i64 0) rfl; have v1 := BA9.out.fr 1; have x2 := BA9.out.c 2 (v := .int .i64 0) rfl; have v2 := BA9.out.fr 2; have x3 := BA9.out.c 3 (v := .int .i64 0) rfl; have v3 := BA9.out.fr 3; have x4 := BA9.out.c 4 (v := .int .i64 0) rfl; have v4 := BA9.out.fr 4; have x5 := BA9.out.c 5 (v := .int .i64 0) rfl; have v5 := BA9.out.fr 5))
    all_goals
      go_wp2_with (fail)
      have BZ := ((((((BA9.out.put (c' := #[.int .i64 k1, .int .i64 0, .int .i64 0, .int .i64 0, .int .i64 0, .int .i64 0]) 0 (.int .i64 (k1)) (by simp) rfl).put (c' := #[.int .i64 k1, .int .i64 k2, .int .i64 0, .int .i64 0, .int .i64 0, .int .i64 0]) 1 (.int .i64 (k2)) (by simp) rfl).put (c' := #[.int .i64 k1, .int .i64 k2, .int .i64 un, .int .i64 0, .int .i64 0, .int .i64 0]) 2 (.int .i64 (un)) (by simp) rfl).put (c' := #[.int .i64 k1, .int .i64 k2, .int .i64 un, .int .i64 r1, .int .i64 0, .int .i64 0]) 3 (.int .i64 (r1)) (by simp) rfl).put (c' := #[.int .i64 k1, .int .i64 k2, .int .i64 un, .int .i64 r1, .int .i64 r2, .int .i64 0]) 4 (.int .i64 (r2)) (by simp) rfl).put (c' := #[.int .i64 k1, .int .i64 k2, .int .i64 un, .int .i64 r1, .int .i64 r2, .int .i64 t]) 5 (.int .i64 (t)) (by simp) rfl)
      refine bodyPost_ret (v := .tuple #[.agg #[.int .i64 (k1), .int .i64 (k2), .int .i64 (un), .int .i64 (r1), .int .i64 (r2), .int .i64 (t)], .string s, .int .i64 now]) ?_ rfl ⟨k1, k2, un, r1, r2, t, s, now, by omega, rfl, ?_⟩
      · refine box_ret BZ (fun w8 j => ?_)
        have j0 := j.c 0 (v := .int .i64 (k1)) rfl
        have j1 := j.c 1 (v := .int .i64 (k2)) rfl
        have j2 := j.c 2 (v := .int .i64 (un)) rfl
        have j3 := j.c 3 (v := .int .i64 (r1)) rfl
        have j4 := j.c 4 (v := .int .i64 (r2)) rfl
        have j5 := j.c 5 (v := .int .i64 (t)) rfl
        clear BZ s0 z0 f0 y0 x0 v0 s1 z1 f1 y1 x1 v1 s2 z2 f2 y2 x2 v2 s3 z3 f3 y3 x3 v3 s4 z4 f4 y4 x4 v4 s5 z5 f5 y5 x5 v5
        simp [results, Tryd.results7, go_sem, j0, j1, j2, j3, j4, j5]
      · exact ((((((HB9.out.setCell (p := ⟨w.heap.size, 0, none⟩) (Nat.le_refl _) (.int .i64 (k1))).setCell (p := ⟨w.heap.size, 1, none⟩) (Nat.le_refl _) (.int .i64 (k2))).setCell (p := ⟨w.heap.size, 2, none⟩) (Nat.le_refl _) (.int .i64 (un))).setCell (p := ⟨w.heap.size, 3, none⟩) (Nat.le_refl _) (.int .i64 (r1))).setCell (p := ⟨w.heap.size, 4, none⟩) (Nat.le_refl _) (.int .i64 (r2))).setCell (p := ⟨w.heap.size, 5, none⟩) (Nat.le_refl _) (.int .i64 (t)))
  | true =>
    go_wp2_with (fail)
    refine (l1Below_any _ c a len cap 3 _ (by decide) HCu.out).mono ?_
    rintro e w7 ⟨d, d0, d1, rfl, hC, hO⟩
    replace BA := hidIt (box_only BA.out hO na)
    replace BS := hidIt (box_only BS.out hO nb)
    replace HB := hidIt (HB.out.trans (hO.below (B := w.heap.size) hcB HB.out.size))
    replace HCu := hidIt hC
    clear hC hO
    have hd : d = 0 ∨ d = 1 ∨ d = 2 := by omega
    clear d0 d1
    rcases hd with rfl | rfl | rfl
    · have g0 : (⟨#[120]⟩ : ByteArray).size = 1 := rfl
      have g1 : ¬ 9223372036854775807 < s.size + 1 := by omega
      go_upto_region 12 with fail
      have s0 := BS.out.c 0 (v := .int .i64 k1) rfl
      have s1 := BS.out.c 1 (v := .int .i64 k2) rfl
      have s2 := BS.out.c 2 (v := .int .i64 un) rfl
      have s3 := BS.out.c 3 (v := .int .i64 r1) rfl
      have s4 := BS.out.c 4 (v := .int .i64 r2) rfl
      have s5 := BS.out.c 5 (v := .int .i64 t) rfl
      have z0 := BA.out.c 0 (v := .int .i64 0) rfl
      have f0 := BA.out.fr 0
      have z1 := BA.out.c 1 (v := .int .i64 0) rfl
      have f1 := BA.out.fr 1
      have z2 := BA.out.c 2 (v := .int .i64 0) rfl
      have f2 := BA.out.fr 2
      have z3 := BA.out.c 3 (v := .int .i64 0) rfl
      have f3 := BA.out.fr 3
      have z4 := BA.out.c 4 (v := .int .i64 0) rfl
      have f4 := BA.out.fr 4
      have z5 := BA.out.c 5 (v := .int .i64 0) rfl
      have f5 := BA.out.fr 5
      go_region_with (first | (go_at_call 26; refine (l1Below_any _ c a len cap 40 _ (by decide) (HCu.out.drewN 1)).mono ?_; rintro e w9 ⟨now, n0', n1', rfl, hC9, hO9⟩; have BS9 := hidIt (box_only BS.out.drew hO9 nb); have BA9 := hidIt (box_only BA.out.drew hO9 na); have HB9 := hidIt (HB.out.drew.trans (hO9.below (B := w.heap.size) hcB HB.out.size)); clear hC9 hO9 n0' n1'; have y0 := BS9.out.c 0 (v := .int .i64 k1) rfl; have y1 := BS9.out.c 1 (v := .int .i64 k2) rfl; have y2 := BS9.out.c 2 (v := .int .i64 un) rfl; have y3 := BS9.out.c 3 (v := .int .i64 r1) rfl; have y4 := BS9.out.c 4 (v := .int .i64 r2) rfl; have y5 := BS9.out.c 5 (v := .int .i64 t) rfl; have x0 := BA9.out.c 0 (v := .int .i64 0) rfl; have v0 := BA9.out.fr 0; have x1 := BA9.out.c 1 (v := .int .i64 0) rfl; have v1 := BA9.out.fr 1; have x2 := BA9.out.c 2 (v := .int .i64 0) rfl; have v2 := BA9.out.fr 2; have x3 := BA9.out.c 3 (v := .int .i64 0) rfl; have v3 := BA9.out.fr 3; have x4 := BA9.out.c 4 (v := .int .i64 0) rfl; have v4 := BA9.out.fr 4; have x5 := BA9.out.c 5 (v := .int .i64 0) rfl; have v5 := BA9.out.fr 5))
      all_goals
        go_wp2_with (fail)
        have BZ := ((((((BA9.out.put (c' := #[.int .i64 k1, .int .i64 0, .int .i64 0, .int .i64 0, .int .i64 0, .int .i64 0]) 0 (.int .i64 (k1)) (by simp) rfl).put (c' := #[.int .i64 k1, .int .i64 k2, .int .i64 0, .int .i64 0, .int .i64 0, .int .i64 0]) 1 (.int .i64 (k2)) (by simp) rfl).put (c' := #[.int .i64 k1, .int .i64 k2, .int .i64 un, .int .i64 0, .int .i64 0, .int .i64 0]) 2 (.int .i64 (un)) (by simp) rfl).put (c' := #[.int .i64 k1, .int .i64 k2, .int .i64 un, .int .i64 r1, .int .i64 0, .int .i64 0]) 3 (.int .i64 (r1)) (by simp) rfl).put (c' := #[.int .i64 k1, .int .i64 k2, .int .i64 un, .int .i64 r1, .int .i64 r2, .int .i64 0]) 4 (.int .i64 (r2)) (by simp) rfl).put (c' := #[.int .i64 k1, .int .i64 k2, .int .i64 un, .int .i64 r1, .int .i64 r2, .int .i64 t]) 5 (.int .i64 (t)) (by simp) rfl)
        refine bodyPost_ret (v := .tuple #[.agg #[.int .i64 (k1), .int .i64 (k2), .int .i64 (un), .int .i64 (r1), .int .i64 (r2), .int .i64 (t)], .string (s ++ ⟨#[120]⟩), .int .i64 now]) ?_ rfl ⟨k1, k2, un, r1, r2, t, (s ++ ⟨#[120]⟩), now, by rw [ByteArray.size_append, g0]; omega, rfl, ?_⟩
        · refine box_ret BZ (fun w8 j => ?_)
          have j0 := j.c 0 (v := .int .i64 (k1)) rfl
          have j1 := j.c 1 (v := .int .i64 (k2)) rfl
          have j2 := j.c 2 (v := .int .i64 (un)) rfl
          have j3 := j.c 3 (v := .int .i64 (r1)) rfl
          have j4 := j.c 4 (v := .int .i64 (r2)) rfl
          have j5 := j.c 5 (v := .int .i64 (t)) rfl
          clear BZ s0 z0 f0 y0 x0 v0 s1 z1 f1 y1 x1 v1 s2 z2 f2 y2 x2 v2 s3 z3 f3 y3 x3 v3 s4 z4 f4 y4 x4 v4 s5 z5 f5 y5 x5 v5
          simp [results, Tryd.results7, go_sem, j0, j1, j2, j3, j4, j5]
        · exact ((((((HB9.out.setCell (p := ⟨w.heap.size, 0, none⟩) (Nat.le_refl _) (.int .i64 (k1))).setCell (p := ⟨w.heap.size, 1, none⟩) (Nat.le_refl _) (.int .i64 (k2))).setCell (p := ⟨w.heap.size, 2, none⟩) (Nat.le_refl _) (.int .i64 (un))).setCell (p := ⟨w.heap.size, 3, none⟩) (Nat.le_refl _) (.int .i64 (r1))).setCell (p := ⟨w.heap.size, 4, none⟩) (Nat.le_refl _) (.int .i64 (r2))).setCell (p := ⟨w.heap.size, 5, none⟩) (Nat.le_refl _) (.int .i64 (t)))
    · have b2 := BS.out.c 2 (v := .int .i64 un) rfl
      have b3 := BS.out.fr 2
      replace BA := hidIt (BA.out.other (v := .int .i64 ((un : Int) + 1)) (i := 2) nc)
      replace BS : Hid (Bo.Box (w7.setCell ⟨b7, 2, none⟩ (.int .i64 ((un : Int) + 1))) b7 #[.int .i64 k1, .int .i64 k2, .int .i64 ((un : Int) + 1), .int .i64 r1, .int .i64 r2, .int .i64 t]) := hidIt (BS.out.put 2 (.int .i64 ((un : Int) + 1)) (by simp) rfl)
      replace HB := hidIt (HB.out.setCell (p := ⟨b7, 2, none⟩) hsB (.int .i64 ((un : Int) + 1)))
      replace HCu := hidIt (HCu.out.kept ((Below.refl (c + 1) w7).setCell (p := ⟨b7, 2, none⟩) hc7 (.int .i64 ((un : Int) + 1))))
      go_upto_region 12 with fail
      have s0 := BS.out.c 0 (v := .int .i64 k1) rfl
      have s1 := BS.out.c 1 (v := .int .i64 k2) rfl
      have s2 := BS.out.c 2 (v := .int .i64 ((un : Int) + 1)) rfl
      have s3 := BS.out.c 3 (v := .int .i64 r1) rfl
      have s4 := BS.out.c 4 (v := .int .i64 r2) rfl
      have s5 := BS.out.c 5 (v := .int .i64 t) rfl
      have z0 := BA.out.c 0 (v := .int .i64 0) rfl
      have f0 := BA.out.fr 0
      have z1 := BA.out.c 1 (v := .int .i64 0) rfl
      have f1 := BA.out.fr 1
      have z2 := BA.out.c 2 (v := .int .i64 0) rfl
      have f2 := BA.out.fr 2
      have z3 := BA.out.c 3 (v := .int .i64 0) rfl
      have f3 := BA.out.fr 3
      have z4 := BA.out.c 4 (v := .int .i64 0) rfl
      have f4 := BA.out.fr 4
      have z5 := BA.out.c 5 (v := .int .i64 0) rfl
      have f5 := BA.out.fr 5
      go_region_with (first | (go_at_call 26; refine (l1Below_any _ c a len cap 40 _ (by decide) (HCu.out.drewN 1)).mono ?_; rintro e w9 ⟨now, n0', n1', rfl, hC9, hO9⟩; have BS9 := hidIt (box_only BS.out.drew hO9 nb); have BA9 := hidIt (box_only BA.out.drew hO9 na); have HB9 := hidIt (HB.out.drew.trans (hO9.below (B := w.heap.size) hcB HB.out.size)); clear hC9 hO9 n0' n1'; have y0 := BS9.out.c 0 (v := .int .i64 k1) rfl; have y1 := BS9.out.c 1 (v := .int .i64 k2) rfl; have y2 := BS9.out.c 2 (v := .int .i64 ((un : Int) + 1)) rfl; have y3 := BS9.out.c 3 (v := .int .i64 r1) rfl; have y4 := BS9.out.c 4 (v := .int .i64 r2) rfl; have y5 := BS9.out.c 5 (v := .int .i64 t) rfl; have x0 := BA9.out.c 0 (v := .int .i64 0) rfl; have v0 := BA9.out.fr 0; have x1 := BA9.out.c 1 (v := .int .i64 0) rfl; have v1 := BA9.out.fr 1; have x2 := BA9.out.c 2 (v := .int .i64 0) rfl; have v2 := BA9.out.fr 2; have x3 := BA9.out.c 3 (v := .int .i64 0) rfl; have v3 := BA9.out.fr 3; have x4 := BA9.out.c 4 (v := .int .i64 0) rfl; have v4 := BA9.out.fr 4; have x5 := BA9.out.c 5 (v := .int .i64 0) rfl; have v5 := BA9.out.fr 5))
      all_goals
        go_wp2_with (fail)
        have BZ := ((((((BA9.out.put (c' := #[.int .i64 k1, .int .i64 0, .int .i64 0, .int .i64 0, .int .i64 0, .int .i64 0]) 0 (.int .i64 (k1)) (by simp) rfl).put (c' := #[.int .i64 k1, .int .i64 k2, .int .i64 0, .int .i64 0, .int .i64 0, .int .i64 0]) 1 (.int .i64 (k2)) (by simp) rfl).put (c' := #[.int .i64 k1, .int .i64 k2, .int .i64 ((un : Int) + 1), .int .i64 0, .int .i64 0, .int .i64 0]) 2 (.int .i64 ((un : Int) + 1)) (by simp) rfl).put (c' := #[.int .i64 k1, .int .i64 k2, .int .i64 ((un : Int) + 1), .int .i64 r1, .int .i64 0, .int .i64 0]) 3 (.int .i64 (r1)) (by simp) rfl).put (c' := #[.int .i64 k1, .int .i64 k2, .int .i64 ((un : Int) + 1), .int .i64 r1, .int .i64 r2, .int .i64 0]) 4 (.int .i64 (r2)) (by simp) rfl).put (c' := #[.int .i64 k1, .int .i64 k2, .int .i64 ((un : Int) + 1), .int .i64 r1, .int .i64 r2, .int .i64 t]) 5 (.int .i64 (t)) (by simp) rfl)
        refine bodyPost_ret (v := .tuple #[.agg #[.int .i64 (k1), .int .i64 (k2), .int .i64 ((un : Int) + 1), .int .i64 (r1), .int .i64 (r2), .int .i64 (t)], .string s, .int .i64 now]) ?_ rfl ⟨k1, k2, (un : Int) + 1, r1, r2, t, s, now, by omega, rfl, ?_⟩
        · refine box_ret BZ (fun w8 j => ?_)
          have j0 := j.c 0 (v := .int .i64 (k1)) rfl
          have j1 := j.c 1 (v := .int .i64 (k2)) rfl
          have j2 := j.c 2 (v := .int .i64 ((un : Int) + 1)) rfl
          have j3 := j.c 3 (v := .int .i64 (r1)) rfl
          have j4 := j.c 4 (v := .int .i64 (r2)) rfl
          have j5 := j.c 5 (v := .int .i64 (t)) rfl
          clear BZ s0 z0 f0 y0 x0 v0 s1 z1 f1 y1 x1 v1 s2 z2 f2 y2 x2 v2 s3 z3 f3 y3 x3 v3 s4 z4 f4 y4 x4 v4 s5 z5 f5 y5 x5 v5
          simp [results, Tryd.results7, go_sem, j0, j1, j2, j3, j4, j5]
        · exact ((((((HB9.out.setCell (p := ⟨w.heap.size, 0, none⟩) (Nat.le_refl _) (.int .i64 (k1))).setCell (p := ⟨w.heap.size, 1, none⟩) (Nat.le_refl _) (.int .i64 (k2))).setCell (p := ⟨w.heap.size, 2, none⟩) (Nat.le_refl _) (.int .i64 ((un : Int) + 1))).setCell (p := ⟨w.heap.size, 3, none⟩) (Nat.le_refl _) (.int .i64 (r1))).setCell (p := ⟨w.heap.size, 4, none⟩) (Nat.le_refl _) (.int .i64 (r2))).setCell (p := ⟨w.heap.size, 5, none⟩) (Nat.le_refl _) (.int .i64 (t)))
    · go_wp2_with (fail)
      refine (l2Draw_any _ c a len cap _ HCu.out).mono ?_
      rintro e w8 ⟨p, q, rfl, hC, hO⟩
      replace BA := hidIt (box_only BA.out hO na)
      replace BS := hidIt (box_only BS.out hO nb)
      replace HB := hidIt (HB.out.trans (hO.below (B := w.heap.size) hcB HB.out.size))
      replace HCu := hidIt hC
      clear hC hO
      have b0 := BS.out.c 0 (v := .int .i64 k1) rfl
      have b1 := BS.out.c 1 (v := .int .i64 k2) rfl
      have b2 := BS.out.fr 0
      have b3 := BS.out.fr 1
      replace BA := hidIt ((BA.out.other (v := .int .i64 p) (i := 0) nc).other (v := .int .i64 q) (i := 1) nc)
      replace BS : Hid (Bo.Box ((w8.setCell ⟨b7, 0, none⟩ (.int .i64 p)).setCell ⟨b7, 1, none⟩ (.int .i64 q)) b7 #[.int .i64 p, .int .i64 q, .int .i64 un, .int .i64 r1, .int .i64 r2, .int .i64 t]) := hidIt ((BS.out.put (c' := #[.int .i64 p, .int .i64 k2, .int .i64 un, .int .i64 r1, .int .i64 r2, .int .i64 t]) 0 (.int .i64 p) (by simp) rfl).put 1 (.int .i64 q) (by simp) rfl)
      replace HB := hidIt ((HB.out.setCell (p := ⟨b7, 0, none⟩) hsB (.int .i64 p)).setCell (p := ⟨b7, 1, none⟩) hsB (.int .i64 q))
      replace HCu := hidIt (HCu.out.kept (((Below.refl (c + 1) w8).setCell (p := ⟨b7, 0, none⟩) hc7 (.int .i64 p)).setCell (p := ⟨b7, 1, none⟩) hc7 (.int .i64 q)))
      go_upto_region 12 with fail
      have s0 := BS.out.c 0 (v := .int .i64 p) rfl
      have s1 := BS.out.c 1 (v := .int .i64 q) rfl
      have s2 := BS.out.c 2 (v := .int .i64 un) rfl
      have s3 := BS.out.c 3 (v := .int .i64 r1) rfl
      have s4 := BS.out.c 4 (v := .int .i64 r2) rfl
      have s5 := BS.out.c 5 (v := .int .i64 t) rfl
      have z0 := BA.out.c 0 (v := .int .i64 0) rfl
      have f0 := BA.out.fr 0
      have z1 := BA.out.c 1 (v := .int .i64 0) rfl
      have f1 := BA.out.fr 1
      have z2 := BA.out.c 2 (v := .int .i64 0) rfl
      have f2 := BA.out.fr 2
      have z3 := BA.out.c 3 (v := .int .i64 0) rfl
      have f3 := BA.out.fr 3
      have z4 := BA.out.c 4 (v := .int .i64 0) rfl
      have f4 := BA.out.fr 4
      have z5 := BA.out.c 5 (v := .int .i64 0) rfl
      have f5 := BA.out.fr 5
      go_region_with (first | (go_at_call 26; refine (l1Below_any _ c a len cap 40 _ (by decide) (HCu.out.drewN 1)).mono ?_; rintro e w9 ⟨now, n0', n1', rfl, hC9, hO9⟩; have BS9 := hidIt (box_only BS.out.drew hO9 nb); have BA9 := hidIt (box_only BA.out.drew hO9 na); have HB9 := hidIt (HB.out.drew.trans (hO9.below (B := w.heap.size) hcB HB.out.size)); clear hC9 hO9 n0' n1'; have y0 := BS9.out.c 0 (v := .int .i64 p) rfl; have y1 := BS9.out.c 1 (v := .int .i64 q) rfl; have y2 := BS9.out.c 2 (v := .int .i64 un) rfl; have y3 := BS9.out.c 3 (v := .int .i64 r1) rfl; have y4 := BS9.out.c 4 (v := .int .i64 r2) rfl; have y5 := BS9.out.c 5 (v := .int .i64 t) rfl; have x0 := BA9.out.c 0 (v := .int .i64 0) rfl; have v0 := BA9.out.fr 0; have x1 := BA9.out.c 1 (v := .int .i64 0) rfl; have v1 := BA9.out.fr 1; have x2 := BA9.out.c 2 (v := .int .i64 0) rfl; have v2 := BA9.out.fr 2; have x3 := BA9.out.c 3 (v := .int .i64 0) rfl; have v3 := BA9.out.fr 3; have x4 := BA9.out.c 4 (v := .int .i64 0) rfl; have v4 := BA9.out.fr 4; have x5 := BA9.out.c 5 (v := .int .i64 0) rfl; have v5 := BA9.out.fr 5))
      all_goals
        go_wp2_with (fail)
        have BZ := ((((((BA9.out.put (c' := #[.int .i64 p, .int .i64 0, .int .i64 0, .int .i64 0, .int .i64 0, .int .i64 0]) 0 (.int .i64 (p)) (by simp) rfl).put (c' := #[.int .i64 p, .int .i64 q, .int .i64 0, .int .i64 0, .int .i64 0, .int .i64 0]) 1 (.int .i64 (q)) (by simp) rfl).put (c' := #[.int .i64 p, .int .i64 q, .int .i64 un, .int .i64 0, .int .i64 0, .int .i64 0]) 2 (.int .i64 (un)) (by simp) rfl).put (c' := #[.int .i64 p, .int .i64 q, .int .i64 un, .int .i64 r1, .int .i64 0, .int .i64 0]) 3 (.int .i64 (r1)) (by simp) rfl).put (c' := #[.int .i64 p, .int .i64 q, .int .i64 un, .int .i64 r1, .int .i64 r2, .int .i64 0]) 4 (.int .i64 (r2)) (by simp) rfl).put (c' := #[.int .i64 p, .int .i64 q, .int .i64 un, .int .i64 r1, .int .i64 r2, .int .i64 t]) 5 (.int .i64 (t)) (by simp) rfl)
        refine bodyPost_ret (v := .tuple #[.agg #[.int .i64 (p), .int .i64 (q), .int .i64 (un), .int .i64 (r1), .int .i64 (r2), .int .i64 (t)], .string s, .int .i64 now]) ?_ rfl ⟨p, q, un, r1, r2, t, s, now, by omega, rfl, ?_⟩
        · refine box_ret BZ (fun w8 j => ?_)
          have j0 := j.c 0 (v := .int .i64 (p)) rfl
          have j1 := j.c 1 (v := .int .i64 (q)) rfl
          have j2 := j.c 2 (v := .int .i64 (un)) rfl
          have j3 := j.c 3 (v := .int .i64 (r1)) rfl
          have j4 := j.c 4 (v := .int .i64 (r2)) rfl
          have j5 := j.c 5 (v := .int .i64 (t)) rfl
          clear BZ s0 z0 f0 y0 x0 v0 s1 z1 f1 y1 x1 v1 s2 z2 f2 y2 x2 v2 s3 z3 f3 y3 x3 v3 s4 z4 f4 y4 x4 v4 s5 z5 f5 y5 x5 v5
          simp [results, Tryd.results7, go_sem, j0, j1, j2, j3, j4, j5]
        · exact ((((((HB9.out.setCell (p := ⟨w.heap.size, 0, none⟩) (Nat.le_refl _) (.int .i64 (p))).setCell (p := ⟨w.heap.size, 1, none⟩) (Nat.le_refl _) (.int .i64 (q))).setCell (p := ⟨w.heap.size, 2, none⟩) (Nat.le_refl _) (.int .i64 (un))).setCell (p := ⟨w.heap.size, 3, none⟩) (Nat.le_refl _) (.int .i64 (r1))).setCell (p := ⟨w.heap.size, 4, none⟩) (Nat.le_refl _) (.int .i64 (r2))).setCell (p := ⟨w.heap.size, 5, none⟩) (Nat.le_refl _) (.int .i64 (t)))
end Go.Proofs.YtciikondckoboaaDoor.Dd
