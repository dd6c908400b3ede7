/-
  A Deed: its cells; DsOf of the specification.
-/
import Derived.Test.YtmdlgogpgedgnaaGreatDoorDeedK
import Derived.Test.YtmdlgogpgedgnaaGreatDoorNameT
namespace Go.Proofs.YtmdlgogpgedgnaaGreatDoor.Dd
open Go.ChangeShapes Go.WideShapes Go.ChangeAt Go.RowKit
open Cv Cu Sg
open Go.Proofs.YtmdlgogpgedgnaaGreatDoor.Pt (Ln lat)
open Go.Proofs.YtmdlgogpgedgnaaGreatDoor.Bo (Box Box.new Box.newAt Box.kept Box.alloc Box.put Box.other Box.c Box.drew)
open Go.Proofs.YtmdlgogpgedgnaaGreatDoor.Nm (bs okB)
set_option linter.unusedVariables false
/-- The cells of a Deed: its Zone, its Keys, its Seal. -/
abbrev dc (z : ByteArray) (v : Value) (k1 k2 u r1 r2 t : Int) : Array Value := #[.string z, v, .int .i64 k1, .int .i64 k2, .int .i64 u, .int .i64 r1, .int .i64 r2, .int .i64 t]
abbrev dv (z : ByteArray) (v : Value) (k1 k2 u r1 r2 t : Int) : Value := .agg (dc z v k1 k2 u r1 r2 t)
def dsN (z : ByteArray) (a b : Nat) : Nat := hashN (nums (z ++ Sg.blank ++ ptS a b))
def dsB (z : ByteArray) (k1 k2 : Int) : Int := if okB (bs z) && okI k1 k2 then (dsN z k1.toNat k2.toNat : Int) else -1
theorem dsB_no {z : ByteArray} {k1 k2 : Int} (h : okB (bs z) = false ∨ okI k1 k2 = false) : dsB z k1 k2 = -1 := by
  unfold dsB
  rcases h with h | h
  · rw [h]; rfl
  · rw [h, Bool.and_false]; rfl
theorem dsB_yes {z : ByteArray} {a b : Nat} (h : okB (bs z) = true) (h' : okI a b = true) : dsB z a b = (dsN z a b : Int) := by
  unfold dsB
  rw [h, h']
  rfl
theorem okB_size {z : ByteArray} (h : okB (bs z) = true) : z.size ≤ 60 := by
  have := Nm.ok_short h
  rwa [Nm.bs_length] at this
set_option maxRecDepth 100000 in
set_option maxHeartbeats 4000000 in
theorem spec_l9Ds (z : ByteArray) (a b : Nat) (w : World) (hz : z.size ≤ 60) (hk : okN (a, b) = true) :
    Calls Tryz.prog 25 #[.string z, .agg #[.int .i64 a, .int .i64 b]] w fun e w' => e = .returned (.int .i64 (dsN z a b)) ∧ Below w.heap.size w w' := by
  have hle := ok_le hk
  have CP := hidIt (fun W => l3Point_any a b W hle.1 hle.2)
  have hs2 := ptS_size a b hle.1 hle.2
  have CH : Hid (∀ W, Calls Tryz.prog 39 #[.string (z ++ ⟨#[32]⟩ ++ ptS a b)] W fun e w' => e = .returned (.int .i64 (dsN z a b)) ∧ w' = W) := hidIt (fun W => by
    have := spec_Hash (z ++ Sg.blank ++ ptS a b) W (by rw [ByteArray.size_append, ByteArray.size_append, Sg.blank_size]; omega)
    exact this)
  generalize dsN z a b = r at CH ⊢
  generalize ptS a b = t at CP CH hs2
  have q0 : (⟨#[32]⟩ : ByteArray).size = 1 := rfl
  have q1 : ¬ 9223372036854775807 < z.size + 1 := by omega
  have q2 : ¬ 9223372036854775807 < z.size + 1 + t.size := by omega
  clear hle hk
  go_enter Tryz.func25, Tryz.ntmps25
  go_wp2_with (fail)
  refine (CP.out _).mono ?_
  rintro e w1 ⟨rfl, k1⟩
  have HB := hidIt (((Below.refl w.heap.size w).alloc (Nat.le_refl _) (.cells #[.int .i64 a, .int .i64 b] 34)).trans (k1.mono (by simp)))
  clear k1
  go_wp2_with (fail)
  refine (CH.out _).mono ?_
  rintro e w2 ⟨rfl, rfl⟩
  go_wp2_with (fail)
  go_ret
  exact ⟨rfl, HB.out⟩
set_option maxRecDepth 100000 in
set_option maxHeartbeats 4000000 in
theorem spec_DsOf (z : ByteArray) (v : Value) (k1 k2 u r1 r2 t : Int) (w : World) (hv : ∃ a n c, v = .slice a n c) :
    Calls Tryz.prog 12 #[dv z v k1 k2 u r1 r2 t] w fun e w' => e = .returned (.int .i64 (dsB z k1 k2)) ∧ Below w.heap.size w w' := by
  obtain ⟨a, n, cap, rfl⟩ := hv
  have CN := hidIt (fun W => Nm.spec_NameOk z W)
  have CP := hidIt (fun W => spec_PointOk k1 k2 W)
  have BA := hidIt (Box.new w (dc z (.slice a n cap) k1 k2 u r1 r2 t) 40)
  have HB : Hid (Below w.heap.size w (w.alloc (.cells (dc z (.slice a n cap) k1 k2 u r1 r2 t) 40))) := hidIt ((Below.refl w.heap.size w).alloc (Nat.le_refl _) _)
  cases h1 : okB (bs z) with
  | false =>
    rw [dsB_no (.inl h1)]
    rw [h1] at CN
    clear h1
    go_enter Tryz.func12, Tryz.ntmps12
    go_wp2_with (fail)
    refine (CN.out _).mono ?_
    rintro e w1 ⟨rfl, k⟩
    replace HB := hidIt (HB.out.trans (k.mono HB.out.size))
    clear k
    go_wp2_with (fail)
    go_ret
    exact ⟨rfl, HB.out⟩
  | true =>
    cases h2 : okI k1 k2 with
    | false =>
      rw [dsB_no (.inr h2)]
      rw [h1] at CN
      rw [h2] at CP
      clear h1 h2
      go_enter Tryz.func12, Tryz.ntmps12
      go_wp2_with (fail)
      refine (CN.out _).mono ?_
      rintro e w1 ⟨rfl, k⟩
      replace BA := hidIt (BA.out.kept k)
      replace HB := hidIt (HB.out.trans (k.mono HB.out.size))
      clear k
      have c2 := BA.out.c 2 (v := .int .i64 k1) rfl
      have c3 := BA.out.c 3 (v := .int .i64 k2) rfl
      go_wp2_with (fail)
      refine (CP.out _).mono ?_
      rintro e w2 ⟨rfl, k⟩
      replace HB := hidIt (HB.out.trans (k.mono HB.out.size))
      clear k
      go_wp2_with (fail)
      go_ret
      exact ⟨rfl, HB.out⟩
    | true =>
      obtain ⟨x, y, rfl, rfl, hxy⟩ := okI_nat h2
      rw [dsB_yes h1 h2]
      have CD := hidIt (fun W => spec_l9Ds z x y W (okB_size h1) hxy)
      rw [h1] at CN
      rw [h2] at CP
      clear h1 h2 hxy
      generalize dsN z x y = r at CD ⊢
      go_enter Tryz.func12, Tryz.ntmps12
      go_wp2_with (fail)
      refine (CN.out _).mono ?_
      rintro e w1 ⟨rfl, k⟩
      replace BA := hidIt (BA.out.kept k)
      replace HB := hidIt (HB.out.trans (k.mono HB.out.size))
      clear k
      have c2 := BA.out.c 2 (v := .int .i64 x) rfl
      have c3 := BA.out.c 3 (v := .int .i64 y) rfl
      go_wp2_with (fail)
      refine (CP.out _).mono ?_
      rintro e w2 ⟨rfl, k⟩
      replace BA := hidIt (BA.out.kept k)
      replace HB := hidIt (HB.out.trans (k.mono HB.out.size))
      clear k c2 c3
      have c0 := BA.out.c 0 (v := .string z) rfl
      have c2 := BA.out.c 2 (v := .int .i64 x) rfl
      have c3 := BA.out.c 3 (v := .int .i64 y) rfl
      go_wp2_with (fail)
      refine (CD.out _).mono ?_
      rintro e w3 ⟨rfl, k⟩
      replace HB := hidIt (HB.out.trans (k.mono HB.out.size))
      clear k c0 c2 c3 BA
      go_wp2_with (fail)
      go_ret
      exact ⟨rfl, HB.out⟩
end Go.Proofs.YtmdlgogpgedgnaaGreatDoor.Dd
