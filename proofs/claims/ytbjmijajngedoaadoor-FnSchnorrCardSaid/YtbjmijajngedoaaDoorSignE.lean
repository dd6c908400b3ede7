/-
  DrawSigned and DrawChallenge: some secret, some Points, some short text; they turn nothing that was.
-/
import Derived.Test.YtbjmijajngedoaaDoorSignD
import Derived.Test.YtbjmijajngedoaaDoorCurveE
namespace Go.Proofs.YtbjmijajngedoaaDoor.Sg
open Go.ChangeShapes Go.WideShapes Go.ChangeAt Go.RowKit
open Dr Cv Cu
set_option maxRecDepth 100000 in
set_option maxHeartbeats 4000000 in
theorem l3DrawSecret_any (B c : Nat) (a : Option Addr) (len cap : Nat) (w : World) (hC : Cur B w c a len cap) :
    Calls Tryd.prog 28 #[.pointer (some ⟨c, 0, none⟩)] w fun e w' => ∃ n : Int, e = .returned (.int .i64 n) ∧ Cur B w' c a len cap ∧ Only c w w' := by
  have HC := hidIt hC
  clear hC
  go_enter Tryd.func28, Tryd.ntmps28
  go_wp2_with (fail)
  refine (l1Once_any B c a len cap _ _ (by decide) HC.out).mono ?_
  rintro e w1 ⟨f, rfl, hC1, hO1⟩
  have hlt := hC1.lt
  have C1 := hidIt hC1
  have O1 := hidIt hO1
  clear hC1 hO1
  cases f with
  | true =>
    go_wp2_with (fail)
    refine (l1Below_any B c a len cap _ _ (by decide) (C1.out.kept ((Below.refl (c + 1) _).alloc (by omega) _))).mono ?_
    rintro e w2 ⟨x, x0, x1, rfl, hC2, hO2⟩
    have z2 : w1.heap.size < w2.heap.size := by have := hO2.size; simp at this; omega
    have hcell := fun o => hO2.cell (p := ⟨w1.heap.size, o, none⟩) (by simp) (by simp; omega)
    have C2 := hidIt hC2
    have O2 := hidIt ((O1.out.alloc _).trans hO2)
    clear hC2 hO2
    have hx : x = 0 ∨ x = 1 ∨ x = 2 ∨ x = 3 ∨ x = 4 := by omega
    clear x0 x1
    rcases hx with rfl | rfl | rfl | rfl | rfl
    all_goals
      go_wp2_with (fail)
      go_ret
      exact ⟨_, rfl, C2.out, O2.out⟩
  | false =>
    go_wp2_with (fail)
    refine (l1Below_any B c a len cap _ _ (by decide) C1.out).mono ?_
    rintro e w2 ⟨x, x0, x1, rfl, hC2, hO2⟩
    have C2 := hidIt hC2
    have O2 := hidIt (O1.out.trans hO2)
    clear hC2 hO2
    go_wp2_with (fail)
    go_ret
    exact ⟨_, rfl, C2.out, O2.out⟩
set_option maxRecDepth 100000 in
set_option maxHeartbeats 4000000 in
theorem DrawSigned_any (a : Option Addr) (len cap : Nat) (w : World) (hc : Dr.Code w.heap.size w a len) (hl : len ≤ 4096) :
    Calls Tryd.prog 7 #[.slice a len cap] w fun e w' => ∃ (n : Int) (s : ByteArray), s.size ≤ 6 ∧ e = .returned (.tuple #[.int .i64 n, .string s]) ∧ Below w.heap.size w w' := by
  have HC := hidIt hc
  clear hc
  go_enter Tryd.func7, Tryd.ntmps7
  go_wp2_with (fail)
  refine (l1New_any _ a len cap _ (Nat.le_refl _) HC.out hl).mono ?_
  rintro e w1 ⟨c, rfl, hC1, hb1⟩
  have hh := hC1.here
  have C1 := hidIt hC1
  have B1 := hidIt hb1
  clear hC1 hb1
  go_wp2_with (fail)
  refine (l3DrawSecret_any _ c a len cap _ C1.out).mono ?_
  rintro e w2 ⟨n, rfl, hC2, hO2⟩
  have C2 := hidIt hC2
  have B2 := hidIt (B1.out.trans (hO2.below (B := w.heap.size) hh B1.out.size))
  clear hC2 hO2
  go_wp2_with (fail)
  refine (l3DrawText_any _ c a len cap _ C2.out).mono ?_
  rintro e w3 ⟨s, hs, rfl, hC3, hO3⟩
  have B3 := hidIt (B2.out.trans (hO3.below (B := w.heap.size) hh B2.out.size))
  clear hC3 hO3
  go_wp2_with (fail)
  refine bodyPost_ret (v := .tuple #[.int .i64 n, .string s]) (by simp [results, Tryd.results7, go_sem]) rfl ⟨n, s, hs, rfl, B3.out⟩
end Go.Proofs.YtbjmijajngedoaaDoor.Sg
