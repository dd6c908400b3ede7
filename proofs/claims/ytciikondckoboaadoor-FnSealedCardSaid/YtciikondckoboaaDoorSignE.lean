/-
  DrawSigned and DrawChallenge: some secret, some Points, some short text; they turn nothing that was.
-/
import Derived.Test.YtciikondckoboaaDoorSignD
import Derived.Test.YtciikondckoboaaDoorCurveE
namespace Go.Proofs.YtciikondckoboaaDoor.Sg
open Go.ChangeShapes Go.WideShapes Go.ChangeAt Go.RowKit
open Dr Cv Cu
set_option maxRecDepth 100000 in
set_option maxHeartbeats 4000000 in
theorem l3DrawSecret_any (B c : Nat) (a : Option Addr) (len cap : Nat) (w : World) (hC : Cur B w c a len cap) :
    Calls Tryd.prog 19 #[.pointer (some ⟨c, 0, none⟩)] w fun e w' => ∃ n : Int, e = .returned (.int .i64 n) ∧ Cur B w' c a len cap ∧ Only c w w' := by
  have HC := hidIt hC
  clear hC
  go_enter Tryd.func19, Tryd.ntmps19
  go_wp2_with (fail)
  refine (l1Once_any B c a len cap _ _ (by decide) HC.out).mono ?_
  rintro e w1 ⟨f, rfl, hC1, hO1⟩
  have hlt := hC1.lt
  have C1 := hidIt hC1
  have O1 := hidIt hO1
  clear hC1 hO1
  cases f with
  | true =>
    go_wp2_with (fail)
    refine (l1Below_any B c a len cap _ _ (by decide) (C1.out.kept ((Below.refl (c + 1) _).alloc (by omega) _))).mono ?_
    rintro e w2 ⟨x, x0, x1, rfl, hC2, hO2⟩
    have z2 : w1.heap.size < w2.heap.size := by have := hO2.size; simp at this; omega
    have hcell := fun o => hO2.cell (p := ⟨w1.heap.size, o, none⟩) (by simp) (by simp; omega)
    have C2 := hidIt hC2
    have O2 := hidIt ((O1.out.alloc _).trans hO2)
    clear hC2 hO2
    have hx : x = 0 ∨ x = 1 ∨ x = 2 ∨ x = 3 ∨ x = 4 := by omega
    clear x0 x1
    rcases hx with rfl | rfl | rfl | rfl | rfl
    all_goals
      go_wp2_with (fail)
      go_ret
      exact ⟨_, rfl, C2.out, O2.out⟩
  | false =>
    go_wp2_with (fail)
    refine (l1Below_any B c a len cap _ _ (by decide) C1.out).mono ?_
    rintro e w2 ⟨x, x0, x1, rfl, hC2, hO2⟩
    have C2 := hidIt hC2
    have O2 := hidIt (O1.out.trans hO2)
    clear hC2 hO2
    go_wp2_with (fail)
    go_ret
    exact ⟨_, rfl, C2.out, O2.out⟩
end Go.Proofs.YtciikondckoboaaDoor.Sg
