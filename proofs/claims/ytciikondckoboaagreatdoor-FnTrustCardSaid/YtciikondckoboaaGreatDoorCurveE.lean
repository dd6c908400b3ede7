/-
  DrawAdded: some two Points of two int64; it turns nothing that was.
-/
import Derived.Test.YtciikondckoboaaGreatDoorCurveD
import Derived.Test.YtciikondckoboaaGreatDoorLawD
import Derived.Deep.RegionWith
namespace Go.Proofs.YtciikondckoboaaGreatDoor.Cv
open Go.ChangeShapes Go.WideShapes Go.ChangeAt Go.RowKit
open Cu Dr
theorem Tw.far {w : World} {b c i : Nat} {v : Value} {x y : Int} (h : Tw w b x y) (hc : ¬ b = c) : Tw (w.setCell ⟨c, i, none⟩ v) b x y :=
  ⟨by simpa [World.setCell] using h.lt, by rw [cell_set_far (fun e => hc e.symm)]; exact h.c0, by rw [cell_set_far (fun e => hc e.symm)]; exact h.c1⟩
theorem ret_via2 {fn : Func} {tm : Array Value} {wf : World} {b c : Nat} {x y p q : Int} {v : Value} (t : Tw wf b x y) (s : Tw wf c p q) (h : ∀ w2, Tw w2 b x y → Tw w2 c p q → (results fn tm).run Tryz.prog w2 = .ok v w2) : (results fn tm).run Tryz.prog wf = .ok v wf := h wf t s
end Go.Proofs.YtciikondckoboaaGreatDoor.Cv
