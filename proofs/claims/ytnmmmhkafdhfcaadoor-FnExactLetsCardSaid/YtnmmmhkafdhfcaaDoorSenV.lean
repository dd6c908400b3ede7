/-
  A package-level variable that holds an error of errors.New's make: what a law's list says of it, and that it stays (for a seat that has none of the program's own errors and no table of numerals).
-/
import Derived.Test.YtnmmmhkafdhfcaaDoorBoxM
import Derived.Test.YtnmmmhkafdhfcaaDoorRows
import Derived.WalkKit
import Derived.ProofKit
import Derived.Stop.LaidErr
import Derived.LaidHandle
namespace Go.Proofs.YtnmmmhkafdhfcaaDoor.Se
open Go.RowKit Go.ChangeShapes
set_option linter.unusedVariables false
/-- The package-level variable g holds the error of errors.New's make that lies at a. -/
def At (w : World) (g : Nat) (a : Addr) : Prop := w.cell? ⟨g, 0, none⟩ = some (.iface 116 (.pointer (some a)))
theorem At.kept {w w' : World} {g : Nat} {a : Addr} (h : At w g a) (k : Below w.heap.size w w') : At w' g a := by
  unfold At at h ⊢
  rw [k.cell (World.block_lt_of_cell? _ _ h)]
  exact h
theorem At.c {w : World} {g : Nat} {a : Addr} (h : At w g a) : w.cell? ⟨g, 0, none⟩ = some (.iface 116 (.pointer (some a))) := h
theorem star : "*" ++ "errors.errorString" = "*errors.errorString" := by decide
theorem row (u : TypeId) (h : Tryd.prog.typeName? 3 u = some "*errors.errorString") : u = 116 :=
  typeName_ptr_named (nm := "errors.errorString") (by rw [star]; kernel_rfl) (by kernel_rfl) (by decide) u (by rw [star]; exact h)
theorem cellsE : Tryd.prog.cellsOf 131 = 1 := by kernel_rfl
theorem cellsS : Tryd.prog.cellsOf 9 = 1 := by kernel_rfl
theorem at_of_var {w : World} {n : String} {g : Nat} {a : Addr} (hg : Tryd.prog.globalNamed n = some g) (h : w.var? Tryd.prog n = some #[.iface 116 (.pointer (some a))]) : At w g a := by
  unfold At
  simpa using World.var?_cell hg h 0
theorem var_kept {w w' : World} {n : String} {cs : Array Value} (h : w.var? Tryd.prog n = some cs) (k : Below w.heap.size w w') : w'.var? Tryd.prog n = some cs := by
  unfold World.var? at h ⊢
  cases hg : Tryd.prog.globalNamed n with
  | none => simp [hg] at h
  | some g =>
    simp only [hg, Option.bind_some] at h ⊢
    have hlt : g < w.heap.size := by
      rcases Nat.lt_or_ge g w.heap.size with h' | h'
      · exact h'
      · simp [Array.getElem?_eq_none h'] at h
    rw [k.block g hlt]
    exact h
theorem vars_nil {H : Type} (enc : TypeId × Value → H) {W : World} (sp : Nat → Bool) : DataW.TrodVars enc Tryd.prog W sp [] [] [] := rfl
theorem vars_cons {H : Type} (enc : TypeId × Value → H) {W : World} {n : String} {g : Nat} {x : Value} {ns : List String} {gs : List (DataW H)} {q : List MemPlace}
    (hg : Tryd.prog.globalNamed n = some g) (ht : (Tryd.prog.globals[g]?).map (·.type) = some 70) (h : W.var? Tryd.prog n = some #[x]) (ix : IsIface x) {sp : Nat → Bool} (r : DataW.TrodVars enc Tryd.prog W sp ns gs q) :
    DataW.TrodVars enc Tryd.prog W sp (n :: ns) (tok enc x :: gs) (.cell g 0 :: q) :=
  ⟨g, 70, #[x], 1, [], q, hg, ht, h, trod_held Tryd.underlying70 ix 0, r, rfl⟩
end Go.Proofs.YtnmmmhkafdhfcaaDoor.Se
