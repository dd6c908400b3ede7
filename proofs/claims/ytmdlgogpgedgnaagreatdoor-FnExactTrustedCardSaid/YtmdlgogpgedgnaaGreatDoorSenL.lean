/-
  What a law's list says of the program's errors of errors.New's make (and, where the law meets errors.As, of the library's handle of the type error), and that they stay.
-/
import Derived.Test.YtmdlgogpgedgnaaGreatDoorDoorMet
import Derived.Test.YtmdlgogpgedgnaaGreatDoorSenM
import Derived.Stop.LaidErr
import Derived.LaidHandle
namespace Go.Proofs.YtmdlgogpgedgnaaGreatDoor.Se
open Go.RowKit Go.ChangeShapes
set_option linter.unusedVariables false
theorem star : "*" ++ "errors.errorString" = "*errors.errorString" := by decide
theorem row (u : TypeId) (h : Tryz.prog.typeName? 3 u = some "*errors.errorString") : u = 190 :=
  typeName_ptr_named (nm := "errors.errorString") (by rw [star]; kernel_rfl) (by kernel_rfl) (by decide) u (by rw [star]; exact h)
theorem cellsE : Tryz.prog.cellsOf 209 = 1 := by kernel_rfl
theorem cellsS : Tryz.prog.cellsOf 9 = 1 := by kernel_rfl
theorem at_of_var {w : World} {n : String} {g : Nat} {a : Addr} (hg : Tryz.prog.globalNamed n = some g) (h : w.var? Tryz.prog n = some #[.iface 190 (.pointer (some a))]) : At w g a := by
  unfold At
  simpa using World.var?_cell hg h 0
theorem var_kept {w w' : World} {n : String} {cs : Array Value} (h : w.var? Tryz.prog n = some cs) (k : Below w.heap.size w w') : w'.var? Tryz.prog n = some cs := by
  unfold World.var? at h ⊢
  cases hg : Tryz.prog.globalNamed n with
  | none => simp [hg] at h
  | some g =>
    simp only [hg, Option.bind_some] at h ⊢
    have hlt : g < w.heap.size := by
      rcases Nat.lt_or_ge g w.heap.size with h' | h'
      · exact h'
      · simp [Array.getElem?_eq_none h'] at h
    rw [k.block g hlt]
    exact h
theorem vars_nil {H : Type} (enc : TypeId × Value → H) {W : World} (sp : Nat → Bool) : DataW.TrodVars enc Tryz.prog W sp [] [] [] := rfl
theorem vars_cons {H : Type} (enc : TypeId × Value → H) {W : World} {n : String} {g : Nat} {x : Value} {ns : List String} {gs : List (DataW H)} {q : List MemPlace}
    (hg : Tryz.prog.globalNamed n = some g) (ht : (Tryz.prog.globals[g]?).map (·.type) = some 55) (h : W.var? Tryz.prog n = some #[x]) (ix : IsIface x) {sp : Nat → Bool} (r : DataW.TrodVars enc Tryz.prog W sp ns gs q) :
    DataW.TrodVars enc Tryz.prog W sp (n :: ns) (tok enc x :: gs) (.cell g 0 :: q) :=
  ⟨g, 55, #[x], 1, [], q, hg, ht, h, trod_held Tryz.underlying55 ix 0, r, rfl⟩
/-- The library's variable errors.errorType holds the handle of the type error. -/
def Typ (w : World) : Prop := w.cell? ⟨4, 0, none⟩ = some (.iface 143 (.agg #[.pointer (some ⟨9, 55, none⟩)]))
theorem Typ.kept {w w' : World} (h : Typ w) (k : Below w.heap.size w w') : Typ w' := by
  unfold Typ at h ⊢
  rw [k.cell (World.block_lt_of_cell? _ _ h)]
  exact h
theorem et : Tryz.prog.globalNamed "errors.errorType" = some 4 := by kernel_rfl
theorem rt : (Tryz.prog.cutTypes.find? (·.1 == "internal/reflectlite.rtype")).map (·.2) = some 143 := by kernel_rfl
theorem size : Tryz.prog.types.size = 221 := by kernel_rfl
theorem oneRow : ((List.range 221).filter fun t => Tryz.prog.rowNamed t [101, 114, 114, 111, 114]) = [55] := by kernel_rfl
theorem typ_of_met {W : World} {r : List (String × DataW Unit)} (h : handlesMet Tryz.prog (("errors.errorType", Rows.laid_errors_errorType) :: r) W) : Typ W := by
  obtain ⟨name, u, ty, e1, e2, e3, e4, e5⟩ := h _ (List.mem_cons_self ..)
  have en : name = [101, 114, 114, 111, 114] := (Option.some.inj e1).symm
  subst en
  obtain rfl := Option.some.inj (rt.symm.trans e2)
  have hm : ty ∈ (List.range 221).filter fun t => Tryz.prog.rowNamed t [101, 114, 114, 111, 114] := List.mem_filter.2 ⟨List.mem_range.2 (by rw [← size]; exact e3), e4⟩
  rw [oneRow] at hm
  obtain rfl := List.mem_singleton.1 hm
  have hh : typeHandle Tryz.prog 55 = .pointer (some ⟨9, 55, none⟩) := by kernel_rfl
  rw [hh] at e5
  unfold Typ
  simpa using World.var?_cell et e5 0
end Go.Proofs.YtmdlgogpgedgnaaGreatDoor.Se
