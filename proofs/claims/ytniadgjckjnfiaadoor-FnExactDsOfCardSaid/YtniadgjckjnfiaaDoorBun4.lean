/-
  DsOf of the program.
  What a law's list says of the program's errors of errors.New's make (and, where the law meets errors.As, of the library's handle of the type error), and that they stay.
-/
import Derived.Test.YtniadgjckjnfiaaDoorBun2
import Derived.Test.YtniadgjckjnfiaaDoorBun3
import Derived.Test.YtniadgjckjnfiaaDoorSignH
import Derived.Test.YtniadgjckjnfiaaDoorDoorMet
import Derived.Stop.LaidErr
import Derived.LaidHandle
namespace Go.Proofs.YtniadgjckjnfiaaDoor.Dd
open Go.ChangeShapes Go.WideShapes Go.ChangeAt Go.RowKit
open Cv Cu Sg
open Go.Proofs.YtniadgjckjnfiaaDoor.Bo (Box Box.new Box.newAt Box.kept Box.alloc Box.put Box.other Box.c Box.drew)
open Go.Proofs.YtniadgjckjnfiaaDoor.Nm (bs okB)
set_option linter.unusedVariables false
theorem box_beside {w w' : World} {b c : Nat} {cs : Array Value} (h : Box w b cs) (k : Only c w w') (hne : ¬ b = c) : Box w' b cs :=
  ⟨Nat.lt_of_lt_of_le h.lt k.size, fun i => by rw [k.cell (p := ⟨b, i, none⟩) h.lt hne]; exact h.at' i, fun i => by rw [k.frozen (p := ⟨b, i, none⟩) h.lt hne]; exact h.fr i⟩
theorem dsN_eq (z : ByteArray) (x y : Nat) : (hend (hrun (hrun 17 (nums (z ++ ⟨#[32]⟩))) (nums (ptS x y)))) = dsN z x y := by
  unfold dsN hashN
  rw [hrun_two]
  rfl
/-- The three steps of the hash, in letters. -/
theorem ds_steps (z : ByteArray) (x y : Nat) (hz : z.size ≤ 60) (hx : x ≤ 1099511627776) (hy : y ≤ 1099511627776) : ∃ h1 h2 : Nat,
    (∀ W b, One W b 17 → Calls Tryd.prog 66 #[.pointer (some ⟨b, 0, none⟩), .string (z ++ ⟨#[32]⟩)] W fun e w' => e = .returned (.tuple #[]) ∧ One w' b h1 ∧ Only b W w') ∧
    (∀ W b, One W b h1 → Tab W → 4 < b → Calls Tryd.prog 67 #[.pointer (some ⟨b, 0, none⟩), .agg #[.int .i64 x, .int .i64 y]] W fun e w' => e = .returned (.tuple #[]) ∧ One w' b h2 ∧ Only b W w') ∧
    (∀ W, Calls Tryd.prog 68 #[.agg #[.int .i64 h2]] W fun e w' => e = .returned (.int .i64 (dsN z x y)) ∧ Below W.heap.size W w') := by
  have q2 : (z ++ ⟨#[32]⟩).size ≤ 9223372036854775807 := by
    rw [ByteArray.size_append]
    have q0 : (⟨#[32]⟩ : ByteArray).size = 1 := rfl
    omega
  have l0 : 17 < 2147483647 := by decide
  have l1 : hrun 17 (nums (z ++ ⟨#[32]⟩)) < 2147483647 := hrun_lt _ _ l0
  refine ⟨_, _, fun W b o => text_any b 17 _ W o l0 q2, fun W b o t hb => point_hash b _ x y W o l1 hx hy t hb, fun W => ?_⟩
  rw [← dsN_eq]
  exact ended_any _ W (hrun_lt _ _ l1)
set_option maxRecDepth 100000 in
set_option maxHeartbeats 4000000 in
theorem impl_dsOf (z : ByteArray) (v : Value) (k1 k2 u r1 r2 t : Int) (eN : Addr) (w : World) (ht : Tab w) (hN : Se.At w 0 eN) (hv : ∃ a n c, v = .slice a n c) :
    Calls Tryd.prog 43 #[dv z v k1 k2 u r1 r2 t] w fun e w' => ∃ x r, e = .returned (.tuple #[.int .i64 (dsB z k1 k2), x]) ∧ Se.Res w' x r ∧ r.isNone = decide (0 ≤ dsB z k1 k2) ∧ Below w.heap.size w w' := by
  obtain ⟨a, n, cap, rfl⟩ := hv
  have CN := hidIt (fun W => Nm.impl_NameOk z W)
  have CP := hidIt (fun W => impl_PointOk k1 k2 W)
  have BA := hidIt (Box.new w (dc z (.slice a n cap) k1 k2 u r1 r2 t) 52)
  have HB : Hid (Below w.heap.size w (w.alloc (.cells (dc z (.slice a n cap) k1 k2 u r1 r2 t) 52))) := hidIt ((Below.refl w.heap.size w).alloc (Nat.le_refl _) _)
  have HT := hidIt ht
  have HN := hidIt hN
  clear ht hN
  cases h1 : okB (bs z) with
  | false =>
    rw [dsB_no (.inl h1)]
    rw [h1] at CN
    clear h1
    go_enter Tryd.func43, Tryd.ntmps43
    go_wp2_with (fail)
    refine (CN.out _).mono ?_
    rintro e w1 ⟨rfl, k⟩
    replace HB := hidIt (HB.out.trans (k.mono HB.out.size))
    clear k
    have cN := (HN.out.kept HB.out).c
    go_wp2_with (fail)
    go_region
    all_goals
      go_wp2_with (fail)
      refine bodyPost_ret (v := .tuple #[.int .i64 (-1), .iface 89 (.pointer (some ⟨w1.heap.size, 0, none⟩))]) (by simp [results, Tryd.results43, go_sem]) rfl ⟨_, some (_, _), rfl, (Se.Res.newAt rfl).drew, rfl, (HB.out.alloc HB.out.size _).drew⟩
  | true =>
    cases h2 : okI k1 k2 with
    | false =>
      rw [dsB_no (.inr h2)]
      rw [h1] at CN
      rw [h2] at CP
      clear h1 h2
      go_enter Tryd.func43, Tryd.ntmps43
      go_wp2_with (fail)
      refine (CN.out _).mono ?_
      rintro e w1 ⟨rfl, k⟩
      replace BA := hidIt (BA.out.kept k)
      replace HB := hidIt (HB.out.trans (k.mono HB.out.size))
      clear k
      have c2 := BA.out.c 2 (v := .int .i64 k1) rfl
      have c3 := BA.out.c 3 (v := .int .i64 k2) rfl
      go_wp2_with (fail)
      refine (CP.out _).mono ?_
      rintro e w2 ⟨rfl, k⟩
      replace HB := hidIt (HB.out.trans (k.mono HB.out.size))
      clear k c2 c3
      have cN := (HN.out.kept HB.out).c
      go_wp2_with (fail)
      go_region
      all_goals
        go_wp2_with (fail)
        refine bodyPost_ret (v := .tuple #[.int .i64 (-1), .iface 89 (.pointer (some ⟨w2.heap.size, 0, none⟩))]) (by simp [results, Tryd.results43, go_sem]) rfl ⟨_, some (_, _), rfl, (Se.Res.newAt rfl).drew, rfl, (HB.out.alloc HB.out.size _).drew⟩
    | true =>
      obtain ⟨x, y, rfl, rfl, hxy⟩ := okI_nat h2
      have hz := okB_size h1
      have hle := ok_le hxy
      rw [dsB_yes h1 h2]
      rw [h1] at CN
      rw [h2] at CP
      clear h1 h2 hxy
      obtain ⟨h1, h2, ct, cp, ce⟩ := ds_steps z x y hz hle.1 hle.2
      have CT := hidIt ct
      have CQ := hidIt cp
      have CE := hidIt ce
      clear ct cp ce
      generalize dsN z x y = d at CE ⊢
      have q0 : (⟨#[32]⟩ : ByteArray).size = 1 := rfl
      have q1 : ¬ 9223372036854775807 < z.size + 1 := by omega
      go_enter Tryd.func43, Tryd.ntmps43
      go_wp2_with (fail)
      refine (CN.out _).mono ?_
      rintro e w1 ⟨rfl, k⟩
      replace BA := hidIt (BA.out.kept k)
      replace HB := hidIt (HB.out.trans (k.mono HB.out.size))
      clear k
      have c2 := BA.out.c 2 (v := .int .i64 x) rfl
      have c3 := BA.out.c 3 (v := .int .i64 y) rfl
      go_wp2_with (fail)
      refine (CP.out _).mono ?_
      rintro e w2 ⟨rfl, k⟩
      replace BA := hidIt (BA.out.kept k)
      replace HB := hidIt (HB.out.trans (k.mono HB.out.size))
      clear k c2 c3
      go_wp2_with (fail)
      refine (newHasher_any _).mono ?_
      rintro e w3 ⟨rfl, k⟩
      replace BA := hidIt (BA.out.kept k)
      replace HB := hidIt (HB.out.trans (k.mono HB.out.size))
      clear k
      have hlt3 := BA.out.lt
      have hs3 := HB.out.size
      have HT3 := hidIt (HT.out.kept HB.out)
      have hb3 := HT3.out.lt
      have nb : ¬ w.heap.size = w3.heap.size := by omega
      have O3 : Hid (One (w3.alloc (.cells #[.int .i64 17] 105)) w3.heap.size 17) := hidIt (One.newAt rfl)
      have kA := (Below.refl w3.heap.size w3).alloc (Nat.le_refl _) (.cells #[.int .i64 17] 105)
      replace BA := hidIt (BA.out.kept kA)
      replace HB := hidIt (HB.out.trans (kA.mono HB.out.size))
      replace HT3 := hidIt (HT3.out.kept kA)
      clear kA
      have c0 := BA.out.c 0 (v := .string z) rfl
      go_wp2_with (fail)
      refine (CT.out _ _ O3.out).mono ?_
      rintro e w4 ⟨rfl, hO, hB⟩
      replace BA := hidIt (box_beside BA.out hB nb)
      replace HT3 := hidIt (HT3.out.only hB hb3)
      replace HB := hidIt (HB.out.trans (hB.below (B := w.heap.size) hs3 HB.out.size))
      replace O3 := hidIt hO
      clear hO hB c0
      have c2 := BA.out.c 2 (v := .int .i64 x) rfl
      have c3 := BA.out.c 3 (v := .int .i64 y) rfl
      go_wp2_with (fail)
      refine (CQ.out _ _ O3.out HT3.out hb3).mono ?_
      rintro e w5 ⟨rfl, hO, hB⟩
      replace HB := hidIt (HB.out.trans (hB.below (B := w.heap.size) hs3 HB.out.size))
      have o0 := hO.c0
      clear hO hB c2 c3 BA O3
      go_wp2_with (fail)
      refine (CE.out _).mono ?_
      rintro e w6 ⟨rfl, k⟩
      replace HB := hidIt (HB.out.trans (k.mono HB.out.size))
      clear k o0
      go_wp2_with (fail)
      refine bodyPost_ret (v := .tuple #[.int .i64 d, .nilIface]) (by simp [results, Tryd.results43, go_sem]) rfl ⟨_, _, rfl, Se.Res.none _, ?_, HB.out⟩
      have : (0 : Int) ≤ (d : Int) := by omega
      simp [this]
set_option maxRecDepth 100000 in
set_option maxHeartbeats 4000000 in
theorem impl_DsOf (z : ByteArray) (v : Value) (k1 k2 u r1 r2 t : Int) (eN : Addr) (w : World) (ht : Tab w) (hN : Se.At w 0 eN) (hv : ∃ a n c, v = .slice a n c) :
    Calls Tryd.prog 21 #[dv z v k1 k2 u r1 r2 t] w fun e w' => e = .returned (.int .i64 (dsB z k1 k2)) ∧ Below w.heap.size w w' := by
  have HB : Hid (Below w.heap.size w (w.alloc (.cells (dc z v k1 k2 u r1 r2 t) 52))) := hidIt ((Below.refl w.heap.size w).alloc (Nat.le_refl _) _)
  have CD := hidIt (impl_dsOf z v k1 k2 u r1 r2 t eN _ (ht.kept HB.out) (hN.kept HB.out) hv)
  obtain ⟨a, n, cap, rfl⟩ := hv
  clear ht hN
  go_enter Tryd.func21, Tryd.ntmps21
  go_wp2_with (fail)
  refine CD.out.mono ?_
  rintro e w1 ⟨x, r, rfl, _, _, k⟩
  replace HB := hidIt (HB.out.trans (k.mono HB.out.size))
  clear k CD
  go_wp2_with (fail)
  go_ret
  exact ⟨rfl, HB.out⟩
end Go.Proofs.YtniadgjckjnfiaaDoor.Dd
namespace Go.Proofs.YtniadgjckjnfiaaDoor.Se
open Go.RowKit Go.ChangeShapes
set_option linter.unusedVariables false
theorem star : "*" ++ "errors.errorString" = "*errors.errorString" := by decide
theorem row (u : TypeId) (h : Tryd.prog.typeName? 3 u = some "*errors.errorString") : u = 163 :=
  typeName_ptr_named (nm := "errors.errorString") (by rw [star]; kernel_rfl) (by kernel_rfl) (by decide) u (by rw [star]; exact h)
theorem cellsE : Tryd.prog.cellsOf 178 = 1 := by kernel_rfl
theorem cellsS : Tryd.prog.cellsOf 9 = 1 := by kernel_rfl
theorem at_of_var {w : World} {n : String} {g : Nat} {a : Addr} (hg : Tryd.prog.globalNamed n = some g) (h : w.var? Tryd.prog n = some #[.iface 163 (.pointer (some a))]) : At w g a := by
  unfold At
  simpa using World.var?_cell hg h 0
theorem var_kept {w w' : World} {n : String} {cs : Array Value} (h : w.var? Tryd.prog n = some cs) (k : Below w.heap.size w w') : w'.var? Tryd.prog n = some cs := by
  unfold World.var? at h ⊢
  cases hg : Tryd.prog.globalNamed n with
  | none => simp [hg] at h
  | some g =>
    simp only [hg, Option.bind_some] at h ⊢
    have hlt : g < w.heap.size := by
      rcases Nat.lt_or_ge g w.heap.size with h' | h'
      · exact h'
      · simp [Array.getElem?_eq_none h'] at h
    rw [k.block g hlt]
    exact h
theorem vars_nil {H : Type} (enc : TypeId × Value → H) {W : World} (sp : Nat → Bool) : DataW.TrodVars enc Tryd.prog W sp [] [] [] := rfl
theorem vars_cons {H : Type} (enc : TypeId × Value → H) {W : World} {n : String} {g : Nat} {x : Value} {ns : List String} {gs : List (DataW H)} {q : List MemPlace}
    (hg : Tryd.prog.globalNamed n = some g) (ht : (Tryd.prog.globals[g]?).map (·.type) = some 70) (h : W.var? Tryd.prog n = some #[x]) (ix : IsIface x) {sp : Nat → Bool} (r : DataW.TrodVars enc Tryd.prog W sp ns gs q) :
    DataW.TrodVars enc Tryd.prog W sp (n :: ns) (tok enc x :: gs) (.cell g 0 :: q) :=
  ⟨g, 70, #[x], 1, [], q, hg, ht, h, trod_held Tryd.underlying70 ix 0, r, rfl⟩
end Go.Proofs.YtniadgjckjnfiaaDoor.Se
