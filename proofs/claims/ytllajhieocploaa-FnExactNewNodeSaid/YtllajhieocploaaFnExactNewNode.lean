/-
  FnExactNewNode answers true at every text and every two numbers: NewNode of the program answers as the specification's, and its answer lies in memory of its own, behind another call too. No condition.
-/
import Derived.Test.YtllajhieocploaaRows
import Derived.WalkKit
import Derived.ProofKit
import Derived.OpenShut
import Derived.ShutString
import Derived.ChangeOld
import Derived.Below
import Derived.Lib.SmallJoins
import Derived.Test.YtllajhieocploaaNewX
namespace Go.Proofs.Ytllajhieocploaa.fnExactNewNode
open Go.ChangeShapes Go.WideShapes Go.ChangeAt Go.RowKit Go.Joins
set_option linter.unusedVariables false

theorem own : ownKnob Try.prog.godebug = none := by kernel_rfl
theorem laidOut : laidOutB Try.prog = true := by kernel_rfl
open Go.Proofs.Ytllajhieocploaa.Nn (hidIt)
set_option maxRecDepth 100000 in
set_option maxHeartbeats 16000000 in

theorem walk (s0 : ByteArray) (ws0 : s0.size ≤ maxLen) (n1 : Int) (n2 : Int) (w : World) :
    Calls Try.prog 5 #[.string s0, .int .i64 n1, .int .i64 n2] w fun e w' => e = .returned (.bool true) ∧ Below w.heap.size w w' := by
  have CS := hidIt (fun W => Nn.spec_NewNode s0 n1 n2 W)
  have CI := hidIt (fun W => Nn.impl_NewNode s0 n1 n2 W)
  have HB := hidIt (Below.refl w.heap.size w)
  generalize Nn.newN s0 n1 n2 = x at CS CI
  obtain ⟨⟨⟨p, m, o, n, a⟩, s⟩, is⟩ := x
  have hii : (is != is) = false := by cases is <;> rfl
  go_enter Try.func5, Try.ntmps5
  by_cases hks : (1048576 : Int) < (s0.size : Int)
  · go_wp2_with (fail)
    go_ret
    exact ⟨rfl, HB.out⟩
  go_wp2_with (fail)
  refine (CS.out _).mono ?_
  intro en w1 hz
  obtain ⟨ew, mw, bw, gw, ewc, mwc, bwc, gwc, rfl, k⟩ := hz
  replace HB := hidIt (HB.out.trans (k.mono HB.out.size))
  clear k
  have Bw := hidIt (Bo.Box.new w1 #[.slice ew 0 ewc, .slice mw 0 mwc, .int .i64 p, .int .i64 m, .int .i64 o, .int .i64 n, .int .i64 a, .slice bw 0 bwc, .slice gw 0 gwc, .string s] 42)
  have kA := (Below.refl w1.heap.size w1).alloc (Nat.le_refl _) (.cells #[.slice ew 0 ewc, .slice mw 0 mwc, .int .i64 p, .int .i64 m, .int .i64 o, .int .i64 n, .int .i64 a, .slice bw 0 bwc, .slice gw 0 gwc, .string s] 42)
  replace HB := hidIt (HB.out.trans (kA.mono HB.out.size))
  clear kA
  go_wp2_with (fail)
  refine (CI.out _).mono ?_
  intro en w2 hz
  obtain ⟨ev, mv, bv, gv, evc, mvc, bvc, gvc, rfl, k⟩ := hz
  replace HB := hidIt (HB.out.trans (k.mono HB.out.size))
  replace Bw := hidIt (Bw.out.kept k)
  clear k
  have Bv := hidIt (Bo.Box.new w2 #[.slice ev 0 evc, .slice mv 0 mvc, .int .i64 p, .int .i64 m, .int .i64 o, .int .i64 n, .int .i64 a, .slice bv 0 bvc, .slice gv 0 gvc, .string s] 42)
  have kA := (Below.refl w2.heap.size w2).alloc (Nat.le_refl _) (.cells #[.slice ev 0 evc, .slice mv 0 mvc, .int .i64 p, .int .i64 m, .int .i64 o, .int .i64 n, .int .i64 a, .slice bv 0 bvc, .slice gv 0 gvc, .string s] 42)
  replace HB := hidIt (HB.out.trans (kA.mono HB.out.size))
  replace Bw := hidIt (Bw.out.kept kA)
  clear kA
  have v0l := Bv.out.c 0 (v := .slice ev 0 evc) rfl
  have v1l := Bv.out.c 1 (v := .slice mv 0 mvc) rfl
  have v2l := Bv.out.c 2 (v := .int .i64 p) rfl
  have v3l := Bv.out.c 3 (v := .int .i64 m) rfl
  have v4l := Bv.out.c 4 (v := .int .i64 o) rfl
  have v5l := Bv.out.c 5 (v := .int .i64 n) rfl
  have v6l := Bv.out.c 6 (v := .int .i64 a) rfl
  have v7l := Bv.out.c 7 (v := .slice bv 0 bvc) rfl
  have v8l := Bv.out.c 8 (v := .slice gv 0 gvc) rfl
  have v9l := Bv.out.c 9 (v := .string s) rfl
  have w0l := Bw.out.c 0 (v := .slice ew 0 ewc) rfl
  have w1l := Bw.out.c 1 (v := .slice mw 0 mwc) rfl
  have w2l := Bw.out.c 2 (v := .int .i64 p) rfl
  have w3l := Bw.out.c 3 (v := .int .i64 m) rfl
  have w4l := Bw.out.c 4 (v := .int .i64 o) rfl
  have w5l := Bw.out.c 5 (v := .int .i64 n) rfl
  have w6l := Bw.out.c 6 (v := .int .i64 a) rfl
  have w7l := Bw.out.c 7 (v := .slice bw 0 bwc) rfl
  have w8l := Bw.out.c 8 (v := .slice gw 0 gwc) rfl
  have w9l := Bw.out.c 9 (v := .string s) rfl
  go_wp2_with (fail)
  refine (Nn.eqNode0 p m o n a s ev mv bv gv ew mw bw gw evc mvc bvc gvc ewc mwc bwc gwc _).mono ?_
  rintro en w3 ⟨rfl, k⟩
  replace HB := hidIt (HB.out.trans (k.mono HB.out.size))
  replace Bw := hidIt (Bw.out.kept k)
  replace Bv := hidIt (Bv.out.kept k)
  clear k
  clear v0l v1l v2l v3l v4l v5l v6l v7l v8l v9l w0l w1l w2l w3l w4l w5l w6l w7l w8l w9l
  have v0l := Bv.out.c 0 (v := .slice ev 0 evc) rfl
  have v1l := Bv.out.c 1 (v := .slice mv 0 mvc) rfl
  have v2l := Bv.out.c 2 (v := .int .i64 p) rfl
  have v3l := Bv.out.c 3 (v := .int .i64 m) rfl
  have v4l := Bv.out.c 4 (v := .int .i64 o) rfl
  have v5l := Bv.out.c 5 (v := .int .i64 n) rfl
  have v6l := Bv.out.c 6 (v := .int .i64 a) rfl
  have v7l := Bv.out.c 7 (v := .slice bv 0 bvc) rfl
  have v8l := Bv.out.c 8 (v := .slice gv 0 gvc) rfl
  have v9l := Bv.out.c 9 (v := .string s) rfl
  go_wp2_with (fail)
  refine (Nn.markNode0 p m o n a s ev mv bv gv evc mvc bvc gvc 1 (by decide) _).mono ?_
  rintro en w4 ⟨rfl, k⟩
  replace HB := hidIt (HB.out.trans (k.mono HB.out.size))
  replace Bw := hidIt (Bw.out.kept k)
  replace Bv := hidIt (Bv.out.kept k)
  clear k
  clear v0l v1l v2l v3l v4l v5l v6l v7l v8l v9l
  have v0l := Bv.out.c 0 (v := .slice ev 0 evc) rfl
  have v1l := Bv.out.c 1 (v := .slice mv 0 mvc) rfl
  have v2l := Bv.out.c 2 (v := .int .i64 p) rfl
  have v3l := Bv.out.c 3 (v := .int .i64 m) rfl
  have v4l := Bv.out.c 4 (v := .int .i64 o) rfl
  have v5l := Bv.out.c 5 (v := .int .i64 n) rfl
  have v6l := Bv.out.c 6 (v := .int .i64 a) rfl
  have v7l := Bv.out.c 7 (v := .slice bv 0 bvc) rfl
  have v8l := Bv.out.c 8 (v := .slice gv 0 gvc) rfl
  have v9l := Bv.out.c 9 (v := .string s) rfl
  go_wp2_with (fail)
  refine (Nn.heldNode0 p m o n a s ev mv bv gv evc mvc bvc gvc 1 (by decide) _).mono ?_
  rintro en w5 ⟨rfl, k⟩
  replace HB := hidIt (HB.out.trans (k.mono HB.out.size))
  replace Bw := hidIt (Bw.out.kept k)
  replace Bv := hidIt (Bv.out.kept k)
  clear k
  clear v0l v1l v2l v3l v4l v5l v6l v7l v8l v9l
  go_wp2_with (fail)
  refine (CI.out _).mono ?_
  intro en w6 hz
  obtain ⟨eh, mh, bh, gh, ehc, mhc, bhc, ghc, rfl, k⟩ := hz
  replace HB := hidIt (HB.out.trans (k.mono HB.out.size))
  replace Bw := hidIt (Bw.out.kept k)
  replace Bv := hidIt (Bv.out.kept k)
  clear k
  have Bh := hidIt (Bo.Box.new w6 #[.slice eh 0 ehc, .slice mh 0 mhc, .int .i64 p, .int .i64 m, .int .i64 o, .int .i64 n, .int .i64 a, .slice bh 0 bhc, .slice gh 0 ghc, .string s] 42)
  have kA := (Below.refl w6.heap.size w6).alloc (Nat.le_refl _) (.cells #[.slice eh 0 ehc, .slice mh 0 mhc, .int .i64 p, .int .i64 m, .int .i64 o, .int .i64 n, .int .i64 a, .slice bh 0 bhc, .slice gh 0 ghc, .string s] 42)
  replace HB := hidIt (HB.out.trans (kA.mono HB.out.size))
  replace Bw := hidIt (Bw.out.kept kA)
  replace Bv := hidIt (Bv.out.kept kA)
  clear kA
  have h0l := Bh.out.c 0 (v := .slice eh 0 ehc) rfl
  have h1l := Bh.out.c 1 (v := .slice mh 0 mhc) rfl
  have h2l := Bh.out.c 2 (v := .int .i64 p) rfl
  have h3l := Bh.out.c 3 (v := .int .i64 m) rfl
  have h4l := Bh.out.c 4 (v := .int .i64 o) rfl
  have h5l := Bh.out.c 5 (v := .int .i64 n) rfl
  have h6l := Bh.out.c 6 (v := .int .i64 a) rfl
  have h7l := Bh.out.c 7 (v := .slice bh 0 bhc) rfl
  have h8l := Bh.out.c 8 (v := .slice gh 0 ghc) rfl
  have h9l := Bh.out.c 9 (v := .string s) rfl
  have w0l := Bw.out.c 0 (v := .slice ew 0 ewc) rfl
  have w1l := Bw.out.c 1 (v := .slice mw 0 mwc) rfl
  have w2l := Bw.out.c 2 (v := .int .i64 p) rfl
  have w3l := Bw.out.c 3 (v := .int .i64 m) rfl
  have w4l := Bw.out.c 4 (v := .int .i64 o) rfl
  have w5l := Bw.out.c 5 (v := .int .i64 n) rfl
  have w6l := Bw.out.c 6 (v := .int .i64 a) rfl
  have w7l := Bw.out.c 7 (v := .slice bw 0 bwc) rfl
  have w8l := Bw.out.c 8 (v := .slice gw 0 gwc) rfl
  have w9l := Bw.out.c 9 (v := .string s) rfl
  go_wp2_with (fail)
  refine (Nn.eqNode0 p m o n a s eh mh bh gh ew mw bw gw ehc mhc bhc ghc ewc mwc bwc gwc _).mono ?_
  rintro en w7 ⟨rfl, k⟩
  replace HB := hidIt (HB.out.trans (k.mono HB.out.size))
  replace Bw := hidIt (Bw.out.kept k)
  replace Bv := hidIt (Bv.out.kept k)
  replace Bh := hidIt (Bh.out.kept k)
  clear k
  clear h0l h1l h2l h3l h4l h5l h6l h7l h8l h9l w0l w1l w2l w3l w4l w5l w6l w7l w8l w9l
  have v0l := Bv.out.c 0 (v := .slice ev 0 evc) rfl
  have v1l := Bv.out.c 1 (v := .slice mv 0 mvc) rfl
  have v2l := Bv.out.c 2 (v := .int .i64 p) rfl
  have v3l := Bv.out.c 3 (v := .int .i64 m) rfl
  have v4l := Bv.out.c 4 (v := .int .i64 o) rfl
  have v5l := Bv.out.c 5 (v := .int .i64 n) rfl
  have v6l := Bv.out.c 6 (v := .int .i64 a) rfl
  have v7l := Bv.out.c 7 (v := .slice bv 0 bvc) rfl
  have v8l := Bv.out.c 8 (v := .slice gv 0 gvc) rfl
  have v9l := Bv.out.c 9 (v := .string s) rfl
  go_wp2_with (fail)
  refine (Nn.heldNode0 p m o n a s ev mv bv gv evc mvc bvc gvc 1 (by decide) _).mono ?_
  rintro en w8 ⟨rfl, k⟩
  replace HB := hidIt (HB.out.trans (k.mono HB.out.size))
  replace Bw := hidIt (Bw.out.kept k)
  replace Bv := hidIt (Bv.out.kept k)
  replace Bh := hidIt (Bh.out.kept k)
  clear k
  clear v0l v1l v2l v3l v4l v5l v6l v7l v8l v9l
  go_wp2_with (fail)
  go_ret
  exact ⟨rfl, HB.out⟩

set_option maxRecDepth 100000 in
theorem lifted (os : Os) (started : os.Started) (H : Type) (enc : TypeId × Value → H) :
    ReturnsInHanded {} Try.checked os 5 .any (Rows.fnExactNewNodeSpec.pre6 enc Try.prog Try.f5 Rows.fnExactNewNodeRow.domain false) (Rows.fnExactNewNodeSpec.post enc Try.prog Try.f5 false true false false) := by
  refine returnsInHanded_of_change (C := Try.checked) own started (by kernel_rfl) Try.func5
    (ChangeSpec.witness6 (enc := enc) (C := Try.checked) false ⟨#[], #[.string ByteArray.empty, .int .i64 0, .int .i64 0], []⟩ 8 (by kernel_rfl) (by kernel_rfl) (by kernel_rfl) (by kernel_rfl)) ?_
  intro W base args ds gs before hval0 hW hcnd _
  have hval : ∀ (j : Nat) t v, Try.f5.params[j]? = some t → args[j]? = some v → Value.okWide Try.prog W .any base t v := hval0
  have hW' := hW
  obtain ⟨p, q, hA0, hV, rfl, hfz, hnd⟩ := hW
  have hA : DataW.TrodAll enc Try.prog W 0 (fun _ => true) true Try.f5.params.toList args.toList ds p := hA0
  rw [Try.params5] at hA hval
  obtain ⟨v0, vs0, d0, ds0, p0, q0, hargs, rfl, rfl, h0, r0⟩ := trodAll_cons hA
  obtain ⟨v1, vs1, d1, ds1, p1, q1, rfl, rfl, rfl, h1, r1⟩ := trodAll_cons r0
  obtain ⟨v2, vs2, d2, ds2, p2, q2, rfl, rfl, rfl, h2, r2⟩ := trodAll_cons r1
  obtain ⟨rfl, rfl, rfl⟩ := trodAll_nil r2
  obtain rfl : args = #[v0, v1, v2] := by cases args; simp_all
  obtain ⟨rfl, rfl⟩ := trodVars_none hV
  have k0 := h0
  have lt0 : ∀ x ∈ p0, x.block < W.heap.size := by obtain ⟨m, hm⟩ := k0; exact DataW.trod_lt m _ _ _ hm
  have k1 := h1
  have lt1 : ∀ x ∈ p1, x.block < W.heap.size := by obtain ⟨m, hm⟩ := k1; exact DataW.trod_lt m _ _ _ hm
  have k2 := h2
  have lt2 : ∀ x ∈ p2, x.block < W.heap.size := by obtain ⟨m, hm⟩ := k2; exact DataW.trod_lt m _ _ _ hm
  obtain ⟨s0, rfl, rfl, rfl, ws0⟩ := Go.ChangeMaps.open_string Try.underlying9 (hval 0 9 v0 rfl rfl) h0
  obtain ⟨n1, rfl, rfl, rfl, wn1⟩ := open_int Try.underlying2 (hval 1 2 v1 rfl rfl) h1
  obtain ⟨n2, rfl, rfl, rfl, wn2⟩ := open_int Try.underlying2 (hval 2 2 v2 rfl rfl) h2
  clear hA0 hval0
  refine (walk s0 ws0 n1 n2 W).mono fun e W' ⟨he, bel⟩ => ?_
  subst he
  exact ⟨_, rfl, _, _, _, [], _, [], hW', trodAll_mk1 (shut_bool Try.underlying4 _), (trodAll_cons_mk (Below.trod laidOut (by kernel_rfl) (of_decide_eq_true (by kernel_rfl)) k0 bel lt0) (trodAll_cons_mk (Below.trod laidOut (by kernel_rfl) (of_decide_eq_true (by kernel_rfl)) k1 bel lt1) (trodAll_cons_mk (Below.trod laidOut (by kernel_rfl) (of_decide_eq_true (by kernel_rfl)) k2 bel lt2) trodAll_mk0))), rfl, bel.frame _, fun h => by cases h⟩

theorem over : Rows.fnExactNewNodeRow.holds Try.pinned (OpenSpec.ofChange Rows.fnExactNewNodeSpec) :=
  OpenClaim.holds_of_wide 5 Try.f5 rfl rfl rfl rfl rfl rfl rfl ⟨rfl, rfl, rfl, rfl, rfl⟩ rfl rfl rfl rfl rfl (by kernel_rfl) Try.func5 (by kernel_rfl)
    (of_decide_eq_true (by kernel_rfl)) (by unfold Func.isWrapper; first | (rw [if_pos (by decide +kernel)]; kernel_rfl) | (rw [if_neg (by decide +kernel)]; exact ⟨rfl, rfl⟩))
    (fun os started H enc _ => lifted os started H enc)
end Go.Proofs.Ytllajhieocploaa.fnExactNewNode
namespace Go.Proofs.Ytllajhieocploaa
theorem fnExactNewNode_holds : Rows.FnExactNewNodeSaid := fnExactNewNode.over
#print axioms fnExactNewNode_holds
end Go.Proofs.Ytllajhieocploaa
