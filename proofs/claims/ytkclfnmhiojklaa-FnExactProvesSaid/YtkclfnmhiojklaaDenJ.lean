/-
  The program's Proves.
-/
import Derived.Test.YtkclfnmhiojklaaDenI
namespace Go.Proofs.Ytkclfnmhiojklaa.Zn
open Go.ChangeShapes Go.WideShapes Go.ChangeAt Go.RowKit
set_option linter.unusedVariables false
open Go.Proofs.Ytkclfnmhiojklaa.Nm (Bytes bs B bs_length bs_inj okB hidIt impl_Before impl_Under impl_NameOk underL beforeL under_both before_both)
open Go.Proofs.Ytkclfnmhiojklaa.Iv (iat iat_at)
def pvQ (o bw e2 hs : Bool) : Int := if o then (if bw then 1 else if e2 && !hs then 2 else 0) else 0
theorem pvB_Q (o0 o1 o2 o3 un b1 b2 e1 e2 hs : Bool) : pvB o0 o1 o2 o3 un b1 b2 e1 e2 hs = pvQ (o0 && o1 && o2 && o3) (un && b1 && (b2 || e1)) e2 hs := rfl
theorem four_ok (s u ap nm : ByteArray) : (Nm.bL [s, u, ap, nm]).all okB = (okB (bs s) && okB (bs u) && okB (bs ap) && okB (bs nm)) := by simp [Bool.and_assoc]
theorem names_four (s u ap nm : ByteArray) (a : Option Addr) (c : Nat) (W : World) (h : Nm.Rd W a [s, u, ap, nm]) :
    Calls Try.prog 15 #[.slice a 4 c] W fun e w' => e = .returned (.bool (okB (bs s) && okB (bs u) && okB (bs ap) && okB (bs nm))) ∧ Below W.heap.size W w' := by
  have hl : [s, u, ap, nm].length ≤ 1000000000 := by simp
  have := Nm.impl_allNames a c [s, u, ap, nm] W h hl
  rw [four_ok] at this
  exact this
theorem rd_four (s u ap nm : ByteArray) (w : World) (o : Obj) (T : TypeId) : Nm.Rd ((w.alloc o).alloc (Obj.cells #[.string s, .string u, .string ap, .string nm] T)) (some ⟨w.heap.size + 1, 0, none⟩) [s, u, ap, nm] := by
  refine ⟨fun i hi => ⟨_, _, rfl, ?_⟩⟩
  match i, hi with
  | 0, _ => simp [Nm.sat]
  | 1, _ => simp [Nm.sat]
  | 2, _ => simp [Nm.sat]
  | 3, _ => simp [Nm.sat]
  | n + 4, hi => simp at hi; omega
set_option maxRecDepth 100000 in
set_option maxHeartbeats 800000 in
theorem impl_Proves (s u : ByteArray) (a : Option Addr) (cap : Nat) (L : List Int) (ap nm : ByteArray) (k : Int) (w : World) (h : Iv.Rd w a L) (hl : L.length ≤ 9223372036854775806) :
    Calls Try.prog 7 #[dv s u a L.length cap, .string ap, .string nm, .int .i64 k] w fun e w' => e = .returned (.int .i64 (provesB s u L ap nm k)) ∧ Below w.heap.size w w' := by
  have CN := hidIt (names_four s u ap nm)
  have CW := hidIt (fun W h0 h1 h2 h3 => impl_between s u (Value.slice a L.length cap) ap nm W ⟨_, _, _, rfl⟩ h0 h1 h2 h3)
  have CH := hidIt (fun W hW => contains_any a cap L k W hW hl)
  unfold provesB
  generalize okB (bs s) = o0 at *
  generalize okB (bs u) = o1 at *
  generalize okB (bs ap) = o2 at *
  generalize okB (bs nm) = o3 at *
  generalize underL (bs nm) (bs ap) = un at *
  generalize beforeL (bs s) (bs nm) = b1 at *
  generalize beforeL (bs nm) (bs u) = b2 at *
  generalize decide (k ∈ L) = hs at *
  generalize he1 : (u.toList == ap.toList) = e1 at *
  generalize he2 : (s.toList == nm.toList) = e2
  have HR := hidIt h
  clear h he1
  generalize L.length = n at *
  rw [pvB_Q]
  generalize (un && b1 && (b2 || e1)) = bw at *
  generalize ho : (o0 && o1 && o2 && o3) = o at *
  have HB : Hid (Below w.heap.size w (w.alloc (Obj.cells #[Value.string s, Value.string u, Value.slice a n cap] 27))) := hidIt ((Below.refl w.heap.size w).alloc (Nat.le_refl _) _)
  have BX : Hid (Bx (w.alloc (Obj.cells #[Value.string s, Value.string u, Value.slice a n cap] 27)) w.heap.size s u (Value.slice a n cap)) := hidIt ⟨by simp, by simp, by simp⟩
  have kA := (Below.refl (w.alloc (Obj.cells #[Value.string s, Value.string u, Value.slice a n cap] 27)).heap.size _).alloc (Nat.le_refl _) (Obj.cells #[.string s, .string u, .string ap, .string nm] 9)
  replace HB := hidIt (HB.out.trans (kA.mono HB.out.size))
  replace BX := hidIt (BX.out.kept kA)
  clear kA
  go_enter Try.func7, Try.ntmps7
  go_wp2_with (fail)
  refine (CN.out (some ⟨w.heap.size + 1, 0, none⟩) 4 _ (rd_four s u ap nm w _ _)).mono ?_
  rintro e w1 ⟨rfl, k1⟩
  replace HB := hidIt (HB.out.trans (k1.mono HB.out.size))
  replace BX := hidIt (BX.out.kept k1)
  clear k1
  have c0 := BX.out.c0
  have c1 := BX.out.c1
  have c2 := BX.out.c2
  cases o with
  | false =>
    go_wp2_with (fail)
    go_ret
    exact ⟨rfl, HB.out⟩
  | true =>
    simp only [Bool.and_eq_true] at ho
    obtain ⟨⟨⟨h0, h1⟩, h2⟩, h3⟩ := ho
    replace CW := hidIt (fun W => CW.out W h0 h1 h2 h3)
    clear h0 h1 h2 h3
    go_wp2_with (fail)
    refine (CW.out _).mono ?_
    rintro e w1 ⟨rfl, k1⟩
    replace HB := hidIt (HB.out.trans (k1.mono HB.out.size))
    replace BX := hidIt (BX.out.kept k1)
    clear k1 c0 c1 c2
    have c0 := BX.out.c0
    have c1 := BX.out.c1
    have c2 := BX.out.c2
    cases bw with
    | true =>
      go_wp2_with (fail)
      go_ret
      exact ⟨rfl, HB.out⟩
    | false =>
      cases e2 with
      | false =>
        go_wp2_with (fail)
        go_ret
        exact ⟨rfl, HB.out⟩
      | true =>
        go_wp2_with (fail)
        refine (CH.out _ (HR.out.kept HB.out)).mono ?_
        rintro e w1 ⟨rfl, rfl⟩
        cases hs with
        | false =>
          go_wp2_with (fail)
          go_ret
          exact ⟨rfl, HB.out⟩
        | true =>
          go_wp2_with (fail)
          go_ret
          exact ⟨rfl, HB.out⟩
end Go.Proofs.Ytkclfnmhiojklaa.Zn
