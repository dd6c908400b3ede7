/-
  What a Deny proves, in plain words, and the specification's Proves.
-/
import Derived.Test.YtkclfnmhiojklaaDenM
import Derived.Test.YtkclfnmhiojklaaNameV
import Derived.Test.YtkclfnmhiojklaaNameU
import Derived.Test.YtkclfnmhiojklaaNameT
namespace Go.Proofs.Ytkclfnmhiojklaa.Zn
open Go.ChangeShapes Go.WideShapes Go.ChangeAt Go.RowKit
set_option linter.unusedVariables false
open Go.Proofs.Ytkclfnmhiojklaa.Nm (Bytes bs B bs_length bs_inj okB hidIt spec_l5Before spec_l5Under spec_NameOk underL beforeL ok_short neq_of)
/-- The answer, of the ten tests. -/
def pvB (o0 o1 o2 o3 un b1 b2 e1 e2 hs : Bool) : Int :=
  if o0 && o1 && o2 && o3 then (if un && b1 && (b2 || e1) then 1 else if e2 && !hs then 2 else 0) else 0
def provesB (s u : ByteArray) (L : List Int) (ap nm : ByteArray) (k : Int) : Int :=
  pvB (okB (bs s)) (okB (bs u)) (okB (bs ap)) (okB (bs nm)) (underL (bs nm) (bs ap)) (beforeL (bs s) (bs nm)) (beforeL (bs nm) (bs u)) (u.toList == ap.toList) (s.toList == nm.toList) (decide (k ∈ L))
theorem ok_size {s : ByteArray} (h : okB (bs s) = true) : s.size ≤ 60 := by
  have := ok_short h
  rwa [bs_length] at this
set_option maxRecDepth 100000 in
set_option maxHeartbeats 8000000 in
theorem spec_Proves (s u : ByteArray) (a : Option Addr) (cap : Nat) (L : List Int) (ap nm : ByteArray) (k : Int) (w : World) (h : Iv.Rd w a L) (hl : L.length ≤ 9223372036854775806) :
    Calls Try.prog 5 #[dv s u a L.length cap, .string ap, .string nm, .int .i64 k] w fun e w' => e = .returned (.int .i64 (provesB s u L ap nm k)) ∧ Below w.heap.size w w' := by
  have N0 := hidIt (fun W => spec_NameOk s W)
  have N1 := hidIt (fun W => spec_NameOk u W)
  have N2 := hidIt (fun W => spec_NameOk ap W)
  have N3 := hidIt (fun W => spec_NameOk nm W)
  have CU : Hid (okB (bs nm) = true → okB (bs ap) = true → _) := hidIt (fun h1 h2 W => spec_l5Under nm ap W (ok_size h1) (ok_size h2))
  have C1 : Hid (okB (bs s) = true → okB (bs nm) = true → _) := hidIt (fun h1 h2 W => spec_l5Before s nm W (ok_size h1) (ok_size h2))
  have C2 : Hid (okB (bs nm) = true → okB (bs u) = true → _) := hidIt (fun h1 h2 W => spec_l5Before nm u W (ok_size h1) (ok_size h2))
  have CH := hidIt (fun W hW => Iv.l1Has_any a cap L k W hW hl)
  unfold provesB
  generalize okB (bs s) = o0 at *
  generalize okB (bs u) = o1 at *
  generalize okB (bs ap) = o2 at *
  generalize okB (bs nm) = o3 at *
  generalize underL (bs nm) (bs ap) = un at *
  generalize beforeL (bs s) (bs nm) = b1 at *
  generalize beforeL (bs nm) (bs u) = b2 at *
  generalize decide (k ∈ L) = hs at *
  generalize he1 : (u.toList == ap.toList) = e1
  generalize he2 : (s.toList == nm.toList) = e2
  have HR := hidIt h
  have HB : Hid (Below w.heap.size w (w.alloc (Obj.cells #[Value.string s, Value.string u, Value.slice a L.length cap] 27))) := hidIt ((Below.refl w.heap.size w).alloc (Nat.le_refl _) _)
  have BX : Hid (Bx (w.alloc (Obj.cells #[Value.string s, Value.string u, Value.slice a L.length cap] 27)) w.heap.size s u (Value.slice a L.length cap)) := hidIt ⟨by simp, by simp, by simp⟩
  clear h
  generalize L.length = n at *
  go_enter Try.func5, Try.ntmps5
  go_wp2_with (fail)
  refine (N0.out _).mono ?_
  rintro e w1 ⟨rfl, k1⟩
  replace HB := hidIt (HB.out.trans (k1.mono HB.out.size))
  replace BX := hidIt (BX.out.kept k1)
  clear k1
  have c0 := BX.out.c0
  have c1 := BX.out.c1
  have c2 := BX.out.c2
  cases o0 with
  | false =>
    go_wp2_with (fail)
    go_ret
    exact ⟨by first | rfl | simp [pvB], HB.out⟩
  | true =>
    go_wp2_with (fail)
    refine (N1.out _).mono ?_
    rintro e w1 ⟨rfl, k1⟩
    replace HB := hidIt (HB.out.trans (k1.mono HB.out.size))
    replace BX := hidIt (BX.out.kept k1)
    clear k1
    have c0 := BX.out.c0
    have c1 := BX.out.c1
    have c2 := BX.out.c2
    cases o1 with
    | false =>
      go_wp2_with (fail)
      go_ret
      exact ⟨by first | rfl | simp [pvB], HB.out⟩
    | true =>
      go_wp2_with (fail)
      refine (N2.out _).mono ?_
      rintro e w1 ⟨rfl, k1⟩
      replace HB := hidIt (HB.out.trans (k1.mono HB.out.size))
      replace BX := hidIt (BX.out.kept k1)
      clear k1
      have c0 := BX.out.c0
      have c1 := BX.out.c1
      have c2 := BX.out.c2
      cases o2 with
      | false =>
        go_wp2_with (fail)
        go_ret
        exact ⟨by first | rfl | simp [pvB], HB.out⟩
      | true =>
        go_wp2_with (fail)
        refine (N3.out _).mono ?_
        rintro e w1 ⟨rfl, k1⟩
        replace HB := hidIt (HB.out.trans (k1.mono HB.out.size))
        replace BX := hidIt (BX.out.kept k1)
        clear k1
        have c0 := BX.out.c0
        have c1 := BX.out.c1
        have c2 := BX.out.c2
        cases o3 with
        | false =>
          go_wp2_with (fail)
          go_ret
          exact ⟨by first | rfl | simp [pvB], HB.out⟩
        | true =>
          go_wp2_with (fail)
          refine (CU.out (by trivial) (by trivial) _).mono ?_
          rintro e w1 ⟨rfl, rfl⟩
          cases un with
          | false =>
            cases e2 with
            | false =>
              go_wp2_with (fail)
              go_ret
              exact ⟨by first | rfl | simp [pvB], HB.out⟩
            | true =>
              go_wp2_with (fail)
              refine (CH.out _ (HR.out.kept HB.out)).mono ?_
              rintro e w1 ⟨rfl, rfl⟩
              cases hs with
              | false =>
                go_wp2_with (fail)
                go_ret
                exact ⟨by first | rfl | simp [pvB], HB.out⟩
              | true =>
                go_wp2_with (fail)
                go_ret
                exact ⟨by first | rfl | simp [pvB], HB.out⟩
          | true =>
            go_wp2_with (fail)
            refine (C1.out (by trivial) (by trivial) _).mono ?_
            rintro e w1 ⟨rfl, k1⟩
            replace HB := hidIt (HB.out.trans (k1.mono HB.out.size))
            replace BX := hidIt (BX.out.kept k1)
            clear k1
            have c0 := BX.out.c0
            have c1 := BX.out.c1
            have c2 := BX.out.c2
            cases b1 with
            | false =>
              cases e2 with
              | false =>
                go_wp2_with (fail)
                go_ret
                exact ⟨by first | rfl | simp [pvB], HB.out⟩
              | true =>
                go_wp2_with (fail)
                refine (CH.out _ (HR.out.kept HB.out)).mono ?_
                rintro e w1 ⟨rfl, rfl⟩
                cases hs with
                | false =>
                  go_wp2_with (fail)
                  go_ret
                  exact ⟨by first | rfl | simp [pvB], HB.out⟩
                | true =>
                  go_wp2_with (fail)
                  go_ret
                  exact ⟨by first | rfl | simp [pvB], HB.out⟩
            | true =>
              go_wp2_with (fail)
              refine (C2.out (by trivial) (by trivial) _).mono ?_
              rintro e w1 ⟨rfl, k1⟩
              replace HB := hidIt (HB.out.trans (k1.mono HB.out.size))
              replace BX := hidIt (BX.out.kept k1)
              clear k1
              have c0 := BX.out.c0
              have c1 := BX.out.c1
              have c2 := BX.out.c2
              cases b2 with
              | false =>
                cases e1 with
                | false =>
                  cases e2 with
                  | false =>
                    go_wp2_with (fail)
                    go_ret
                    exact ⟨by first | rfl | simp [pvB], HB.out⟩
                  | true =>
                    go_wp2_with (fail)
                    refine (CH.out _ (HR.out.kept HB.out)).mono ?_
                    rintro e w1 ⟨rfl, rfl⟩
                    cases hs with
                    | false =>
                      go_wp2_with (fail)
                      go_ret
                      exact ⟨by first | rfl | simp [pvB], HB.out⟩
                    | true =>
                      go_wp2_with (fail)
                      go_ret
                      exact ⟨by first | rfl | simp [pvB], HB.out⟩
                | true =>
                  go_wp2_with (fail)
                  go_ret
                  exact ⟨by first | rfl | simp [pvB], HB.out⟩
              | true =>
                go_wp2_with (fail)
                go_ret
                exact ⟨by first | rfl | simp [pvB], HB.out⟩
end Go.Proofs.Ytkclfnmhiojklaa.Zn
