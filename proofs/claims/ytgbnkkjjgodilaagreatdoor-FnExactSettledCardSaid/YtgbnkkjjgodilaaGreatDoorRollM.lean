/- A Roll (five numbers): RollOk of the specification; what the laws do with a Roll. -/
import Derived.Test.YtgbnkkjjgodilaaGreatDoorMem
import Derived.Test.YtgbnkkjjgodilaaGreatDoorProg
import Derived.BigCall
import Derived.BigGuard
import Derived.BigQuiet
import Derived.OpenShut
import Derived.Deep.RegionHeld3
set_option maxRecDepth 100000
set_option maxHeartbeats 32000000
set_option linter.unusedVariables false
namespace Go.Proofs.YtgbnkkjjgodilaaGreatDoor.Ro
open Go.ChangeShapes Go.WideShapes Go.ChangeAt Go.RowKit
theorem hidIt {p : Prop} (h : p) : Hid p:=h
abbrev rv (p m o n a : Int) : Value:=.agg #[.int .i64 p,.int .i64 m,.int .i64 o,.int .i64 n,.int .i64 a]
abbrev rbox (p m o n a : Int) (T : TypeId) : Obj:=.cells #[.int .i64 p,.int .i64 m,.int .i64 o,.int .i64 n,.int .i64 a] T
def inB (n lo hi : Int) : Bool:=decide (lo ≤ n) && decide (n ≤ hi)
abbrev secB (n : Int) : Bool:=inB n 1 2548
abbrev timB (n : Int) : Bool:=inB n 0 1000000
def rollB (p : Int) (sm so ta : Bool) (z : Bool) (ph sn : Bool) : Bool:=sm && (so && (ta && (if p = 1 then z else (ph && sn))))
theorem rollB_other {p : Int} (h : p ≠ 1) {z ph sn : Bool} : rollB p true true true z ph sn = (ph && sn):=by simp [rollB,h]
def rollOk (p m o n a : Int) : Bool:=rollB p (secB m) (secB o) (timB a) (n == 0) (inB p 2 3) (secB n)
theorem spec_l1In (n lo hi : Int) (w : World) : Calls Tryz.prog 37 #[.int .i64 n,.int .i64 lo,.int .i64 hi] w fun e w'=>e = .returned (.bool (inB n lo hi)) ∧ w' = w:=by
 unfold inB
 by_cases h : lo ≤ n
 ·
  have h' : decide (lo ≤ n) = true:=decide_eq_true h
  rw [h',Bool.true_and]
  go_enter Tryz.func37,Tryz.ntmps37
  go_wp2
  go_ret
  exact ⟨rfl,rfl⟩
 ·
  have h' : decide (lo ≤ n) = false:=decide_eq_false h
  rw [h',Bool.false_and]
  go_enter Tryz.func37,Tryz.ntmps37
  go_wp2
  go_ret
  exact ⟨rfl,rfl⟩
theorem spec_l3Secret (n : Int) (w : World) : Calls Tryz.prog 68 #[.int .i64 n] w fun e w'=>e = .returned (.bool (secB n)) ∧ w' = w:=by
 unfold secB
 have C:=hidIt (fun W=>spec_l1In n 1 2548 W)
 generalize inB n 1 2548 = b at C ⊢
 go_enter Tryz.func68,Tryz.ntmps68
 go_wp2_with (fail)
 refine (C.out _).mono ?_
 rintro e w1 ⟨rfl,rfl⟩
 go_wp2_with (fail)
 go_ret
 exact ⟨rfl,rfl⟩
theorem spec_l9Time (n : Int) (w : World) : Calls Tryz.prog 16 #[.int .i64 n] w fun e w'=>e = .returned (.bool (timB n)) ∧ w' = w:=by
 unfold timB
 have C:=hidIt (fun W=>spec_l1In n 0 1000000 W)
 generalize inB n 0 1000000 = b at C ⊢
 go_enter Tryz.func16,Tryz.ntmps16
 go_wp2_with (fail)
 refine (C.out _).mono ?_
 rintro e w1 ⟨rfl,rfl⟩
 go_wp2_with (fail)
 go_ret
 exact ⟨rfl,rfl⟩
theorem spec_RollOk (p m o n a : Int) (w : World) : Calls Tryz.prog 40 #[rv p m o n a] w fun e w'=>e = .returned (.bool (rollOk p m o n a)) ∧ w' = w.alloc (rbox p m o n a 45):=by
 have S0:=hidIt (fun W=>spec_l3Secret m W)
 have S1:=hidIt (fun W=>spec_l3Secret o W)
 have S2:=hidIt (fun W=>spec_l3Secret n W)
 have T0:=hidIt (fun W=>spec_l9Time a W)
 have CP:=hidIt (fun W=>spec_l1In p 2 3 W)
 unfold rollOk
 generalize secB m = sm at *
 generalize secB o = so at *
 generalize secB n = sn at *
 generalize timB a = ta at *
 generalize inB p 2 3 = ph at *
 go_enter Tryz.func40,Tryz.ntmps40
 go_wp2_with (fail)
 refine (S0.out _).mono ?_
 rintro e w1 ⟨rfl,rfl⟩
 cases sm with
 | false =>
  go_wp2_with (fail)
  go_ret
  exact ⟨by first | rfl | simp [rollB],rfl⟩
 | true =>
  go_wp2_with (fail)
  refine (S1.out _).mono ?_
  rintro e w1 ⟨rfl,rfl⟩
  cases so with
  | false =>
   go_wp2_with (fail)
   go_ret
   exact ⟨by first | rfl | simp [rollB],rfl⟩
  | true =>
   go_wp2_with (fail)
   refine (T0.out _).mono ?_
   rintro e w1 ⟨rfl,rfl⟩
   cases ta with
   | false =>
    go_wp2_with (fail)
    go_ret
    exact ⟨by first | rfl | simp [rollB],rfl⟩
   | true =>
    by_cases h1 : p = 1
    ·
     subst h1
     go_wp2_with (fail)
     go_ret
     exact ⟨by first | rfl | simp [rollB] | (simp [rollB]; done),rfl⟩
    ·
     have h1b : (p == 1) = false:=by simpa using h1
     go_wp2_with (fail)
     refine (CP.out _).mono ?_
     rintro e w1 ⟨rfl,rfl⟩
     cases ph with
     | false =>
      go_wp2_with (fail)
      go_ret
      exact ⟨by rw [rollB_other h1]; rfl,rfl⟩
     | true =>
      go_wp2_with (fail)
      refine (S2.out _).mono ?_
      rintro e w1 ⟨rfl,rfl⟩
      go_wp2_with (fail)
      go_ret
      exact ⟨by rw [rollB_other h1]; cases sn <;> rfl,rfl⟩
theorem toRoll_any (p m o n a : Int) (w : World) : Calls Tryz.prog 74 #[rv p m o n a] w fun e w'=>e = .returned (rv p m o n a) ∧ Below w.heap.size w w':=by
 go_enter Tryz.func74,Tryz.ntmps74
 go_wp2
 refine bodyPost_ret (v:=rv p m o n a) (by simp [results,Tryz.results74,go_sem]) rfl ⟨rfl,?_⟩
 exact (((Below.refl w.heap.size w).alloc (Nat.le_refl _) _).alloc (by simp) _).alloc (by simp; omega) _
theorem eqRoll_same (p m o n a : Int) (w : World) : Calls Tryz.prog 84 #[rv p m o n a,rv p m o n a] w fun e w'=>e = .returned (.bool true) ∧ Below w.heap.size w w':=by
 go_enter Tryz.func84,Tryz.ntmps84
 go_wp2
 go_ret
 exact ⟨rfl,((Below.refl w.heap.size w).alloc (Nat.le_refl _) _).alloc (by simp) _⟩
end Go.Proofs.YtgbnkkjjgodilaaGreatDoor.Ro
