/-
  A new Node, all of whose lists are empty: what the laws do with it; NewNode of the specification. (Written by wip/mkNew.py.)
  secretOk and timeOk of the program; the three shapes of a Roll; shapeOf, signerOf, RollOk, NewRoll and Signing of the program.
  signerOf, RollOk, NewRoll and Signing of the program; which shape a value has.
  NewNode of the program. (Written by wip/mkNew.py.)
  A slice as a value: where it begins, how long it is, how much room it has.
-/
import Derived.Test.YtgbnkkjjgodilaaApxM
import Derived.Test.YtgbnkkjjgodilaaBun4
import Derived.Test.YtgbnkkjjgodilaaBoxM
import Derived.Handy
import Derived.WideLaws
import Derived.Test.YtgbnkkjjgodilaaApxX
import Derived.Test.YtgbnkkjjgodilaaMem
import Derived.WalkKit
namespace Go.Proofs.Ytgbnkkjjgodilaa.Nn
open Go.ChangeShapes Go.WideShapes Go.ChangeAt Go.RowKit
set_option linter.unusedVariables false
theorem hidIt {p : Prop} (h : p) : Hid p := h
theorem on {W a b : World} (h : Below W.heap.size W a) (k : Below a.heap.size a b) : Below W.heap.size W b := h.trans (k.mono h.size)
set_option maxRecDepth 100000 in
set_option maxHeartbeats 8000000 in
theorem eqEntry0 (a a' : Option Addr) (c c' : Nat) (w : World) : Calls Try.prog 48 #[.slice a 0 c, .slice a' 0 c'] w fun e w' => e = .returned (.bool true) ∧ Below w.heap.size w w' := by
  go_enter Try.func48, Try.ntmps48
  go_wp2_with (fail)
  go_loopw [5] (fun y wx => y = .int .i64 0 ∧ wx = w) (fun _ _ => 0)
  case atStart => exact ⟨rfl, rfl⟩
  case round =>
    obtain ⟨rfl, rfl⟩ := hrel
    go_wp2_with (fail)
    go_ret
    exact ⟨rfl, Below.refl _ _⟩
set_option maxRecDepth 100000 in
set_option maxHeartbeats 8000000 in
theorem markEntry0 (a : Option Addr) (c : Nat) (k : Int) (w : World) : Calls Try.prog 24 #[.slice a 0 c, .int .i64 k] w fun e w' => e = .returned (.int .i64 k) ∧ Below w.heap.size w w' := by
  go_enter Try.func24, Try.ntmps24
  go_wp2_with (fail)
  go_loopw [1, 5] (fun z y wx => z = .int .i64 k ∧ y = .int .i64 0 ∧ wx = w) (fun _ _ _ => 0)
  case atStart => exact ⟨rfl, rfl, rfl⟩
  case round =>
    obtain ⟨rfl, rfl, rfl⟩ := hrel
    go_wp2_with (fail)
    go_ret
    exact ⟨rfl, Below.refl _ _⟩
set_option maxRecDepth 100000 in
set_option maxHeartbeats 8000000 in
theorem heldEntry0 (a : Option Addr) (c : Nat) (k : Int) (w : World) : Calls Try.prog 29 #[.slice a 0 c, .int .i64 k] w fun e w' => e = .returned (.int .i64 k) ∧ Below w.heap.size w w' := by
  go_enter Try.func29, Try.ntmps29
  go_wp2_with (fail)
  go_loopw [1, 5] (fun z y wx => z = .int .i64 k ∧ y = .int .i64 0 ∧ wx = w) (fun _ _ _ => 0)
  case atStart => exact ⟨rfl, rfl, rfl⟩
  case round =>
    obtain ⟨rfl, rfl, rfl⟩ := hrel
    go_wp2_with (fail)
    go_ret
    exact ⟨rfl, Below.refl _ _⟩
set_option maxRecDepth 100000 in
set_option maxHeartbeats 8000000 in
theorem eqMember0 (a a' : Option Addr) (c c' : Nat) (w : World) : Calls Try.prog 49 #[.slice a 0 c, .slice a' 0 c'] w fun e w' => e = .returned (.bool true) ∧ Below w.heap.size w w' := by
  go_enter Try.func49, Try.ntmps49
  go_wp2_with (fail)
  go_loopw [5] (fun y wx => y = .int .i64 0 ∧ wx = w) (fun _ _ => 0)
  case atStart => exact ⟨rfl, rfl⟩
  case round =>
    obtain ⟨rfl, rfl⟩ := hrel
    go_wp2_with (fail)
    go_ret
    exact ⟨rfl, Below.refl _ _⟩
set_option maxRecDepth 100000 in
set_option maxHeartbeats 8000000 in
theorem markMember0 (a : Option Addr) (c : Nat) (k : Int) (w : World) : Calls Try.prog 25 #[.slice a 0 c, .int .i64 k] w fun e w' => e = .returned (.int .i64 k) ∧ Below w.heap.size w w' := by
  go_enter Try.func25, Try.ntmps25
  go_wp2_with (fail)
  go_loopw [1, 5] (fun z y wx => z = .int .i64 k ∧ y = .int .i64 0 ∧ wx = w) (fun _ _ _ => 0)
  case atStart => exact ⟨rfl, rfl, rfl⟩
  case round =>
    obtain ⟨rfl, rfl, rfl⟩ := hrel
    go_wp2_with (fail)
    go_ret
    exact ⟨rfl, Below.refl _ _⟩
set_option maxRecDepth 100000 in
set_option maxHeartbeats 8000000 in
theorem heldMember0 (a : Option Addr) (c : Nat) (k : Int) (w : World) : Calls Try.prog 30 #[.slice a 0 c, .int .i64 k] w fun e w' => e = .returned (.int .i64 k) ∧ Below w.heap.size w w' := by
  go_enter Try.func30, Try.ntmps30
  go_wp2_with (fail)
  go_loopw [1, 5] (fun z y wx => z = .int .i64 k ∧ y = .int .i64 0 ∧ wx = w) (fun _ _ _ => 0)
  case atStart => exact ⟨rfl, rfl, rfl⟩
  case round =>
    obtain ⟨rfl, rfl, rfl⟩ := hrel
    go_wp2_with (fail)
    go_ret
    exact ⟨rfl, Below.refl _ _⟩
set_option maxRecDepth 100000 in
set_option maxHeartbeats 8000000 in
theorem eqBucket0 (a a' : Option Addr) (c c' : Nat) (w : World) : Calls Try.prog 40 #[.slice a 0 c, .slice a' 0 c'] w fun e w' => e = .returned (.bool true) ∧ Below w.heap.size w w' := by
  go_enter Try.func40, Try.ntmps40
  go_wp2_with (fail)
  go_loopw [5] (fun y wx => y = .int .i64 0 ∧ wx = w) (fun _ _ => 0)
  case atStart => exact ⟨rfl, rfl⟩
  case round =>
    obtain ⟨rfl, rfl⟩ := hrel
    go_wp2_with (fail)
    go_ret
    exact ⟨rfl, Below.refl _ _⟩
set_option maxRecDepth 100000 in
set_option maxHeartbeats 8000000 in
theorem markBucket0 (a : Option Addr) (c : Nat) (k : Int) (w : World) : Calls Try.prog 26 #[.slice a 0 c, .int .i64 k] w fun e w' => e = .returned (.int .i64 k) ∧ Below w.heap.size w w' := by
  go_enter Try.func26, Try.ntmps26
  go_wp2_with (fail)
  go_loopw [1, 5] (fun z y wx => z = .int .i64 k ∧ y = .int .i64 0 ∧ wx = w) (fun _ _ _ => 0)
  case atStart => exact ⟨rfl, rfl, rfl⟩
  case round =>
    obtain ⟨rfl, rfl, rfl⟩ := hrel
    go_wp2_with (fail)
    go_ret
    exact ⟨rfl, Below.refl _ _⟩
set_option maxRecDepth 100000 in
set_option maxHeartbeats 8000000 in
theorem heldBucket0 (a : Option Addr) (c : Nat) (k : Int) (w : World) : Calls Try.prog 31 #[.slice a 0 c, .int .i64 k] w fun e w' => e = .returned (.int .i64 k) ∧ Below w.heap.size w w' := by
  go_enter Try.func31, Try.ntmps31
  go_wp2_with (fail)
  go_loopw [1, 5] (fun z y wx => z = .int .i64 k ∧ y = .int .i64 0 ∧ wx = w) (fun _ _ _ => 0)
  case atStart => exact ⟨rfl, rfl, rfl⟩
  case round =>
    obtain ⟨rfl, rfl, rfl⟩ := hrel
    go_wp2_with (fail)
    go_ret
    exact ⟨rfl, Below.refl _ _⟩
set_option maxRecDepth 100000 in
set_option maxHeartbeats 8000000 in
theorem eqLine0 (a a' : Option Addr) (c c' : Nat) (w : World) : Calls Try.prog 41 #[.slice a 0 c, .slice a' 0 c'] w fun e w' => e = .returned (.bool true) ∧ Below w.heap.size w w' := by
  go_enter Try.func41, Try.ntmps41
  go_wp2_with (fail)
  go_loopw [5] (fun y wx => y = .int .i64 0 ∧ wx = w) (fun _ _ => 0)
  case atStart => exact ⟨rfl, rfl⟩
  case round =>
    obtain ⟨rfl, rfl⟩ := hrel
    go_wp2_with (fail)
    go_ret
    exact ⟨rfl, Below.refl _ _⟩
set_option maxRecDepth 100000 in
set_option maxHeartbeats 8000000 in
theorem markLine0 (a : Option Addr) (c : Nat) (k : Int) (w : World) : Calls Try.prog 27 #[.slice a 0 c, .int .i64 k] w fun e w' => e = .returned (.int .i64 k) ∧ Below w.heap.size w w' := by
  go_enter Try.func27, Try.ntmps27
  go_wp2_with (fail)
  go_loopw [1, 5] (fun z y wx => z = .int .i64 k ∧ y = .int .i64 0 ∧ wx = w) (fun _ _ _ => 0)
  case atStart => exact ⟨rfl, rfl, rfl⟩
  case round =>
    obtain ⟨rfl, rfl, rfl⟩ := hrel
    go_wp2_with (fail)
    go_ret
    exact ⟨rfl, Below.refl _ _⟩
set_option maxRecDepth 100000 in
set_option maxHeartbeats 8000000 in
theorem heldLine0 (a : Option Addr) (c : Nat) (k : Int) (w : World) : Calls Try.prog 32 #[.slice a 0 c, .int .i64 k] w fun e w' => e = .returned (.int .i64 k) ∧ Below w.heap.size w w' := by
  go_enter Try.func32, Try.ntmps32
  go_wp2_with (fail)
  go_loopw [1, 5] (fun z y wx => z = .int .i64 k ∧ y = .int .i64 0 ∧ wx = w) (fun _ _ _ => 0)
  case atStart => exact ⟨rfl, rfl, rfl⟩
  case round =>
    obtain ⟨rfl, rfl, rfl⟩ := hrel
    go_wp2_with (fail)
    go_ret
    exact ⟨rfl, Below.refl _ _⟩
set_option maxRecDepth 100000 in
set_option maxHeartbeats 8000000 in
theorem eqReplica0 (ea ma eb mb : Option Addr) (eac mac ebc mbc : Nat) (w : World) : Calls Try.prog 38 #[.agg #[.slice ea 0 eac, .slice ma 0 mac], .agg #[.slice eb 0 ebc, .slice mb 0 mbc]] w fun e w' => e = .returned (.bool true) ∧ Below w.heap.size w w' := by
  have C1 := hidIt (fun W => eqEntry0 ea eb eac ebc W)
  have C2 := hidIt (fun W => eqMember0 ma mb mac mbc W)
  have BX := hidIt ((Bo.Box.new w #[.slice ea 0 eac, .slice ma 0 mac] 36).alloc (.cells #[.slice eb 0 ebc, .slice mb 0 mbc] 36))
  have BY := hidIt (Bo.Box.newAt (w := w.alloc (.cells #[.slice ea 0 eac, .slice ma 0 mac] 36)) (c := #[.slice eb 0 ebc, .slice mb 0 mbc]) (T := 36) (k := w.heap.size + 1) (by simp))
  have HB := hidIt (((Below.refl w.heap.size w).alloc (Nat.le_refl _) (.cells #[.slice ea 0 eac, .slice ma 0 mac] 36)).alloc (by simp) (.cells #[.slice eb 0 ebc, .slice mb 0 mbc] 36))
  have d0 := BX.out.c 0 rfl
  have f0 := BY.out.c 0 rfl
  go_enter Try.func38, Try.ntmps38
  go_wp2_with (fail)
  generalize (w.alloc (.cells #[.slice ea 0 eac, .slice ma 0 mac] 36)).alloc (.cells #[.slice eb 0 ebc, .slice mb 0 mbc] 36) = W0 at BX BY HB d0 f0 ⊢
  refine (C1.out _).mono ?_
  rintro en w1 ⟨rfl, k1⟩
  replace HB := hidIt (on HB.out k1)
  replace BX := hidIt (BX.out.kept k1)
  replace BY := hidIt (BY.out.kept k1)
  clear k1 d0 f0
  have d1 := BX.out.c 1 rfl
  have f1 := BY.out.c 1 rfl
  go_wp2_with (fail)
  refine (C2.out _).mono ?_
  rintro en w2 ⟨rfl, k1⟩
  replace HB := hidIt (on HB.out k1)
  replace BX := hidIt (BX.out.kept k1)
  replace BY := hidIt (BY.out.kept k1)
  clear k1 d1 f1
  go_wp2_with (fail)
  go_ret
  exact ⟨rfl, HB.out⟩
set_option maxRecDepth 100000 in
set_option maxHeartbeats 8000000 in
theorem eqNode0 (p m o n a : Int) (s : ByteArray) (ea ma ba ga eb mb bb gb : Option Addr) (eac mac bac gac ebc mbc bbc gbc : Nat) (w : World) : Calls Try.prog 23 #[.agg #[.slice ea 0 eac, .slice ma 0 mac, .int .i64 p, .int .i64 m, .int .i64 o, .int .i64 n, .int .i64 a, .slice ba 0 bac, .slice ga 0 gac, .string s], .agg #[.slice eb 0 ebc, .slice mb 0 mbc, .int .i64 p, .int .i64 m, .int .i64 o, .int .i64 n, .int .i64 a, .slice bb 0 bbc, .slice gb 0 gbc, .string s]] w fun e w' => e = .returned (.bool true) ∧ Below w.heap.size w w' := by
  have C1 := hidIt (fun W => eqReplica0 ea ma eb mb eac mac ebc mbc W)
  have C2 := hidIt (fun W => Ro.eqRoll_same p m o n a W)
  have C3 := hidIt (fun W => eqBucket0 ba bb bac bbc W)
  have C4 := hidIt (fun W => eqLine0 ga gb gac gbc W)
  have hap : (s.toList == s.toList) = true := by simp
  have BX := hidIt ((Bo.Box.new w #[.slice ea 0 eac, .slice ma 0 mac, .int .i64 p, .int .i64 m, .int .i64 o, .int .i64 n, .int .i64 a, .slice ba 0 bac, .slice ga 0 gac, .string s] 42).alloc (.cells #[.slice eb 0 ebc, .slice mb 0 mbc, .int .i64 p, .int .i64 m, .int .i64 o, .int .i64 n, .int .i64 a, .slice bb 0 bbc, .slice gb 0 gbc, .string s] 42))
  have BY := hidIt (Bo.Box.newAt (w := w.alloc (.cells #[.slice ea 0 eac, .slice ma 0 mac, .int .i64 p, .int .i64 m, .int .i64 o, .int .i64 n, .int .i64 a, .slice ba 0 bac, .slice ga 0 gac, .string s] 42)) (c := #[.slice eb 0 ebc, .slice mb 0 mbc, .int .i64 p, .int .i64 m, .int .i64 o, .int .i64 n, .int .i64 a, .slice bb 0 bbc, .slice gb 0 gbc, .string s]) (T := 42) (k := w.heap.size + 1) (by simp))
  have HB := hidIt (((Below.refl w.heap.size w).alloc (Nat.le_refl _) (.cells #[.slice ea 0 eac, .slice ma 0 mac, .int .i64 p, .int .i64 m, .int .i64 o, .int .i64 n, .int .i64 a, .slice ba 0 bac, .slice ga 0 gac, .string s] 42)).alloc (by simp) (.cells #[.slice eb 0 ebc, .slice mb 0 mbc, .int .i64 p, .int .i64 m, .int .i64 o, .int .i64 n, .int .i64 a, .slice bb 0 bbc, .slice gb 0 gbc, .string s] 42))
  have d0 := BX.out.c 0 rfl
  have d1 := BX.out.c 1 rfl
  have f0 := BY.out.c 0 rfl
  have f1 := BY.out.c 1 rfl
  go_enter Try.func23, Try.ntmps23
  go_wp2_with (fail)
  generalize (w.alloc (.cells #[.slice ea 0 eac, .slice ma 0 mac, .int .i64 p, .int .i64 m, .int .i64 o, .int .i64 n, .int .i64 a, .slice ba 0 bac, .slice ga 0 gac, .string s] 42)).alloc (.cells #[.slice eb 0 ebc, .slice mb 0 mbc, .int .i64 p, .int .i64 m, .int .i64 o, .int .i64 n, .int .i64 a, .slice bb 0 bbc, .slice gb 0 gbc, .string s] 42) = W0 at BX BY HB d0 f0 d1 f1 ⊢
  refine (C1.out _).mono ?_
  rintro en w1 ⟨rfl, k1⟩
  replace HB := hidIt (on HB.out k1)
  replace BX := hidIt (BX.out.kept k1)
  replace BY := hidIt (BY.out.kept k1)
  clear k1 d0 f0 d1 f1
  have d2 := BX.out.c 2 rfl
  have d3 := BX.out.c 3 rfl
  have d4 := BX.out.c 4 rfl
  have d5 := BX.out.c 5 rfl
  have d6 := BX.out.c 6 rfl
  have f2 := BY.out.c 2 rfl
  have f3 := BY.out.c 3 rfl
  have f4 := BY.out.c 4 rfl
  have f5 := BY.out.c 5 rfl
  have f6 := BY.out.c 6 rfl
  go_wp2_with (fail)
  refine (C2.out _).mono ?_
  rintro en w2 ⟨rfl, k1⟩
  replace HB := hidIt (on HB.out k1)
  replace BX := hidIt (BX.out.kept k1)
  replace BY := hidIt (BY.out.kept k1)
  clear k1 d2 f2 d3 f3 d4 f4 d5 f5 d6 f6
  have d7 := BX.out.c 7 rfl
  have f7 := BY.out.c 7 rfl
  go_wp2_with (fail)
  refine (C3.out _).mono ?_
  rintro en w3 ⟨rfl, k1⟩
  replace HB := hidIt (on HB.out k1)
  replace BX := hidIt (BX.out.kept k1)
  replace BY := hidIt (BY.out.kept k1)
  clear k1 d7 f7
  have d8 := BX.out.c 8 rfl
  have f8 := BY.out.c 8 rfl
  go_wp2_with (fail)
  refine (C4.out _).mono ?_
  rintro en w4 ⟨rfl, k1⟩
  replace HB := hidIt (on HB.out k1)
  replace BX := hidIt (BX.out.kept k1)
  replace BY := hidIt (BY.out.kept k1)
  clear k1 d8 f8
  have d9 := BX.out.c 9 rfl
  have f9 := BY.out.c 9 rfl
  go_wp2_with (fail)
  go_ret
  exact ⟨rfl, HB.out⟩
/-- A new Node in plain words: a Roll and an apex. -/
def newN (s : ByteArray) (m o : Int) : (Ro.R5 × ByteArray) × Bool := if ((Ro.newR m o 0).2 && Nd.apexB s) = true then (((Ro.newR m o 0).1, s), true) else (((0, 0, 0, 0, 0), ⟨#[]⟩), false)
/-- What NewNode answers: a Node of empty lists. -/
def NewP (x : (Ro.R5 × ByteArray) × Bool) (w : World) (en : Ending) (w' : World) : Prop := ∃ (ea ma ba ga : Option Addr) (eac mac bac gac : Nat), en = .returned (.tuple #[.agg #[.slice ea 0 eac, .slice ma 0 mac, .int .i64 x.1.1.1, .int .i64 x.1.1.2.1, .int .i64 x.1.1.2.2.1, .int .i64 x.1.1.2.2.2.1, .int .i64 x.1.1.2.2.2.2, .slice ba 0 bac, .slice ga 0 gac, .string x.1.2], .bool x.2]) ∧ Below w.heap.size w w'
theorem NewP.of {x : (Ro.R5 × ByteArray) × Bool} {w w' : World} {en : Ending} (h : en = .returned (.tuple #[.agg #[.slice none 0 0, .slice none 0 0, .int .i64 x.1.1.1, .int .i64 x.1.1.2.1, .int .i64 x.1.1.2.2.1, .int .i64 x.1.1.2.2.2.1, .int .i64 x.1.1.2.2.2.2, .slice none 0 0, .slice none 0 0, .string x.1.2], .bool x.2])) (k : Below w.heap.size w w') : NewP x w en w' := ⟨none, none, none, none, 0, 0, 0, 0, h, k⟩
/-- The same, where all four lists are nil. -/
def NewQ (x : (Ro.R5 × ByteArray) × Bool) (w : World) (en : Ending) (w' : World) : Prop := en = .returned (.tuple #[.agg #[.slice none 0 0, .slice none 0 0, .int .i64 x.1.1.1, .int .i64 x.1.1.2.1, .int .i64 x.1.1.2.2.1, .int .i64 x.1.1.2.2.2.1, .int .i64 x.1.1.2.2.2.2, .slice none 0 0, .slice none 0 0, .string x.1.2], .bool x.2]) ∧ Below w.heap.size w w'
theorem NewQ.of {x : (Ro.R5 × ByteArray) × Bool} {w w' : World} {en : Ending} (h : en = .returned (.tuple #[.agg #[.slice none 0 0, .slice none 0 0, .int .i64 x.1.1.1, .int .i64 x.1.1.2.1, .int .i64 x.1.1.2.2.1, .int .i64 x.1.1.2.2.2.1, .int .i64 x.1.1.2.2.2.2, .slice none 0 0, .slice none 0 0, .string x.1.2], .bool x.2])) (k : Below w.heap.size w w') : NewQ x w en w' := ⟨h, k⟩
theorem NewQ.out {x : (Ro.R5 × ByteArray) × Bool} {w w' : World} {en : Ending} (h : NewQ x w en w') : en = .returned (.tuple #[.agg #[.slice none 0 0, .slice none 0 0, .int .i64 x.1.1.1, .int .i64 x.1.1.2.1, .int .i64 x.1.1.2.2.1, .int .i64 x.1.1.2.2.2.1, .int .i64 x.1.1.2.2.2.2, .slice none 0 0, .slice none 0 0, .string x.1.2], .bool x.2]) ∧ Below w.heap.size w w' := h
set_option maxRecDepth 100000 in
set_option maxHeartbeats 8000000 in
theorem spec_NewNodeQ (s : ByteArray) (m o : Int) (w : World) : Calls Try.prog 11 #[.string s, .int .i64 m, .int .i64 o] w fun en w' => NewQ (newN s m o) w en w' := by
  have C1 := hidIt (fun W => Ro.spec_NewRoll m o 0 W)
  have C2 := hidIt (fun W => Nd.spec_l17Apex s W)
  have N1 : Hid (((Ro.newR m o 0).2 && Nd.apexB s) = false → newN s m o = (((0, 0, 0, 0, 0), ⟨#[]⟩), false)) := hidIt (fun h => by unfold newN; rw [h]; rfl)
  have N2 : Hid (((Ro.newR m o 0).2 && Nd.apexB s) = true → newN s m o = (((Ro.newR m o 0).1, s), true)) := hidIt (fun h => by unfold newN; rw [h]; rfl)
  generalize newN s m o = r at N1 N2 ⊢
  generalize (Ro.newR m o 0).1 = ro at C1 N2
  generalize (Ro.newR m o 0).2 = k1 at C1 N1 N2
  generalize Nd.apexB s = k2 at C2 N1 N2
  obtain ⟨q0, q1, q2, q3, q4⟩ := ro
  simp only [Ro.rvt, Ro.rv] at C1
  have BR := hidIt (Bo.Box.new w #[.slice none 0 0, .slice none 0 0, .int .i64 0, .int .i64 0, .int .i64 0, .int .i64 0, .int .i64 0, .slice none 0 0, .slice none 0 0, .string ⟨#[]⟩] 42)
  have HB := hidIt ((Below.refl w.heap.size w).alloc (Nat.le_refl _) (.cells #[.slice none 0 0, .slice none 0 0, .int .i64 0, .int .i64 0, .int .i64 0, .int .i64 0, .int .i64 0, .slice none 0 0, .slice none 0 0, .string ⟨#[]⟩] 42))
  go_enter Try.func11, Try.ntmps11
  go_wp2_with (fail)
  generalize w.alloc (.cells #[.slice none 0 0, .slice none 0 0, .int .i64 0, .int .i64 0, .int .i64 0, .int .i64 0, .int .i64 0, .slice none 0 0, .slice none 0 0, .string ⟨#[]⟩] 42) = W0 at BR HB ⊢
  refine (C1.out _).mono ?_
  rintro en w1 ⟨rfl, k⟩
  replace BR := hidIt (BR.out.kept k)
  replace HB := hidIt (on HB.out k)
  clear k
  have BO := hidIt (Bo.Box.new w1 #[.int .i64 q0, .int .i64 q1, .int .i64 q2, .int .i64 q3, .int .i64 q4] 38)
  have kA := (Below.refl w1.heap.size w1).alloc (Nat.le_refl _) (.cells #[.int .i64 q0, .int .i64 q1, .int .i64 q2, .int .i64 q3, .int .i64 q4] 38)
  replace BR := hidIt (BR.out.kept kA)
  replace HB := hidIt (on HB.out kA)
  clear kA
  cases k1 with
  | false =>
    have er := N1.out rfl
    subst er
    clear N1 N2
    have c0 := BR.out.c 0 (v := .slice none 0 0) rfl
    have c1 := BR.out.c 1 (v := .slice none 0 0) rfl
    have c2 := BR.out.c 2 (v := .int .i64 0) rfl
    have c3 := BR.out.c 3 (v := .int .i64 0) rfl
    have c4 := BR.out.c 4 (v := .int .i64 0) rfl
    have c5 := BR.out.c 5 (v := .int .i64 0) rfl
    have c6 := BR.out.c 6 (v := .int .i64 0) rfl
    have c7 := BR.out.c 7 (v := .slice none 0 0) rfl
    have c8 := BR.out.c 8 (v := .slice none 0 0) rfl
    have c9 := BR.out.c 9 (v := .string ⟨#[]⟩) rfl
    have z0 := BR.out.fr 0
    have z1 := BR.out.fr 1
    have z2 := BR.out.fr 2
    have z3 := BR.out.fr 3
    have z4 := BR.out.fr 4
    have z5 := BR.out.fr 5
    have z6 := BR.out.fr 6
    have z7 := BR.out.fr 7
    have z8 := BR.out.fr 8
    have z9 := BR.out.fr 9
    have RZ := hidIt (((((((((((BR.out).put (c' := #[.slice none 0 0, .slice none 0 0, .int .i64 0, .int .i64 0, .int .i64 0, .int .i64 0, .int .i64 0, .slice none 0 0, .slice none 0 0, .string ⟨#[]⟩]) 0 (.slice none 0 0) (by simp) rfl).put (c' := #[.slice none 0 0, .slice none 0 0, .int .i64 0, .int .i64 0, .int .i64 0, .int .i64 0, .int .i64 0, .slice none 0 0, .slice none 0 0, .string ⟨#[]⟩]) 1 (.slice none 0 0) (by simp) rfl).put (c' := #[.slice none 0 0, .slice none 0 0, .int .i64 0, .int .i64 0, .int .i64 0, .int .i64 0, .int .i64 0, .slice none 0 0, .slice none 0 0, .string ⟨#[]⟩]) 2 (.int .i64 0) (by simp) rfl).put (c' := #[.slice none 0 0, .slice none 0 0, .int .i64 0, .int .i64 0, .int .i64 0, .int .i64 0, .int .i64 0, .slice none 0 0, .slice none 0 0, .string ⟨#[]⟩]) 3 (.int .i64 0) (by simp) rfl).put (c' := #[.slice none 0 0, .slice none 0 0, .int .i64 0, .int .i64 0, .int .i64 0, .int .i64 0, .int .i64 0, .slice none 0 0, .slice none 0 0, .string ⟨#[]⟩]) 4 (.int .i64 0) (by simp) rfl).put (c' := #[.slice none 0 0, .slice none 0 0, .int .i64 0, .int .i64 0, .int .i64 0, .int .i64 0, .int .i64 0, .slice none 0 0, .slice none 0 0, .string ⟨#[]⟩]) 5 (.int .i64 0) (by simp) rfl).put (c' := #[.slice none 0 0, .slice none 0 0, .int .i64 0, .int .i64 0, .int .i64 0, .int .i64 0, .int .i64 0, .slice none 0 0, .slice none 0 0, .string ⟨#[]⟩]) 6 (.int .i64 0) (by simp) rfl).put (c' := #[.slice none 0 0, .slice none 0 0, .int .i64 0, .int .i64 0, .int .i64 0, .int .i64 0, .int .i64 0, .slice none 0 0, .slice none 0 0, .string ⟨#[]⟩]) 7 (.slice none 0 0) (by simp) rfl).put (c' := #[.slice none 0 0, .slice none 0 0, .int .i64 0, .int .i64 0, .int .i64 0, .int .i64 0, .int .i64 0, .slice none 0 0, .slice none 0 0, .string ⟨#[]⟩]) 8 (.slice none 0 0) (by simp) rfl).put (c' := #[.slice none 0 0, .slice none 0 0, .int .i64 0, .int .i64 0, .int .i64 0, .int .i64 0, .int .i64 0, .slice none 0 0, .slice none 0 0, .string ⟨#[]⟩]) 9 (.string ⟨#[]⟩) (by simp) rfl)
    have HZ := hidIt (((((((((((HB.out).setCell (p := ⟨w.heap.size, 0, none⟩) (Nat.le_refl _) (.slice none 0 0)).setCell (p := ⟨w.heap.size, 1, none⟩) (Nat.le_refl _) (.slice none 0 0)).setCell (p := ⟨w.heap.size, 2, none⟩) (Nat.le_refl _) (.int .i64 0)).setCell (p := ⟨w.heap.size, 3, none⟩) (Nat.le_refl _) (.int .i64 0)).setCell (p := ⟨w.heap.size, 4, none⟩) (Nat.le_refl _) (.int .i64 0)).setCell (p := ⟨w.heap.size, 5, none⟩) (Nat.le_refl _) (.int .i64 0)).setCell (p := ⟨w.heap.size, 6, none⟩) (Nat.le_refl _) (.int .i64 0)).setCell (p := ⟨w.heap.size, 7, none⟩) (Nat.le_refl _) (.slice none 0 0)).setCell (p := ⟨w.heap.size, 8, none⟩) (Nat.le_refl _) (.slice none 0 0)).setCell (p := ⟨w.heap.size, 9, none⟩) (Nat.le_refl _) (.string ⟨#[]⟩))
    clear BR HB
    go_wp2_with (fail)
    generalize ((((((((((w1.alloc (.cells #[.int .i64 q0, .int .i64 q1, .int .i64 q2, .int .i64 q3, .int .i64 q4] 38)).setCell ⟨w.heap.size, 0, none⟩ (.slice none 0 0)).setCell ⟨w.heap.size, 1, none⟩ (.slice none 0 0)).setCell ⟨w.heap.size, 2, none⟩ (.int .i64 0)).setCell ⟨w.heap.size, 3, none⟩ (.int .i64 0)).setCell ⟨w.heap.size, 4, none⟩ (.int .i64 0)).setCell ⟨w.heap.size, 5, none⟩ (.int .i64 0)).setCell ⟨w.heap.size, 6, none⟩ (.int .i64 0)).setCell ⟨w.heap.size, 7, none⟩ (.slice none 0 0)).setCell ⟨w.heap.size, 8, none⟩ (.slice none 0 0)).setCell ⟨w.heap.size, 9, none⟩ (.string ⟨#[]⟩) = wz at RZ HZ ⊢
    clear c0 z0 c1 z1 c2 z2 c3 z3 c4 z4 c5 z5 c6 z6 c7 z7 c8 z8 c9 z9
    have q0c := RZ.out.c 0 (v := .slice none 0 0) rfl
    have q1c := RZ.out.c 1 (v := .slice none 0 0) rfl
    have q2c := RZ.out.c 2 (v := .int .i64 0) rfl
    have q3c := RZ.out.c 3 (v := .int .i64 0) rfl
    have q4c := RZ.out.c 4 (v := .int .i64 0) rfl
    have q5c := RZ.out.c 5 (v := .int .i64 0) rfl
    have q6c := RZ.out.c 6 (v := .int .i64 0) rfl
    have q7c := RZ.out.c 7 (v := .slice none 0 0) rfl
    have q8c := RZ.out.c 8 (v := .slice none 0 0) rfl
    have q9c := RZ.out.c 9 (v := .string ⟨#[]⟩) rfl
    refine bodyPost_ret (v := .tuple #[.agg #[.slice none 0 0, .slice none 0 0, .int .i64 0, .int .i64 0, .int .i64 0, .int .i64 0, .int .i64 0, .slice none 0 0, .slice none 0 0, .string ⟨#[]⟩], .bool false]) (by simp [results, Try.results11, go_sem, q0c, q1c, q2c, q3c, q4c, q5c, q6c, q7c, q8c, q9c]) rfl ?_
    exact NewQ.of rfl HZ.out
  | true =>
    go_wp2_with (fail)
    generalize w1.alloc (.cells #[.int .i64 q0, .int .i64 q1, .int .i64 q2, .int .i64 q3, .int .i64 q4] 38) = w3 at BR HB BO ⊢
    refine (C2.out _).mono ?_
    rintro en w2 ⟨rfl, k⟩
    replace BR := hidIt (BR.out.kept k)
    replace BO := hidIt (BO.out.kept k)
    replace HB := hidIt (on HB.out k)
    clear k
    cases k2 with
    | false =>
      have er := N1.out rfl
      subst er
      clear N1 N2
      have c0 := BR.out.c 0 (v := .slice none 0 0) rfl
      have c1 := BR.out.c 1 (v := .slice none 0 0) rfl
      have c2 := BR.out.c 2 (v := .int .i64 0) rfl
      have c3 := BR.out.c 3 (v := .int .i64 0) rfl
      have c4 := BR.out.c 4 (v := .int .i64 0) rfl
      have c5 := BR.out.c 5 (v := .int .i64 0) rfl
      have c6 := BR.out.c 6 (v := .int .i64 0) rfl
      have c7 := BR.out.c 7 (v := .slice none 0 0) rfl
      have c8 := BR.out.c 8 (v := .slice none 0 0) rfl
      have c9 := BR.out.c 9 (v := .string ⟨#[]⟩) rfl
      have z0 := BR.out.fr 0
      have z1 := BR.out.fr 1
      have z2 := BR.out.fr 2
      have z3 := BR.out.fr 3
      have z4 := BR.out.fr 4
      have z5 := BR.out.fr 5
      have z6 := BR.out.fr 6
      have z7 := BR.out.fr 7
      have z8 := BR.out.fr 8
      have z9 := BR.out.fr 9
      have RZ := hidIt (((((((((((BR.out).put (c' := #[.slice none 0 0, .slice none 0 0, .int .i64 0, .int .i64 0, .int .i64 0, .int .i64 0, .int .i64 0, .slice none 0 0, .slice none 0 0, .string ⟨#[]⟩]) 0 (.slice none 0 0) (by simp) rfl).put (c' := #[.slice none 0 0, .slice none 0 0, .int .i64 0, .int .i64 0, .int .i64 0, .int .i64 0, .int .i64 0, .slice none 0 0, .slice none 0 0, .string ⟨#[]⟩]) 1 (.slice none 0 0) (by simp) rfl).put (c' := #[.slice none 0 0, .slice none 0 0, .int .i64 0, .int .i64 0, .int .i64 0, .int .i64 0, .int .i64 0, .slice none 0 0, .slice none 0 0, .string ⟨#[]⟩]) 2 (.int .i64 0) (by simp) rfl).put (c' := #[.slice none 0 0, .slice none 0 0, .int .i64 0, .int .i64 0, .int .i64 0, .int .i64 0, .int .i64 0, .slice none 0 0, .slice none 0 0, .string ⟨#[]⟩]) 3 (.int .i64 0) (by simp) rfl).put (c' := #[.slice none 0 0, .slice none 0 0, .int .i64 0, .int .i64 0, .int .i64 0, .int .i64 0, .int .i64 0, .slice none 0 0, .slice none 0 0, .string ⟨#[]⟩]) 4 (.int .i64 0) (by simp) rfl).put (c' := #[.slice none 0 0, .slice none 0 0, .int .i64 0, .int .i64 0, .int .i64 0, .int .i64 0, .int .i64 0, .slice none 0 0, .slice none 0 0, .string ⟨#[]⟩]) 5 (.int .i64 0) (by simp) rfl).put (c' := #[.slice none 0 0, .slice none 0 0, .int .i64 0, .int .i64 0, .int .i64 0, .int .i64 0, .int .i64 0, .slice none 0 0, .slice none 0 0, .string ⟨#[]⟩]) 6 (.int .i64 0) (by simp) rfl).put (c' := #[.slice none 0 0, .slice none 0 0, .int .i64 0, .int .i64 0, .int .i64 0, .int .i64 0, .int .i64 0, .slice none 0 0, .slice none 0 0, .string ⟨#[]⟩]) 7 (.slice none 0 0) (by simp) rfl).put (c' := #[.slice none 0 0, .slice none 0 0, .int .i64 0, .int .i64 0, .int .i64 0, .int .i64 0, .int .i64 0, .slice none 0 0, .slice none 0 0, .string ⟨#[]⟩]) 8 (.slice none 0 0) (by simp) rfl).put (c' := #[.slice none 0 0, .slice none 0 0, .int .i64 0, .int .i64 0, .int .i64 0, .int .i64 0, .int .i64 0, .slice none 0 0, .slice none 0 0, .string ⟨#[]⟩]) 9 (.string ⟨#[]⟩) (by simp) rfl)
      have HZ := hidIt (((((((((((HB.out).setCell (p := ⟨w.heap.size, 0, none⟩) (Nat.le_refl _) (.slice none 0 0)).setCell (p := ⟨w.heap.size, 1, none⟩) (Nat.le_refl _) (.slice none 0 0)).setCell (p := ⟨w.heap.size, 2, none⟩) (Nat.le_refl _) (.int .i64 0)).setCell (p := ⟨w.heap.size, 3, none⟩) (Nat.le_refl _) (.int .i64 0)).setCell (p := ⟨w.heap.size, 4, none⟩) (Nat.le_refl _) (.int .i64 0)).setCell (p := ⟨w.heap.size, 5, none⟩) (Nat.le_refl _) (.int .i64 0)).setCell (p := ⟨w.heap.size, 6, none⟩) (Nat.le_refl _) (.int .i64 0)).setCell (p := ⟨w.heap.size, 7, none⟩) (Nat.le_refl _) (.slice none 0 0)).setCell (p := ⟨w.heap.size, 8, none⟩) (Nat.le_refl _) (.slice none 0 0)).setCell (p := ⟨w.heap.size, 9, none⟩) (Nat.le_refl _) (.string ⟨#[]⟩))
      clear BR HB
      go_wp2_with (fail)
      generalize ((((((((((w2).setCell ⟨w.heap.size, 0, none⟩ (.slice none 0 0)).setCell ⟨w.heap.size, 1, none⟩ (.slice none 0 0)).setCell ⟨w.heap.size, 2, none⟩ (.int .i64 0)).setCell ⟨w.heap.size, 3, none⟩ (.int .i64 0)).setCell ⟨w.heap.size, 4, none⟩ (.int .i64 0)).setCell ⟨w.heap.size, 5, none⟩ (.int .i64 0)).setCell ⟨w.heap.size, 6, none⟩ (.int .i64 0)).setCell ⟨w.heap.size, 7, none⟩ (.slice none 0 0)).setCell ⟨w.heap.size, 8, none⟩ (.slice none 0 0)).setCell ⟨w.heap.size, 9, none⟩ (.string ⟨#[]⟩) = wz at RZ HZ ⊢
      clear c0 z0 c1 z1 c2 z2 c3 z3 c4 z4 c5 z5 c6 z6 c7 z7 c8 z8 c9 z9
      have q0c := RZ.out.c 0 (v := .slice none 0 0) rfl
      have q1c := RZ.out.c 1 (v := .slice none 0 0) rfl
      have q2c := RZ.out.c 2 (v := .int .i64 0) rfl
      have q3c := RZ.out.c 3 (v := .int .i64 0) rfl
      have q4c := RZ.out.c 4 (v := .int .i64 0) rfl
      have q5c := RZ.out.c 5 (v := .int .i64 0) rfl
      have q6c := RZ.out.c 6 (v := .int .i64 0) rfl
      have q7c := RZ.out.c 7 (v := .slice none 0 0) rfl
      have q8c := RZ.out.c 8 (v := .slice none 0 0) rfl
      have q9c := RZ.out.c 9 (v := .string ⟨#[]⟩) rfl
      refine bodyPost_ret (v := .tuple #[.agg #[.slice none 0 0, .slice none 0 0, .int .i64 0, .int .i64 0, .int .i64 0, .int .i64 0, .int .i64 0, .slice none 0 0, .slice none 0 0, .string ⟨#[]⟩], .bool false]) (by simp [results, Try.results11, go_sem, q0c, q1c, q2c, q3c, q4c, q5c, q6c, q7c, q8c, q9c]) rfl ?_
      exact NewQ.of rfl HZ.out
    | true =>
      have er := N2.out rfl
      subst er
      clear N1 N2
      have c0 := BR.out.c 0 (v := .slice none 0 0) rfl
      have c1 := BR.out.c 1 (v := .slice none 0 0) rfl
      have c2 := BR.out.c 2 (v := .int .i64 0) rfl
      have c3 := BR.out.c 3 (v := .int .i64 0) rfl
      have c4 := BR.out.c 4 (v := .int .i64 0) rfl
      have c5 := BR.out.c 5 (v := .int .i64 0) rfl
      have c6 := BR.out.c 6 (v := .int .i64 0) rfl
      have c7 := BR.out.c 7 (v := .slice none 0 0) rfl
      have c8 := BR.out.c 8 (v := .slice none 0 0) rfl
      have c9 := BR.out.c 9 (v := .string ⟨#[]⟩) rfl
      have z0 := BR.out.fr 0
      have z1 := BR.out.fr 1
      have z2 := BR.out.fr 2
      have z3 := BR.out.fr 3
      have z4 := BR.out.fr 4
      have z5 := BR.out.fr 5
      have z6 := BR.out.fr 6
      have z7 := BR.out.fr 7
      have z8 := BR.out.fr 8
      have z9 := BR.out.fr 9
      have RZ := hidIt (((((((((((BR.out).put (c' := #[.slice none 0 0, .slice none 0 0, .int .i64 0, .int .i64 0, .int .i64 0, .int .i64 0, .int .i64 0, .slice none 0 0, .slice none 0 0, .string ⟨#[]⟩]) 0 (.slice none 0 0) (by simp) rfl).put (c' := #[.slice none 0 0, .slice none 0 0, .int .i64 0, .int .i64 0, .int .i64 0, .int .i64 0, .int .i64 0, .slice none 0 0, .slice none 0 0, .string ⟨#[]⟩]) 1 (.slice none 0 0) (by simp) rfl).put (c' := #[.slice none 0 0, .slice none 0 0, .int .i64 q0, .int .i64 0, .int .i64 0, .int .i64 0, .int .i64 0, .slice none 0 0, .slice none 0 0, .string ⟨#[]⟩]) 2 (.int .i64 q0) (by simp) rfl).put (c' := #[.slice none 0 0, .slice none 0 0, .int .i64 q0, .int .i64 q1, .int .i64 0, .int .i64 0, .int .i64 0, .slice none 0 0, .slice none 0 0, .string ⟨#[]⟩]) 3 (.int .i64 q1) (by simp) rfl).put (c' := #[.slice none 0 0, .slice none 0 0, .int .i64 q0, .int .i64 q1, .int .i64 q2, .int .i64 0, .int .i64 0, .slice none 0 0, .slice none 0 0, .string ⟨#[]⟩]) 4 (.int .i64 q2) (by simp) rfl).put (c' := #[.slice none 0 0, .slice none 0 0, .int .i64 q0, .int .i64 q1, .int .i64 q2, .int .i64 q3, .int .i64 0, .slice none 0 0, .slice none 0 0, .string ⟨#[]⟩]) 5 (.int .i64 q3) (by simp) rfl).put (c' := #[.slice none 0 0, .slice none 0 0, .int .i64 q0, .int .i64 q1, .int .i64 q2, .int .i64 q3, .int .i64 q4, .slice none 0 0, .slice none 0 0, .string ⟨#[]⟩]) 6 (.int .i64 q4) (by simp) rfl).put (c' := #[.slice none 0 0, .slice none 0 0, .int .i64 q0, .int .i64 q1, .int .i64 q2, .int .i64 q3, .int .i64 q4, .slice none 0 0, .slice none 0 0, .string ⟨#[]⟩]) 7 (.slice none 0 0) (by simp) rfl).put (c' := #[.slice none 0 0, .slice none 0 0, .int .i64 q0, .int .i64 q1, .int .i64 q2, .int .i64 q3, .int .i64 q4, .slice none 0 0, .slice none 0 0, .string ⟨#[]⟩]) 8 (.slice none 0 0) (by simp) rfl).put (c' := #[.slice none 0 0, .slice none 0 0, .int .i64 q0, .int .i64 q1, .int .i64 q2, .int .i64 q3, .int .i64 q4, .slice none 0 0, .slice none 0 0, .string s]) 9 (.string s) (by simp) rfl)
      have HZ := hidIt (((((((((((HB.out).setCell (p := ⟨w.heap.size, 0, none⟩) (Nat.le_refl _) (.slice none 0 0)).setCell (p := ⟨w.heap.size, 1, none⟩) (Nat.le_refl _) (.slice none 0 0)).setCell (p := ⟨w.heap.size, 2, none⟩) (Nat.le_refl _) (.int .i64 q0)).setCell (p := ⟨w.heap.size, 3, none⟩) (Nat.le_refl _) (.int .i64 q1)).setCell (p := ⟨w.heap.size, 4, none⟩) (Nat.le_refl _) (.int .i64 q2)).setCell (p := ⟨w.heap.size, 5, none⟩) (Nat.le_refl _) (.int .i64 q3)).setCell (p := ⟨w.heap.size, 6, none⟩) (Nat.le_refl _) (.int .i64 q4)).setCell (p := ⟨w.heap.size, 7, none⟩) (Nat.le_refl _) (.slice none 0 0)).setCell (p := ⟨w.heap.size, 8, none⟩) (Nat.le_refl _) (.slice none 0 0)).setCell (p := ⟨w.heap.size, 9, none⟩) (Nat.le_refl _) (.string s))
      have a0 := BO.out.c 0 (v := .int .i64 q0) rfl
      have a1 := BO.out.c 1 (v := .int .i64 q1) rfl
      have a2 := BO.out.c 2 (v := .int .i64 q2) rfl
      have a3 := BO.out.c 3 (v := .int .i64 q3) rfl
      have a4 := BO.out.c 4 (v := .int .i64 q4) rfl
      clear BR HB
      go_wp2_with (fail)
      generalize ((((((((((w2).setCell ⟨w.heap.size, 0, none⟩ (.slice none 0 0)).setCell ⟨w.heap.size, 1, none⟩ (.slice none 0 0)).setCell ⟨w.heap.size, 2, none⟩ (.int .i64 q0)).setCell ⟨w.heap.size, 3, none⟩ (.int .i64 q1)).setCell ⟨w.heap.size, 4, none⟩ (.int .i64 q2)).setCell ⟨w.heap.size, 5, none⟩ (.int .i64 q3)).setCell ⟨w.heap.size, 6, none⟩ (.int .i64 q4)).setCell ⟨w.heap.size, 7, none⟩ (.slice none 0 0)).setCell ⟨w.heap.size, 8, none⟩ (.slice none 0 0)).setCell ⟨w.heap.size, 9, none⟩ (.string s) = wz at RZ HZ ⊢
      clear c0 z0 c1 z1 c2 z2 c3 z3 c4 z4 c5 z5 c6 z6 c7 z7 c8 z8 c9 z9 a0 a1 a2 a3 a4
      have q0c := RZ.out.c 0 (v := .slice none 0 0) rfl
      have q1c := RZ.out.c 1 (v := .slice none 0 0) rfl
      have q2c := RZ.out.c 2 (v := .int .i64 q0) rfl
      have q3c := RZ.out.c 3 (v := .int .i64 q1) rfl
      have q4c := RZ.out.c 4 (v := .int .i64 q2) rfl
      have q5c := RZ.out.c 5 (v := .int .i64 q3) rfl
      have q6c := RZ.out.c 6 (v := .int .i64 q4) rfl
      have q7c := RZ.out.c 7 (v := .slice none 0 0) rfl
      have q8c := RZ.out.c 8 (v := .slice none 0 0) rfl
      have q9c := RZ.out.c 9 (v := .string s) rfl
      refine bodyPost_ret (v := .tuple #[.agg #[.slice none 0 0, .slice none 0 0, .int .i64 q0, .int .i64 q1, .int .i64 q2, .int .i64 q3, .int .i64 q4, .slice none 0 0, .slice none 0 0, .string s], .bool true]) (by simp [results, Try.results11, go_sem, q0c, q1c, q2c, q3c, q4c, q5c, q6c, q7c, q8c, q9c]) rfl ?_
      exact NewQ.of rfl HZ.out
theorem spec_NewNode (s : ByteArray) (m o : Int) (w : World) : Calls Try.prog 11 #[.string s, .int .i64 m, .int .i64 o] w fun en w' => NewP (newN s m o) w en w' := (spec_NewNodeQ s m o w).mono (fun en w' h => NewP.of h.1 h.2)
end Go.Proofs.Ytgbnkkjjgodilaa.Nn
namespace Go.Proofs.Ytgbnkkjjgodilaa.Ro
open Go.ChangeShapes Go.WideShapes Go.ChangeAt Go.RowKit
set_option linter.unusedVariables false
theorem impl_secretOk (n : Int) (w : World) : Calls Try.prog 52 #[.int .i64 n] w fun e w' => e = .returned (.bool (secB n)) ∧ w' = w := by
  have e2 : decide (n < 2549) = decide (n ≤ 2548) := decide_eq_decide.2 (by omega)
  unfold secB inB
  by_cases h : 1 ≤ n
  · have h' : decide (1 ≤ n) = true := decide_eq_true h
    have h'' : (0 : Int) < n := by omega
    rw [h', Bool.true_and]
    go_enter Try.func52, Try.ntmps52
    go_wp2
    go_ret
    first | exact ⟨rfl, rfl⟩ | exact ⟨by rw [← e2]; rfl, rfl⟩
  · have h' : decide (1 ≤ n) = false := decide_eq_false h
    have h'' : ¬ (0 : Int) < n := by omega
    rw [h', Bool.false_and]
    go_enter Try.func52, Try.ntmps52
    go_wp2
    go_ret
    exact ⟨rfl, rfl⟩
theorem impl_timeOk (n : Int) (w : World) : Calls Try.prog 53 #[.int .i64 n] w fun e w' => e = .returned (.bool (timB n)) ∧ w' = w := by
  have e2 : decide (n ≤ 1000000) = decide (n ≤ 1000000) := decide_eq_decide.2 (by omega)
  unfold timB inB
  by_cases h : 0 ≤ n
  · have h' : decide (0 ≤ n) = true := decide_eq_true h
    have h'' : (0 : Int) ≤ n := by omega
    rw [h', Bool.true_and]
    go_enter Try.func53, Try.ntmps53
    go_wp2
    go_ret
    first | exact ⟨rfl, rfl⟩ | exact ⟨by rw [← e2]; rfl, rfl⟩
  · have h' : decide (0 ≤ n) = false := decide_eq_false h
    have h'' : ¬ (0 : Int) ≤ n := by omega
    rw [h', Bool.false_and]
    go_enter Try.func53, Try.ntmps53
    go_wp2
    go_ret
    exact ⟨rfl, rfl⟩
abbrev stV (m o a : Int) : Value := .iface 86 (.agg #[.int .i64 m, .int .i64 o, .int .i64 a])
abbrev rdV (m o n a : Int) : Value := .iface 88 (.agg #[.int .i64 m, .int .i64 o, .int .i64 n, .int .i64 a])
abbrev mvV (m o n a : Int) : Value := .iface 89 (.agg #[.int .i64 m, .int .i64 o, .int .i64 n, .int .i64 a])
def shV (p m o n a : Int) : Value := if rollOk p m o n a = false then .nilIface else if p = 1 then stV m o a else if p = 2 then rdV m o n a else mvV m o n a
set_option maxRecDepth 100000 in
set_option maxHeartbeats 8000000 in
theorem impl_shapeOf (p m o n a : Int) (w : World) : Calls Try.prog 45 #[rv p m o n a] w fun e w' => e = .returned (shV p m o n a) ∧ w' = w.alloc (rbox p m o n a 38) := by
  have S0 := hidIt (fun W => impl_secretOk m W)
  have S1 := hidIt (fun W => impl_secretOk o W)
  have S2 := hidIt (fun W => impl_secretOk n W)
  have T0 := hidIt (fun W => impl_timeOk a W)
  cases hm : secB m with
  | false =>
    rw [hm] at S0
    have e : shV p m o n a = .nilIface := by simp [shV, rollOk, rollB, hm]
    rw [e]
    clear e
    go_enter Try.func45, Try.ntmps45
    go_wp2_with (fail)
    refine (S0.out _).mono ?_
    rintro e w1 ⟨rfl, rfl⟩
    go_wp2_with (fail)
    go_ret
    exact ⟨rfl, rfl⟩
  | true =>
    rw [hm] at S0
    cases ho : secB o with
    | false =>
      rw [ho] at S1
      have e : shV p m o n a = .nilIface := by simp [shV, rollOk, rollB, hm, ho]
      rw [e]
      clear e
      go_enter Try.func45, Try.ntmps45
      go_wp2_with (fail)
      refine (S0.out _).mono ?_
      rintro e w1 ⟨rfl, rfl⟩
      go_wp2_with (fail)
      refine (S1.out _).mono ?_
      rintro e w1 ⟨rfl, rfl⟩
      go_wp2_with (fail)
      go_ret
      exact ⟨rfl, rfl⟩
    | true =>
      rw [ho] at S1
      cases ha : timB a with
      | false =>
        rw [ha] at T0
        have e : shV p m o n a = .nilIface := by simp [shV, rollOk, rollB, hm, ho, ha]
        rw [e]
        clear e
        go_enter Try.func45, Try.ntmps45
        go_wp2_with (fail)
        refine (S0.out _).mono ?_
        rintro e w1 ⟨rfl, rfl⟩
        go_wp2_with (fail)
        refine (S1.out _).mono ?_
        rintro e w1 ⟨rfl, rfl⟩
        go_wp2_with (fail)
        refine (T0.out _).mono ?_
        rintro e w1 ⟨rfl, rfl⟩
        go_wp2_with (fail)
        go_ret
        exact ⟨rfl, rfl⟩
      | true =>
        rw [ha] at T0
        by_cases h1 : p = 1
        · subst h1
          by_cases h0 : n = 0
          · subst h0
            have e : shV 1 m o 0 a = stV m o a := by simp [shV, rollOk, rollB, hm, ho, ha]
            rw [e]
            clear e
            go_enter Try.func45, Try.ntmps45
            go_wp2_with (fail)
            refine (S0.out _).mono ?_
            rintro e w1 ⟨rfl, rfl⟩
            go_wp2_with (fail)
            refine (S1.out _).mono ?_
            rintro e w1 ⟨rfl, rfl⟩
            go_wp2_with (fail)
            refine (T0.out _).mono ?_
            rintro e w1 ⟨rfl, rfl⟩
            go_wp2_with (fail)
            go_ret
            exact ⟨rfl, rfl⟩
          · have h0b : (n == 0) = false := by simpa using h0
            have e : shV 1 m o n a = .nilIface := by simp [shV, rollOk, rollB, hm, ho, ha, h0b]
            rw [e]
            clear e
            go_enter Try.func45, Try.ntmps45
            go_wp2_with (fail)
            refine (S0.out _).mono ?_
            rintro e w1 ⟨rfl, rfl⟩
            go_wp2_with (fail)
            refine (S1.out _).mono ?_
            rintro e w1 ⟨rfl, rfl⟩
            go_wp2_with (fail)
            refine (T0.out _).mono ?_
            rintro e w1 ⟨rfl, rfl⟩
            go_wp2_with (fail)
            go_ret
            exact ⟨rfl, rfl⟩
        · have h1b : (p == 1) = false := by simpa using h1
          by_cases h2 : p = 2
          · subst h2
            cases hn : secB n with
            | true =>
              rw [hn] at S2
              have e : shV 2 m o n a = rdV m o n a := by simp [shV, rollOk, rollB, hm, ho, ha, hn, inB]
              rw [e]
              clear e
              go_enter Try.func45, Try.ntmps45
              go_wp2_with (fail)
              refine (S0.out _).mono ?_
              rintro e w1 ⟨rfl, rfl⟩
              go_wp2_with (fail)
              refine (S1.out _).mono ?_
              rintro e w1 ⟨rfl, rfl⟩
              go_wp2_with (fail)
              refine (T0.out _).mono ?_
              rintro e w1 ⟨rfl, rfl⟩
              go_wp2_with (fail)
              refine (S2.out _).mono ?_
              rintro e w1 ⟨rfl, rfl⟩
              go_wp2_with (fail)
              go_ret
              exact ⟨rfl, rfl⟩
            | false =>
              rw [hn] at S2
              have e : shV 2 m o n a = .nilIface := by simp [shV, rollOk, rollB, hm, ho, ha, hn]
              rw [e]
              clear e
              go_enter Try.func45, Try.ntmps45
              go_wp2_with (fail)
              refine (S0.out _).mono ?_
              rintro e w1 ⟨rfl, rfl⟩
              go_wp2_with (fail)
              refine (S1.out _).mono ?_
              rintro e w1 ⟨rfl, rfl⟩
              go_wp2_with (fail)
              refine (T0.out _).mono ?_
              rintro e w1 ⟨rfl, rfl⟩
              go_wp2_with (fail)
              refine (S2.out _).mono ?_
              rintro e w1 ⟨rfl, rfl⟩
              go_wp2_with (fail)
              go_ret
              exact ⟨rfl, rfl⟩
          · have h2b : (p == 2) = false := by simpa using h2
            by_cases h3 : p = 3
            · subst h3
              cases hn : secB n with
              | true =>
                rw [hn] at S2
                have e : shV 3 m o n a = mvV m o n a := by simp [shV, rollOk, rollB, hm, ho, ha, hn, inB]
                rw [e]
                clear e
                go_enter Try.func45, Try.ntmps45
                go_wp2_with (fail)
                refine (S0.out _).mono ?_
                rintro e w1 ⟨rfl, rfl⟩
                go_wp2_with (fail)
                refine (S1.out _).mono ?_
                rintro e w1 ⟨rfl, rfl⟩
                go_wp2_with (fail)
                refine (T0.out _).mono ?_
                rintro e w1 ⟨rfl, rfl⟩
                go_wp2_with (fail)
                refine (S2.out _).mono ?_
                rintro e w1 ⟨rfl, rfl⟩
                go_wp2_with (fail)
                go_ret
                exact ⟨rfl, rfl⟩
              | false =>
                rw [hn] at S2
                have e : shV 3 m o n a = .nilIface := by simp [shV, rollOk, rollB, hm, ho, ha, hn]
                rw [e]
                clear e
                go_enter Try.func45, Try.ntmps45
                go_wp2_with (fail)
                refine (S0.out _).mono ?_
                rintro e w1 ⟨rfl, rfl⟩
                go_wp2_with (fail)
                refine (S1.out _).mono ?_
                rintro e w1 ⟨rfl, rfl⟩
                go_wp2_with (fail)
                refine (T0.out _).mono ?_
                rintro e w1 ⟨rfl, rfl⟩
                go_wp2_with (fail)
                refine (S2.out _).mono ?_
                rintro e w1 ⟨rfl, rfl⟩
                go_wp2_with (fail)
                go_ret
                exact ⟨rfl, rfl⟩
            · have h3b : (p == 3) = false := by simpa using h3
              have hph : inB p 2 3 = false := by
                unfold inB
                cases h : decide (2 ≤ p) <;> cases h' : decide (p ≤ 3) <;> simp_all <;> omega
              have e : shV p m o n a = .nilIface := by simp [shV, rollOk, rollB, hm, ho, ha, h1, hph]
              rw [e]
              clear e
              go_enter Try.func45, Try.ntmps45
              go_wp2_with (fail)
              refine (S0.out _).mono ?_
              rintro e w1 ⟨rfl, rfl⟩
              go_wp2_with (fail)
              refine (S1.out _).mono ?_
              rintro e w1 ⟨rfl, rfl⟩
              go_wp2_with (fail)
              refine (T0.out _).mono ?_
              rintro e w1 ⟨rfl, rfl⟩
              go_wp2_with (fail)
              go_ret
              exact ⟨rfl, rfl⟩
end Go.Proofs.Ytgbnkkjjgodilaa.Ro
namespace Go.Proofs.Ytgbnkkjjgodilaa.Ro
open Go.ChangeShapes Go.WideShapes Go.ChangeAt Go.RowKit
set_option linter.unusedVariables false
theorem as_st_nil (w : World) : (Instr.typeAssert .nilIface 76 86 true).run Try.prog w = .ok (.tuple #[.agg #[.int .i64 0, .int .i64 0, .int .i64 0], .bool false]) w := by kernel_rfl
theorem as_st_st (v : Value) (w : World) : (Instr.typeAssert (.iface 86 v) 76 86 true).run Try.prog w = .ok (.tuple #[v, .bool true]) w := by kernel_rfl
theorem as_st_rd (v : Value) (w : World) : (Instr.typeAssert (.iface 88 v) 76 86 true).run Try.prog w = .ok (.tuple #[.agg #[.int .i64 0, .int .i64 0, .int .i64 0], .bool false]) w := by kernel_rfl
theorem as_st_mv (v : Value) (w : World) : (Instr.typeAssert (.iface 89 v) 76 86 true).run Try.prog w = .ok (.tuple #[.agg #[.int .i64 0, .int .i64 0, .int .i64 0], .bool false]) w := by kernel_rfl
theorem as_rd_nil (w : World) : (Instr.typeAssert .nilIface 76 88 true).run Try.prog w = .ok (.tuple #[.agg #[.int .i64 0, .int .i64 0, .int .i64 0, .int .i64 0], .bool false]) w := by kernel_rfl
theorem as_rd_st (v : Value) (w : World) : (Instr.typeAssert (.iface 86 v) 76 88 true).run Try.prog w = .ok (.tuple #[.agg #[.int .i64 0, .int .i64 0, .int .i64 0, .int .i64 0], .bool false]) w := by kernel_rfl
theorem as_rd_rd (v : Value) (w : World) : (Instr.typeAssert (.iface 88 v) 76 88 true).run Try.prog w = .ok (.tuple #[v, .bool true]) w := by kernel_rfl
theorem as_rd_mv (v : Value) (w : World) : (Instr.typeAssert (.iface 89 v) 76 88 true).run Try.prog w = .ok (.tuple #[.agg #[.int .i64 0, .int .i64 0, .int .i64 0, .int .i64 0], .bool false]) w := by kernel_rfl
theorem as_mv_nil (w : World) : (Instr.typeAssert .nilIface 76 89 true).run Try.prog w = .ok (.tuple #[.agg #[.int .i64 0, .int .i64 0, .int .i64 0, .int .i64 0], .bool false]) w := by kernel_rfl
theorem as_mv_st (v : Value) (w : World) : (Instr.typeAssert (.iface 86 v) 76 89 true).run Try.prog w = .ok (.tuple #[.agg #[.int .i64 0, .int .i64 0, .int .i64 0, .int .i64 0], .bool false]) w := by kernel_rfl
theorem as_mv_rd (v : Value) (w : World) : (Instr.typeAssert (.iface 88 v) 76 89 true).run Try.prog w = .ok (.tuple #[.agg #[.int .i64 0, .int .i64 0, .int .i64 0, .int .i64 0], .bool false]) w := by kernel_rfl
theorem as_mv_mv (v : Value) (w : World) : (Instr.typeAssert (.iface 89 v) 76 89 true).run Try.prog w = .ok (.tuple #[v, .bool true]) w := by kernel_rfl
attribute [local go_sem] as_st_nil as_st_st as_st_rd as_st_mv as_rd_nil as_rd_st as_rd_rd as_rd_mv as_mv_nil as_mv_st as_mv_rd as_mv_mv
theorem shV_cases (p m o n a : Int) : (rollOk p m o n a = false ∧ shV p m o n a = .nilIface) ∨ (rollOk p m o n a = true ∧ ∃ u v, shV p m o n a = .iface u v) := by
  unfold shV
  cases hr : rollOk p m o n a with
  | false => exact .inl ⟨rfl, rfl⟩
  | true =>
    refine .inr ⟨rfl, ?_⟩
    rw [if_neg (show ¬ true = false by decide)]
    by_cases h1 : p = 1
    · exact ⟨_, _, if_pos h1⟩
    · rw [if_neg h1]
      by_cases h2 : p = 2
      · exact ⟨_, _, if_pos h2⟩
      · exact ⟨_, _, if_neg h2⟩
set_option maxRecDepth 100000 in
set_option maxHeartbeats 4000000 in
theorem impl_RollOk (p m o n a : Int) (w : World) : Calls Try.prog 36 #[rv p m o n a] w fun e w' => e = .returned (.bool (rollOk p m o n a)) ∧ w' = (w.alloc (rbox p m o n a 38)).alloc (rbox p m o n a 38) := by
  have C := hidIt (fun W => impl_shapeOf p m o n a W)
  rcases shV_cases p m o n a with ⟨e1, e2⟩ | ⟨e1, u, v, e2⟩
  · rw [e2] at C
    rw [e1]
    clear e1 e2
    go_enter Try.func36, Try.ntmps36
    go_wp2_with (fail)
    refine (C.out _).mono ?_
    rintro e w1 ⟨rfl, rfl⟩
    go_wp2_with (fail)
    go_ret
    exact ⟨rfl, rfl⟩
  · rw [e2] at C
    rw [e1]
    clear e1 e2
    go_enter Try.func36, Try.ntmps36
    go_wp2_with (fail)
    refine (C.out _).mono ?_
    rintro e w1 ⟨rfl, rfl⟩
    go_wp2_with (fail)
    go_ret
    exact ⟨rfl, rfl⟩
set_option maxRecDepth 100000 in
set_option maxHeartbeats 4000000 in
theorem impl_NewRoll (m o a : Int) (w : World) : Calls Try.prog 21 #[.int .i64 m, .int .i64 o, .int .i64 a] w fun e w' => e = .returned (.tuple #[rvt (newR m o a).1, .bool (newR m o a).2]) ∧ Below w.heap.size w w' := by
  have C := hidIt (fun W => impl_RollOk 1 m o 0 a W)
  cases hr : rollOk 1 m o 0 a with
  | false =>
    have e : newR m o a = ((0, 0, 0, 0, 0), false) := by simp [newR, hr]
    rw [e]
    rw [hr] at C
    clear e
    go_enter Try.func21, Try.ntmps21
    go_wp2_with (fail)
    refine (C.out _).mono ?_
    rintro e w1 ⟨rfl, rfl⟩
    go_wp2_with (fail)
    refine bodyPost_ret (v := .tuple #[rv 0 0 0 0 0, .bool false]) (by simp [results, Try.results21, go_sem]) rfl ⟨rfl, ?_⟩
    go_grown
  | true =>
    have e : newR m o a = ((1, m, o, 0, a), true) := by simp [newR, hr]
    rw [e]
    rw [hr] at C
    clear e
    go_enter Try.func21, Try.ntmps21
    go_wp2_with (fail)
    refine (C.out _).mono ?_
    rintro e w1 ⟨rfl, rfl⟩
    go_wp2_with (fail)
    refine bodyPost_ret (v := .tuple #[rv 1 m o 0 a, .bool true]) (by simp [results, Try.results21, go_sem]) rfl ⟨rfl, ?_⟩
    go_grown
end Go.Proofs.Ytgbnkkjjgodilaa.Ro
namespace Go.Proofs.Ytgbnkkjjgodilaa.Nn
open Go.ChangeShapes Go.WideShapes Go.ChangeAt Go.RowKit
set_option linter.unusedVariables false
set_option maxRecDepth 100000 in
set_option maxHeartbeats 8000000 in
theorem impl_NewNodeQ (s : ByteArray) (m o : Int) (w : World) : Calls Try.prog 12 #[.string s, .int .i64 m, .int .i64 o] w fun en w' => NewQ (newN s m o) w en w' := by
  have C1 := hidIt (fun W => Ro.impl_NewRoll m o 0 W)
  have C2 := hidIt (fun W => Nd.impl_hasLabels s W)
  have N1 : Hid (((Ro.newR m o 0).2 && Nd.apexB s) = false → newN s m o = (((0, 0, 0, 0, 0), ⟨#[]⟩), false)) := hidIt (fun h => by unfold newN; rw [h]; rfl)
  have N2 : Hid (((Ro.newR m o 0).2 && Nd.apexB s) = true → newN s m o = (((Ro.newR m o 0).1, s), true)) := hidIt (fun h => by unfold newN; rw [h]; rfl)
  generalize newN s m o = r at N1 N2 ⊢
  generalize (Ro.newR m o 0).1 = ro at C1 N2
  generalize (Ro.newR m o 0).2 = k1 at C1 N1 N2
  generalize Nd.apexB s = k2 at C2 N1 N2
  obtain ⟨q0, q1, q2, q3, q4⟩ := ro
  simp only [Ro.rvt, Ro.rv] at C1
  have BR := hidIt (Bo.Box.new w #[.slice none 0 0, .slice none 0 0, .int .i64 0, .int .i64 0, .int .i64 0, .int .i64 0, .int .i64 0, .slice none 0 0, .slice none 0 0, .string ⟨#[]⟩] 42)
  have HB := hidIt ((Below.refl w.heap.size w).alloc (Nat.le_refl _) (.cells #[.slice none 0 0, .slice none 0 0, .int .i64 0, .int .i64 0, .int .i64 0, .int .i64 0, .int .i64 0, .slice none 0 0, .slice none 0 0, .string ⟨#[]⟩] 42))
  go_enter Try.func12, Try.ntmps12
  go_wp2_with (fail)
  generalize w.alloc (.cells #[.slice none 0 0, .slice none 0 0, .int .i64 0, .int .i64 0, .int .i64 0, .int .i64 0, .int .i64 0, .slice none 0 0, .slice none 0 0, .string ⟨#[]⟩] 42) = W0 at BR HB ⊢
  refine (C1.out _).mono ?_
  rintro en w1 ⟨rfl, k⟩
  replace BR := hidIt (BR.out.kept k)
  replace HB := hidIt (on HB.out k)
  clear k
  have BO := hidIt (Bo.Box.new w1 #[.int .i64 q0, .int .i64 q1, .int .i64 q2, .int .i64 q3, .int .i64 q4] 38)
  have kA := (Below.refl w1.heap.size w1).alloc (Nat.le_refl _) (.cells #[.int .i64 q0, .int .i64 q1, .int .i64 q2, .int .i64 q3, .int .i64 q4] 38)
  replace BR := hidIt (BR.out.kept kA)
  replace HB := hidIt (on HB.out kA)
  clear kA
  cases k1 with
  | false =>
    have er := N1.out rfl
    subst er
    clear N1 N2
    have c0 := BR.out.c 0 (v := .slice none 0 0) rfl
    have c1 := BR.out.c 1 (v := .slice none 0 0) rfl
    have c2 := BR.out.c 2 (v := .int .i64 0) rfl
    have c3 := BR.out.c 3 (v := .int .i64 0) rfl
    have c4 := BR.out.c 4 (v := .int .i64 0) rfl
    have c5 := BR.out.c 5 (v := .int .i64 0) rfl
    have c6 := BR.out.c 6 (v := .int .i64 0) rfl
    have c7 := BR.out.c 7 (v := .slice none 0 0) rfl
    have c8 := BR.out.c 8 (v := .slice none 0 0) rfl
    have c9 := BR.out.c 9 (v := .string ⟨#[]⟩) rfl
    have z0 := BR.out.fr 0
    have z1 := BR.out.fr 1
    have z2 := BR.out.fr 2
    have z3 := BR.out.fr 3
    have z4 := BR.out.fr 4
    have z5 := BR.out.fr 5
    have z6 := BR.out.fr 6
    have z7 := BR.out.fr 7
    have z8 := BR.out.fr 8
    have z9 := BR.out.fr 9
    have RZ := hidIt (((((((((((BR.out).put (c' := #[.slice none 0 0, .slice none 0 0, .int .i64 0, .int .i64 0, .int .i64 0, .int .i64 0, .int .i64 0, .slice none 0 0, .slice none 0 0, .string ⟨#[]⟩]) 0 (.slice none 0 0) (by simp) rfl).put (c' := #[.slice none 0 0, .slice none 0 0, .int .i64 0, .int .i64 0, .int .i64 0, .int .i64 0, .int .i64 0, .slice none 0 0, .slice none 0 0, .string ⟨#[]⟩]) 1 (.slice none 0 0) (by simp) rfl).put (c' := #[.slice none 0 0, .slice none 0 0, .int .i64 0, .int .i64 0, .int .i64 0, .int .i64 0, .int .i64 0, .slice none 0 0, .slice none 0 0, .string ⟨#[]⟩]) 2 (.int .i64 0) (by simp) rfl).put (c' := #[.slice none 0 0, .slice none 0 0, .int .i64 0, .int .i64 0, .int .i64 0, .int .i64 0, .int .i64 0, .slice none 0 0, .slice none 0 0, .string ⟨#[]⟩]) 3 (.int .i64 0) (by simp) rfl).put (c' := #[.slice none 0 0, .slice none 0 0, .int .i64 0, .int .i64 0, .int .i64 0, .int .i64 0, .int .i64 0, .slice none 0 0, .slice none 0 0, .string ⟨#[]⟩]) 4 (.int .i64 0) (by simp) rfl).put (c' := #[.slice none 0 0, .slice none 0 0, .int .i64 0, .int .i64 0, .int .i64 0, .int .i64 0, .int .i64 0, .slice none 0 0, .slice none 0 0, .string ⟨#[]⟩]) 5 (.int .i64 0) (by simp) rfl).put (c' := #[.slice none 0 0, .slice none 0 0, .int .i64 0, .int .i64 0, .int .i64 0, .int .i64 0, .int .i64 0, .slice none 0 0, .slice none 0 0, .string ⟨#[]⟩]) 6 (.int .i64 0) (by simp) rfl).put (c' := #[.slice none 0 0, .slice none 0 0, .int .i64 0, .int .i64 0, .int .i64 0, .int .i64 0, .int .i64 0, .slice none 0 0, .slice none 0 0, .string ⟨#[]⟩]) 7 (.slice none 0 0) (by simp) rfl).put (c' := #[.slice none 0 0, .slice none 0 0, .int .i64 0, .int .i64 0, .int .i64 0, .int .i64 0, .int .i64 0, .slice none 0 0, .slice none 0 0, .string ⟨#[]⟩]) 8 (.slice none 0 0) (by simp) rfl).put (c' := #[.slice none 0 0, .slice none 0 0, .int .i64 0, .int .i64 0, .int .i64 0, .int .i64 0, .int .i64 0, .slice none 0 0, .slice none 0 0, .string ⟨#[]⟩]) 9 (.string ⟨#[]⟩) (by simp) rfl)
    have HZ := hidIt (((((((((((HB.out).setCell (p := ⟨w.heap.size, 0, none⟩) (Nat.le_refl _) (.slice none 0 0)).setCell (p := ⟨w.heap.size, 1, none⟩) (Nat.le_refl _) (.slice none 0 0)).setCell (p := ⟨w.heap.size, 2, none⟩) (Nat.le_refl _) (.int .i64 0)).setCell (p := ⟨w.heap.size, 3, none⟩) (Nat.le_refl _) (.int .i64 0)).setCell (p := ⟨w.heap.size, 4, none⟩) (Nat.le_refl _) (.int .i64 0)).setCell (p := ⟨w.heap.size, 5, none⟩) (Nat.le_refl _) (.int .i64 0)).setCell (p := ⟨w.heap.size, 6, none⟩) (Nat.le_refl _) (.int .i64 0)).setCell (p := ⟨w.heap.size, 7, none⟩) (Nat.le_refl _) (.slice none 0 0)).setCell (p := ⟨w.heap.size, 8, none⟩) (Nat.le_refl _) (.slice none 0 0)).setCell (p := ⟨w.heap.size, 9, none⟩) (Nat.le_refl _) (.string ⟨#[]⟩))
    clear BR HB
    go_wp2_with (fail)
    generalize ((((((((((w1.alloc (.cells #[.int .i64 q0, .int .i64 q1, .int .i64 q2, .int .i64 q3, .int .i64 q4] 38)).setCell ⟨w.heap.size, 0, none⟩ (.slice none 0 0)).setCell ⟨w.heap.size, 1, none⟩ (.slice none 0 0)).setCell ⟨w.heap.size, 2, none⟩ (.int .i64 0)).setCell ⟨w.heap.size, 3, none⟩ (.int .i64 0)).setCell ⟨w.heap.size, 4, none⟩ (.int .i64 0)).setCell ⟨w.heap.size, 5, none⟩ (.int .i64 0)).setCell ⟨w.heap.size, 6, none⟩ (.int .i64 0)).setCell ⟨w.heap.size, 7, none⟩ (.slice none 0 0)).setCell ⟨w.heap.size, 8, none⟩ (.slice none 0 0)).setCell ⟨w.heap.size, 9, none⟩ (.string ⟨#[]⟩) = wz at RZ HZ ⊢
    clear c0 z0 c1 z1 c2 z2 c3 z3 c4 z4 c5 z5 c6 z6 c7 z7 c8 z8 c9 z9
    have q0c := RZ.out.c 0 (v := .slice none 0 0) rfl
    have q1c := RZ.out.c 1 (v := .slice none 0 0) rfl
    have q2c := RZ.out.c 2 (v := .int .i64 0) rfl
    have q3c := RZ.out.c 3 (v := .int .i64 0) rfl
    have q4c := RZ.out.c 4 (v := .int .i64 0) rfl
    have q5c := RZ.out.c 5 (v := .int .i64 0) rfl
    have q6c := RZ.out.c 6 (v := .int .i64 0) rfl
    have q7c := RZ.out.c 7 (v := .slice none 0 0) rfl
    have q8c := RZ.out.c 8 (v := .slice none 0 0) rfl
    have q9c := RZ.out.c 9 (v := .string ⟨#[]⟩) rfl
    refine bodyPost_ret (v := .tuple #[.agg #[.slice none 0 0, .slice none 0 0, .int .i64 0, .int .i64 0, .int .i64 0, .int .i64 0, .int .i64 0, .slice none 0 0, .slice none 0 0, .string ⟨#[]⟩], .bool false]) (by simp [results, Try.results12, go_sem, q0c, q1c, q2c, q3c, q4c, q5c, q6c, q7c, q8c, q9c]) rfl ?_
    exact NewQ.of rfl HZ.out
  | true =>
    go_wp2_with (fail)
    generalize w1.alloc (.cells #[.int .i64 q0, .int .i64 q1, .int .i64 q2, .int .i64 q3, .int .i64 q4] 38) = w3 at BR HB BO ⊢
    refine (C2.out _).mono ?_
    rintro en w2 ⟨rfl, k⟩
    replace BR := hidIt (BR.out.kept k)
    replace BO := hidIt (BO.out.kept k)
    replace HB := hidIt (on HB.out k)
    clear k
    cases k2 with
    | false =>
      have er := N1.out rfl
      subst er
      clear N1 N2
      have c0 := BR.out.c 0 (v := .slice none 0 0) rfl
      have c1 := BR.out.c 1 (v := .slice none 0 0) rfl
      have c2 := BR.out.c 2 (v := .int .i64 0) rfl
      have c3 := BR.out.c 3 (v := .int .i64 0) rfl
      have c4 := BR.out.c 4 (v := .int .i64 0) rfl
      have c5 := BR.out.c 5 (v := .int .i64 0) rfl
      have c6 := BR.out.c 6 (v := .int .i64 0) rfl
      have c7 := BR.out.c 7 (v := .slice none 0 0) rfl
      have c8 := BR.out.c 8 (v := .slice none 0 0) rfl
      have c9 := BR.out.c 9 (v := .string ⟨#[]⟩) rfl
      have z0 := BR.out.fr 0
      have z1 := BR.out.fr 1
      have z2 := BR.out.fr 2
      have z3 := BR.out.fr 3
      have z4 := BR.out.fr 4
      have z5 := BR.out.fr 5
      have z6 := BR.out.fr 6
      have z7 := BR.out.fr 7
      have z8 := BR.out.fr 8
      have z9 := BR.out.fr 9
      have RZ := hidIt (((((((((((BR.out).put (c' := #[.slice none 0 0, .slice none 0 0, .int .i64 0, .int .i64 0, .int .i64 0, .int .i64 0, .int .i64 0, .slice none 0 0, .slice none 0 0, .string ⟨#[]⟩]) 0 (.slice none 0 0) (by simp) rfl).put (c' := #[.slice none 0 0, .slice none 0 0, .int .i64 0, .int .i64 0, .int .i64 0, .int .i64 0, .int .i64 0, .slice none 0 0, .slice none 0 0, .string ⟨#[]⟩]) 1 (.slice none 0 0) (by simp) rfl).put (c' := #[.slice none 0 0, .slice none 0 0, .int .i64 0, .int .i64 0, .int .i64 0, .int .i64 0, .int .i64 0, .slice none 0 0, .slice none 0 0, .string ⟨#[]⟩]) 2 (.int .i64 0) (by simp) rfl).put (c' := #[.slice none 0 0, .slice none 0 0, .int .i64 0, .int .i64 0, .int .i64 0, .int .i64 0, .int .i64 0, .slice none 0 0, .slice none 0 0, .string ⟨#[]⟩]) 3 (.int .i64 0) (by simp) rfl).put (c' := #[.slice none 0 0, .slice none 0 0, .int .i64 0, .int .i64 0, .int .i64 0, .int .i64 0, .int .i64 0, .slice none 0 0, .slice none 0 0, .string ⟨#[]⟩]) 4 (.int .i64 0) (by simp) rfl).put (c' := #[.slice none 0 0, .slice none 0 0, .int .i64 0, .int .i64 0, .int .i64 0, .int .i64 0, .int .i64 0, .slice none 0 0, .slice none 0 0, .string ⟨#[]⟩]) 5 (.int .i64 0) (by simp) rfl).put (c' := #[.slice none 0 0, .slice none 0 0, .int .i64 0, .int .i64 0, .int .i64 0, .int .i64 0, .int .i64 0, .slice none 0 0, .slice none 0 0, .string ⟨#[]⟩]) 6 (.int .i64 0) (by simp) rfl).put (c' := #[.slice none 0 0, .slice none 0 0, .int .i64 0, .int .i64 0, .int .i64 0, .int .i64 0, .int .i64 0, .slice none 0 0, .slice none 0 0, .string ⟨#[]⟩]) 7 (.slice none 0 0) (by simp) rfl).put (c' := #[.slice none 0 0, .slice none 0 0, .int .i64 0, .int .i64 0, .int .i64 0, .int .i64 0, .int .i64 0, .slice none 0 0, .slice none 0 0, .string ⟨#[]⟩]) 8 (.slice none 0 0) (by simp) rfl).put (c' := #[.slice none 0 0, .slice none 0 0, .int .i64 0, .int .i64 0, .int .i64 0, .int .i64 0, .int .i64 0, .slice none 0 0, .slice none 0 0, .string ⟨#[]⟩]) 9 (.string ⟨#[]⟩) (by simp) rfl)
      have HZ := hidIt (((((((((((HB.out).setCell (p := ⟨w.heap.size, 0, none⟩) (Nat.le_refl _) (.slice none 0 0)).setCell (p := ⟨w.heap.size, 1, none⟩) (Nat.le_refl _) (.slice none 0 0)).setCell (p := ⟨w.heap.size, 2, none⟩) (Nat.le_refl _) (.int .i64 0)).setCell (p := ⟨w.heap.size, 3, none⟩) (Nat.le_refl _) (.int .i64 0)).setCell (p := ⟨w.heap.size, 4, none⟩) (Nat.le_refl _) (.int .i64 0)).setCell (p := ⟨w.heap.size, 5, none⟩) (Nat.le_refl _) (.int .i64 0)).setCell (p := ⟨w.heap.size, 6, none⟩) (Nat.le_refl _) (.int .i64 0)).setCell (p := ⟨w.heap.size, 7, none⟩) (Nat.le_refl _) (.slice none 0 0)).setCell (p := ⟨w.heap.size, 8, none⟩) (Nat.le_refl _) (.slice none 0 0)).setCell (p := ⟨w.heap.size, 9, none⟩) (Nat.le_refl _) (.string ⟨#[]⟩))
      clear BR HB
      go_wp2_with (fail)
      generalize ((((((((((w2).setCell ⟨w.heap.size, 0, none⟩ (.slice none 0 0)).setCell ⟨w.heap.size, 1, none⟩ (.slice none 0 0)).setCell ⟨w.heap.size, 2, none⟩ (.int .i64 0)).setCell ⟨w.heap.size, 3, none⟩ (.int .i64 0)).setCell ⟨w.heap.size, 4, none⟩ (.int .i64 0)).setCell ⟨w.heap.size, 5, none⟩ (.int .i64 0)).setCell ⟨w.heap.size, 6, none⟩ (.int .i64 0)).setCell ⟨w.heap.size, 7, none⟩ (.slice none 0 0)).setCell ⟨w.heap.size, 8, none⟩ (.slice none 0 0)).setCell ⟨w.heap.size, 9, none⟩ (.string ⟨#[]⟩) = wz at RZ HZ ⊢
      clear c0 z0 c1 z1 c2 z2 c3 z3 c4 z4 c5 z5 c6 z6 c7 z7 c8 z8 c9 z9
      have q0c := RZ.out.c 0 (v := .slice none 0 0) rfl
      have q1c := RZ.out.c 1 (v := .slice none 0 0) rfl
      have q2c := RZ.out.c 2 (v := .int .i64 0) rfl
      have q3c := RZ.out.c 3 (v := .int .i64 0) rfl
      have q4c := RZ.out.c 4 (v := .int .i64 0) rfl
      have q5c := RZ.out.c 5 (v := .int .i64 0) rfl
      have q6c := RZ.out.c 6 (v := .int .i64 0) rfl
      have q7c := RZ.out.c 7 (v := .slice none 0 0) rfl
      have q8c := RZ.out.c 8 (v := .slice none 0 0) rfl
      have q9c := RZ.out.c 9 (v := .string ⟨#[]⟩) rfl
      refine bodyPost_ret (v := .tuple #[.agg #[.slice none 0 0, .slice none 0 0, .int .i64 0, .int .i64 0, .int .i64 0, .int .i64 0, .int .i64 0, .slice none 0 0, .slice none 0 0, .string ⟨#[]⟩], .bool false]) (by simp [results, Try.results12, go_sem, q0c, q1c, q2c, q3c, q4c, q5c, q6c, q7c, q8c, q9c]) rfl ?_
      exact NewQ.of rfl HZ.out
    | true =>
      have er := N2.out rfl
      subst er
      clear N1 N2
      have c0 := BR.out.c 0 (v := .slice none 0 0) rfl
      have c1 := BR.out.c 1 (v := .slice none 0 0) rfl
      have c2 := BR.out.c 2 (v := .int .i64 0) rfl
      have c3 := BR.out.c 3 (v := .int .i64 0) rfl
      have c4 := BR.out.c 4 (v := .int .i64 0) rfl
      have c5 := BR.out.c 5 (v := .int .i64 0) rfl
      have c6 := BR.out.c 6 (v := .int .i64 0) rfl
      have c7 := BR.out.c 7 (v := .slice none 0 0) rfl
      have c8 := BR.out.c 8 (v := .slice none 0 0) rfl
      have c9 := BR.out.c 9 (v := .string ⟨#[]⟩) rfl
      have z0 := BR.out.fr 0
      have z1 := BR.out.fr 1
      have z2 := BR.out.fr 2
      have z3 := BR.out.fr 3
      have z4 := BR.out.fr 4
      have z5 := BR.out.fr 5
      have z6 := BR.out.fr 6
      have z7 := BR.out.fr 7
      have z8 := BR.out.fr 8
      have z9 := BR.out.fr 9
      have RZ := hidIt (((((((((((BR.out).put (c' := #[.slice none 0 0, .slice none 0 0, .int .i64 0, .int .i64 0, .int .i64 0, .int .i64 0, .int .i64 0, .slice none 0 0, .slice none 0 0, .string ⟨#[]⟩]) 0 (.slice none 0 0) (by simp) rfl).put (c' := #[.slice none 0 0, .slice none 0 0, .int .i64 0, .int .i64 0, .int .i64 0, .int .i64 0, .int .i64 0, .slice none 0 0, .slice none 0 0, .string ⟨#[]⟩]) 1 (.slice none 0 0) (by simp) rfl).put (c' := #[.slice none 0 0, .slice none 0 0, .int .i64 q0, .int .i64 0, .int .i64 0, .int .i64 0, .int .i64 0, .slice none 0 0, .slice none 0 0, .string ⟨#[]⟩]) 2 (.int .i64 q0) (by simp) rfl).put (c' := #[.slice none 0 0, .slice none 0 0, .int .i64 q0, .int .i64 q1, .int .i64 0, .int .i64 0, .int .i64 0, .slice none 0 0, .slice none 0 0, .string ⟨#[]⟩]) 3 (.int .i64 q1) (by simp) rfl).put (c' := #[.slice none 0 0, .slice none 0 0, .int .i64 q0, .int .i64 q1, .int .i64 q2, .int .i64 0, .int .i64 0, .slice none 0 0, .slice none 0 0, .string ⟨#[]⟩]) 4 (.int .i64 q2) (by simp) rfl).put (c' := #[.slice none 0 0, .slice none 0 0, .int .i64 q0, .int .i64 q1, .int .i64 q2, .int .i64 q3, .int .i64 0, .slice none 0 0, .slice none 0 0, .string ⟨#[]⟩]) 5 (.int .i64 q3) (by simp) rfl).put (c' := #[.slice none 0 0, .slice none 0 0, .int .i64 q0, .int .i64 q1, .int .i64 q2, .int .i64 q3, .int .i64 q4, .slice none 0 0, .slice none 0 0, .string ⟨#[]⟩]) 6 (.int .i64 q4) (by simp) rfl).put (c' := #[.slice none 0 0, .slice none 0 0, .int .i64 q0, .int .i64 q1, .int .i64 q2, .int .i64 q3, .int .i64 q4, .slice none 0 0, .slice none 0 0, .string ⟨#[]⟩]) 7 (.slice none 0 0) (by simp) rfl).put (c' := #[.slice none 0 0, .slice none 0 0, .int .i64 q0, .int .i64 q1, .int .i64 q2, .int .i64 q3, .int .i64 q4, .slice none 0 0, .slice none 0 0, .string ⟨#[]⟩]) 8 (.slice none 0 0) (by simp) rfl).put (c' := #[.slice none 0 0, .slice none 0 0, .int .i64 q0, .int .i64 q1, .int .i64 q2, .int .i64 q3, .int .i64 q4, .slice none 0 0, .slice none 0 0, .string s]) 9 (.string s) (by simp) rfl)
      have HZ := hidIt (((((((((((HB.out).setCell (p := ⟨w.heap.size, 0, none⟩) (Nat.le_refl _) (.slice none 0 0)).setCell (p := ⟨w.heap.size, 1, none⟩) (Nat.le_refl _) (.slice none 0 0)).setCell (p := ⟨w.heap.size, 2, none⟩) (Nat.le_refl _) (.int .i64 q0)).setCell (p := ⟨w.heap.size, 3, none⟩) (Nat.le_refl _) (.int .i64 q1)).setCell (p := ⟨w.heap.size, 4, none⟩) (Nat.le_refl _) (.int .i64 q2)).setCell (p := ⟨w.heap.size, 5, none⟩) (Nat.le_refl _) (.int .i64 q3)).setCell (p := ⟨w.heap.size, 6, none⟩) (Nat.le_refl _) (.int .i64 q4)).setCell (p := ⟨w.heap.size, 7, none⟩) (Nat.le_refl _) (.slice none 0 0)).setCell (p := ⟨w.heap.size, 8, none⟩) (Nat.le_refl _) (.slice none 0 0)).setCell (p := ⟨w.heap.size, 9, none⟩) (Nat.le_refl _) (.string s))
      have a0 := BO.out.c 0 (v := .int .i64 q0) rfl
      have a1 := BO.out.c 1 (v := .int .i64 q1) rfl
      have a2 := BO.out.c 2 (v := .int .i64 q2) rfl
      have a3 := BO.out.c 3 (v := .int .i64 q3) rfl
      have a4 := BO.out.c 4 (v := .int .i64 q4) rfl
      clear BR HB
      go_wp2_with (fail)
      generalize ((((((((((w2).setCell ⟨w.heap.size, 0, none⟩ (.slice none 0 0)).setCell ⟨w.heap.size, 1, none⟩ (.slice none 0 0)).setCell ⟨w.heap.size, 2, none⟩ (.int .i64 q0)).setCell ⟨w.heap.size, 3, none⟩ (.int .i64 q1)).setCell ⟨w.heap.size, 4, none⟩ (.int .i64 q2)).setCell ⟨w.heap.size, 5, none⟩ (.int .i64 q3)).setCell ⟨w.heap.size, 6, none⟩ (.int .i64 q4)).setCell ⟨w.heap.size, 7, none⟩ (.slice none 0 0)).setCell ⟨w.heap.size, 8, none⟩ (.slice none 0 0)).setCell ⟨w.heap.size, 9, none⟩ (.string s) = wz at RZ HZ ⊢
      clear c0 z0 c1 z1 c2 z2 c3 z3 c4 z4 c5 z5 c6 z6 c7 z7 c8 z8 c9 z9 a0 a1 a2 a3 a4
      have q0c := RZ.out.c 0 (v := .slice none 0 0) rfl
      have q1c := RZ.out.c 1 (v := .slice none 0 0) rfl
      have q2c := RZ.out.c 2 (v := .int .i64 q0) rfl
      have q3c := RZ.out.c 3 (v := .int .i64 q1) rfl
      have q4c := RZ.out.c 4 (v := .int .i64 q2) rfl
      have q5c := RZ.out.c 5 (v := .int .i64 q3) rfl
      have q6c := RZ.out.c 6 (v := .int .i64 q4) rfl
      have q7c := RZ.out.c 7 (v := .slice none 0 0) rfl
      have q8c := RZ.out.c 8 (v := .slice none 0 0) rfl
      have q9c := RZ.out.c 9 (v := .string s) rfl
      refine bodyPost_ret (v := .tuple #[.agg #[.slice none 0 0, .slice none 0 0, .int .i64 q0, .int .i64 q1, .int .i64 q2, .int .i64 q3, .int .i64 q4, .slice none 0 0, .slice none 0 0, .string s], .bool true]) (by simp [results, Try.results12, go_sem, q0c, q1c, q2c, q3c, q4c, q5c, q6c, q7c, q8c, q9c]) rfl ?_
      exact NewQ.of rfl HZ.out
theorem impl_NewNode (s : ByteArray) (m o : Int) (w : World) : Calls Try.prog 12 #[.string s, .int .i64 m, .int .i64 o] w fun en w' => NewP (newN s m o) w en w' := (impl_NewNodeQ s m o w).mono (fun en w' h => NewP.of h.1 h.2)
end Go.Proofs.Ytgbnkkjjgodilaa.Nn
namespace Go.Proofs.Ytgbnkkjjgodilaa.Vv
open Go.ChangeShapes Go.WideShapes Go.ChangeAt Go.RowKit
set_option linter.unusedVariables false
theorem hidIt {p : Prop} (h : p) : Hid p := h
/-- A slice: where it begins, how long it is, how much room it has. -/
abbrev Sl := Option Addr × Nat × Nat
abbrev sv (x : Sl) : Value := .slice x.1 x.2.1 x.2.2
end Go.Proofs.Ytgbnkkjjgodilaa.Vv
