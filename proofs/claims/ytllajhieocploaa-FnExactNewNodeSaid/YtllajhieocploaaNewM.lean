/-
  A new Node, all of whose lists are empty: what the laws do with it; NewNode of the specification. (Written by wip/mkNew.py.)
-/
import Derived.Test.YtllajhieocploaaApxM
import Derived.Test.YtllajhieocploaaRollS
import Derived.Test.YtllajhieocploaaBoxM
import Derived.Handy
namespace Go.Proofs.Ytllajhieocploaa.Nn
open Go.ChangeShapes Go.WideShapes Go.ChangeAt Go.RowKit
set_option linter.unusedVariables false
theorem hidIt {p : Prop} (h : p) : Hid p := h
theorem on {W a b : World} (h : Below W.heap.size W a) (k : Below a.heap.size a b) : Below W.heap.size W b := h.trans (k.mono h.size)
set_option maxRecDepth 100000 in
set_option maxHeartbeats 8000000 in
theorem eqEntry0 (a a' : Option Addr) (c c' : Nat) (w : World) : Calls Try.prog 59 #[.slice a 0 c, .slice a' 0 c'] w fun e w' => e = .returned (.bool true) ∧ Below w.heap.size w w' := by
  go_enter Try.func59, Try.ntmps59
  go_wp2_with (fail)
  go_loopw [5] (fun y wx => y = .int .i64 0 ∧ wx = w) (fun _ _ => 0)
  case atStart => exact ⟨rfl, rfl⟩
  case round =>
    obtain ⟨rfl, rfl⟩ := hrel
    go_wp2_with (fail)
    go_ret
    exact ⟨rfl, Below.refl _ _⟩
set_option maxRecDepth 100000 in
set_option maxHeartbeats 8000000 in
theorem markEntry0 (a : Option Addr) (c : Nat) (k : Int) (w : World) : Calls Try.prog 29 #[.slice a 0 c, .int .i64 k] w fun e w' => e = .returned (.int .i64 k) ∧ Below w.heap.size w w' := by
  go_enter Try.func29, Try.ntmps29
  go_wp2_with (fail)
  go_loopw [1, 5] (fun z y wx => z = .int .i64 k ∧ y = .int .i64 0 ∧ wx = w) (fun _ _ _ => 0)
  case atStart => exact ⟨rfl, rfl, rfl⟩
  case round =>
    obtain ⟨rfl, rfl, rfl⟩ := hrel
    go_wp2_with (fail)
    go_ret
    exact ⟨rfl, Below.refl _ _⟩
set_option maxRecDepth 100000 in
set_option maxHeartbeats 8000000 in
theorem heldEntry0 (a : Option Addr) (c : Nat) (k : Int) (w : World) : Calls Try.prog 31 #[.slice a 0 c, .int .i64 k] w fun e w' => e = .returned (.int .i64 k) ∧ Below w.heap.size w w' := by
  go_enter Try.func31, Try.ntmps31
  go_wp2_with (fail)
  go_loopw [1, 5] (fun z y wx => z = .int .i64 k ∧ y = .int .i64 0 ∧ wx = w) (fun _ _ _ => 0)
  case atStart => exact ⟨rfl, rfl, rfl⟩
  case round =>
    obtain ⟨rfl, rfl, rfl⟩ := hrel
    go_wp2_with (fail)
    go_ret
    exact ⟨rfl, Below.refl _ _⟩
set_option maxRecDepth 100000 in
set_option maxHeartbeats 8000000 in
theorem eqMember0 (a a' : Option Addr) (c c' : Nat) (w : World) : Calls Try.prog 60 #[.slice a 0 c, .slice a' 0 c'] w fun e w' => e = .returned (.bool true) ∧ Below w.heap.size w w' := by
  go_enter Try.func60, Try.ntmps60
  go_wp2_with (fail)
  go_loopw [5] (fun y wx => y = .int .i64 0 ∧ wx = w) (fun _ _ => 0)
  case atStart => exact ⟨rfl, rfl⟩
  case round =>
    obtain ⟨rfl, rfl⟩ := hrel
    go_wp2_with (fail)
    go_ret
    exact ⟨rfl, Below.refl _ _⟩
set_option maxRecDepth 100000 in
set_option maxHeartbeats 8000000 in
theorem markMember0 (a : Option Addr) (c : Nat) (k : Int) (w : World) : Calls Try.prog 30 #[.slice a 0 c, .int .i64 k] w fun e w' => e = .returned (.int .i64 k) ∧ Below w.heap.size w w' := by
  go_enter Try.func30, Try.ntmps30
  go_wp2_with (fail)
  go_loopw [1, 5] (fun z y wx => z = .int .i64 k ∧ y = .int .i64 0 ∧ wx = w) (fun _ _ _ => 0)
  case atStart => exact ⟨rfl, rfl, rfl⟩
  case round =>
    obtain ⟨rfl, rfl, rfl⟩ := hrel
    go_wp2_with (fail)
    go_ret
    exact ⟨rfl, Below.refl _ _⟩
set_option maxRecDepth 100000 in
set_option maxHeartbeats 8000000 in
theorem heldMember0 (a : Option Addr) (c : Nat) (k : Int) (w : World) : Calls Try.prog 32 #[.slice a 0 c, .int .i64 k] w fun e w' => e = .returned (.int .i64 k) ∧ Below w.heap.size w w' := by
  go_enter Try.func32, Try.ntmps32
  go_wp2_with (fail)
  go_loopw [1, 5] (fun z y wx => z = .int .i64 k ∧ y = .int .i64 0 ∧ wx = w) (fun _ _ _ => 0)
  case atStart => exact ⟨rfl, rfl, rfl⟩
  case round =>
    obtain ⟨rfl, rfl, rfl⟩ := hrel
    go_wp2_with (fail)
    go_ret
    exact ⟨rfl, Below.refl _ _⟩
set_option maxRecDepth 100000 in
set_option maxHeartbeats 8000000 in
theorem eqBucket0 (a a' : Option Addr) (c c' : Nat) (w : World) : Calls Try.prog 39 #[.slice a 0 c, .slice a' 0 c'] w fun e w' => e = .returned (.bool true) ∧ Below w.heap.size w w' := by
  go_enter Try.func39, Try.ntmps39
  go_wp2_with (fail)
  go_loopw [5] (fun y wx => y = .int .i64 0 ∧ wx = w) (fun _ _ => 0)
  case atStart => exact ⟨rfl, rfl⟩
  case round =>
    obtain ⟨rfl, rfl⟩ := hrel
    go_wp2_with (fail)
    go_ret
    exact ⟨rfl, Below.refl _ _⟩
set_option maxRecDepth 100000 in
set_option maxHeartbeats 8000000 in
theorem markBucket0 (a : Option Addr) (c : Nat) (k : Int) (w : World) : Calls Try.prog 42 #[.slice a 0 c, .int .i64 k] w fun e w' => e = .returned (.int .i64 k) ∧ Below w.heap.size w w' := by
  go_enter Try.func42, Try.ntmps42
  go_wp2_with (fail)
  go_loopw [1, 5] (fun z y wx => z = .int .i64 k ∧ y = .int .i64 0 ∧ wx = w) (fun _ _ _ => 0)
  case atStart => exact ⟨rfl, rfl, rfl⟩
  case round =>
    obtain ⟨rfl, rfl, rfl⟩ := hrel
    go_wp2_with (fail)
    go_ret
    exact ⟨rfl, Below.refl _ _⟩
set_option maxRecDepth 100000 in
set_option maxHeartbeats 8000000 in
theorem heldBucket0 (a : Option Addr) (c : Nat) (k : Int) (w : World) : Calls Try.prog 45 #[.slice a 0 c, .int .i64 k] w fun e w' => e = .returned (.int .i64 k) ∧ Below w.heap.size w w' := by
  go_enter Try.func45, Try.ntmps45
  go_wp2_with (fail)
  go_loopw [1, 5] (fun z y wx => z = .int .i64 k ∧ y = .int .i64 0 ∧ wx = w) (fun _ _ _ => 0)
  case atStart => exact ⟨rfl, rfl, rfl⟩
  case round =>
    obtain ⟨rfl, rfl, rfl⟩ := hrel
    go_wp2_with (fail)
    go_ret
    exact ⟨rfl, Below.refl _ _⟩
set_option maxRecDepth 100000 in
set_option maxHeartbeats 8000000 in
theorem eqLine0 (a a' : Option Addr) (c c' : Nat) (w : World) : Calls Try.prog 40 #[.slice a 0 c, .slice a' 0 c'] w fun e w' => e = .returned (.bool true) ∧ Below w.heap.size w w' := by
  go_enter Try.func40, Try.ntmps40
  go_wp2_with (fail)
  go_loopw [5] (fun y wx => y = .int .i64 0 ∧ wx = w) (fun _ _ => 0)
  case atStart => exact ⟨rfl, rfl⟩
  case round =>
    obtain ⟨rfl, rfl⟩ := hrel
    go_wp2_with (fail)
    go_ret
    exact ⟨rfl, Below.refl _ _⟩
set_option maxRecDepth 100000 in
set_option maxHeartbeats 8000000 in
theorem markLine0 (a : Option Addr) (c : Nat) (k : Int) (w : World) : Calls Try.prog 43 #[.slice a 0 c, .int .i64 k] w fun e w' => e = .returned (.int .i64 k) ∧ Below w.heap.size w w' := by
  go_enter Try.func43, Try.ntmps43
  go_wp2_with (fail)
  go_loopw [1, 5] (fun z y wx => z = .int .i64 k ∧ y = .int .i64 0 ∧ wx = w) (fun _ _ _ => 0)
  case atStart => exact ⟨rfl, rfl, rfl⟩
  case round =>
    obtain ⟨rfl, rfl, rfl⟩ := hrel
    go_wp2_with (fail)
    go_ret
    exact ⟨rfl, Below.refl _ _⟩
set_option maxRecDepth 100000 in
set_option maxHeartbeats 8000000 in
theorem heldLine0 (a : Option Addr) (c : Nat) (k : Int) (w : World) : Calls Try.prog 46 #[.slice a 0 c, .int .i64 k] w fun e w' => e = .returned (.int .i64 k) ∧ Below w.heap.size w w' := by
  go_enter Try.func46, Try.ntmps46
  go_wp2_with (fail)
  go_loopw [1, 5] (fun z y wx => z = .int .i64 k ∧ y = .int .i64 0 ∧ wx = w) (fun _ _ _ => 0)
  case atStart => exact ⟨rfl, rfl, rfl⟩
  case round =>
    obtain ⟨rfl, rfl, rfl⟩ := hrel
    go_wp2_with (fail)
    go_ret
    exact ⟨rfl, Below.refl _ _⟩
set_option maxRecDepth 100000 in
set_option maxHeartbeats 8000000 in
theorem eqReplica0 (ea ma eb mb : Option Addr) (eac mac ebc mbc : Nat) (w : World) : Calls Try.prog 28 #[.agg #[.slice ea 0 eac, .slice ma 0 mac], .agg #[.slice eb 0 ebc, .slice mb 0 mbc]] w fun e w' => e = .returned (.bool true) ∧ Below w.heap.size w w' := by
  have C1 := hidIt (fun W => eqEntry0 ea eb eac ebc W)
  have C2 := hidIt (fun W => eqMember0 ma mb mac mbc W)
  have BX := hidIt ((Bo.Box.new w #[.slice ea 0 eac, .slice ma 0 mac] 36).alloc (.cells #[.slice eb 0 ebc, .slice mb 0 mbc] 36))
  have BY := hidIt (Bo.Box.newAt (w := w.alloc (.cells #[.slice ea 0 eac, .slice ma 0 mac] 36)) (c := #[.slice eb 0 ebc, .slice mb 0 mbc]) (T := 36) (k := w.heap.size + 1) (by simp))
  have HB := hidIt (((Below.refl w.heap.size w).alloc (Nat.le_refl _) (.cells #[.slice ea 0 eac, .slice ma 0 mac] 36)).alloc (by simp) (.cells #[.slice eb 0 ebc, .slice mb 0 mbc] 36))
  have d0 := BX.out.c 0 rfl
  have f0 := BY.out.c 0 rfl
  go_enter Try.func28, Try.ntmps28
  go_wp2_with (fail)
  generalize (w.alloc (.cells #[.slice ea 0 eac, .slice ma 0 mac] 36)).alloc (.cells #[.slice eb 0 ebc, .slice mb 0 mbc] 36) = W0 at BX BY HB d0 f0 ⊢
  refine (C1.out _).mono ?_
  rintro en w1 ⟨rfl, k1⟩
  replace HB := hidIt (on HB.out k1)
  replace BX := hidIt (BX.out.kept k1)
  replace BY := hidIt (BY.out.kept k1)
  clear k1 d0 f0
  have d1 := BX.out.c 1 rfl
  have f1 := BY.out.c 1 rfl
  go_wp2_with (fail)
  refine (C2.out _).mono ?_
  rintro en w2 ⟨rfl, k1⟩
  replace HB := hidIt (on HB.out k1)
  replace BX := hidIt (BX.out.kept k1)
  replace BY := hidIt (BY.out.kept k1)
  clear k1 d1 f1
  go_wp2_with (fail)
  go_ret
  exact ⟨rfl, HB.out⟩
set_option maxRecDepth 100000 in
set_option maxHeartbeats 8000000 in
theorem markReplica0 (ea ma : Option Addr) (eac mac : Nat) (k : Int) (hk : ¬ k < 0) (w : World) : Calls Try.prog 41 #[.agg #[.slice ea 0 eac, .slice ma 0 mac], .int .i64 k] w fun e w' => e = .returned (.int .i64 k) ∧ Below w.heap.size w w' := by
  have C1 := hidIt (fun W => markEntry0 ea eac k W)
  have C2 := hidIt (fun W => markMember0 ma mac k W)
  have BX := hidIt (Bo.Box.new w #[.slice ea 0 eac, .slice ma 0 mac] 36)
  have HB := hidIt ((Below.refl w.heap.size w).alloc (Nat.le_refl _) (.cells #[.slice ea 0 eac, .slice ma 0 mac] 36))
  have d0 := BX.out.c 0 rfl
  go_enter Try.func41, Try.ntmps41
  go_wp2_with (fail)
  generalize w.alloc (.cells #[.slice ea 0 eac, .slice ma 0 mac] 36) = W0 at BX HB d0 ⊢
  refine (C1.out _).mono ?_
  rintro en w1 ⟨rfl, k1⟩
  replace HB := hidIt (on HB.out k1)
  replace BX := hidIt (BX.out.kept k1)
  clear k1 d0
  have d1 := BX.out.c 1 rfl
  go_wp2_with (fail)
  refine (C2.out _).mono ?_
  rintro en w2 ⟨rfl, k1⟩
  replace HB := hidIt (on HB.out k1)
  replace BX := hidIt (BX.out.kept k1)
  clear k1 d1
  go_wp2_with (fail)
  go_ret
  exact ⟨rfl, HB.out⟩
set_option maxRecDepth 100000 in
set_option maxHeartbeats 8000000 in
theorem heldReplica0 (ea ma : Option Addr) (eac mac : Nat) (k : Int) (hk : ¬ k < 0) (w : World) : Calls Try.prog 44 #[.agg #[.slice ea 0 eac, .slice ma 0 mac], .int .i64 k] w fun e w' => e = .returned (.int .i64 k) ∧ Below w.heap.size w w' := by
  have C1 := hidIt (fun W => heldEntry0 ea eac k W)
  have C2 := hidIt (fun W => heldMember0 ma mac k W)
  have BX := hidIt (Bo.Box.new w #[.slice ea 0 eac, .slice ma 0 mac] 36)
  have HB := hidIt ((Below.refl w.heap.size w).alloc (Nat.le_refl _) (.cells #[.slice ea 0 eac, .slice ma 0 mac] 36))
  have d0 := BX.out.c 0 rfl
  go_enter Try.func44, Try.ntmps44
  go_wp2_with (fail)
  generalize w.alloc (.cells #[.slice ea 0 eac, .slice ma 0 mac] 36) = W0 at BX HB d0 ⊢
  refine (C1.out _).mono ?_
  rintro en w1 ⟨rfl, k1⟩
  replace HB := hidIt (on HB.out k1)
  replace BX := hidIt (BX.out.kept k1)
  clear k1 d0
  have d1 := BX.out.c 1 rfl
  go_wp2_with (fail)
  refine (C2.out _).mono ?_
  rintro en w2 ⟨rfl, k1⟩
  replace HB := hidIt (on HB.out k1)
  replace BX := hidIt (BX.out.kept k1)
  clear k1 d1
  go_wp2_with (fail)
  go_ret
  exact ⟨rfl, HB.out⟩
set_option maxRecDepth 100000 in
set_option maxHeartbeats 8000000 in
theorem eqNode0 (p m o n a : Int) (s : ByteArray) (ea ma ba ga eb mb bb gb : Option Addr) (eac mac bac gac ebc mbc bbc gbc : Nat) (w : World) : Calls Try.prog 17 #[.agg #[.slice ea 0 eac, .slice ma 0 mac, .int .i64 p, .int .i64 m, .int .i64 o, .int .i64 n, .int .i64 a, .slice ba 0 bac, .slice ga 0 gac, .string s], .agg #[.slice eb 0 ebc, .slice mb 0 mbc, .int .i64 p, .int .i64 m, .int .i64 o, .int .i64 n, .int .i64 a, .slice bb 0 bbc, .slice gb 0 gbc, .string s]] w fun e w' => e = .returned (.bool true) ∧ Below w.heap.size w w' := by
  have C1 := hidIt (fun W => eqReplica0 ea ma eb mb eac mac ebc mbc W)
  have C2 := hidIt (fun W => Ro.eqRoll_same p m o n a W)
  have C3 := hidIt (fun W => eqBucket0 ba bb bac bbc W)
  have C4 := hidIt (fun W => eqLine0 ga gb gac gbc W)
  have hap : (s.toList == s.toList) = true := by simp
  have BX := hidIt ((Bo.Box.new w #[.slice ea 0 eac, .slice ma 0 mac, .int .i64 p, .int .i64 m, .int .i64 o, .int .i64 n, .int .i64 a, .slice ba 0 bac, .slice ga 0 gac, .string s] 42).alloc (.cells #[.slice eb 0 ebc, .slice mb 0 mbc, .int .i64 p, .int .i64 m, .int .i64 o, .int .i64 n, .int .i64 a, .slice bb 0 bbc, .slice gb 0 gbc, .string s] 42))
  have BY := hidIt (Bo.Box.newAt (w := w.alloc (.cells #[.slice ea 0 eac, .slice ma 0 mac, .int .i64 p, .int .i64 m, .int .i64 o, .int .i64 n, .int .i64 a, .slice ba 0 bac, .slice ga 0 gac, .string s] 42)) (c := #[.slice eb 0 ebc, .slice mb 0 mbc, .int .i64 p, .int .i64 m, .int .i64 o, .int .i64 n, .int .i64 a, .slice bb 0 bbc, .slice gb 0 gbc, .string s]) (T := 42) (k := w.heap.size + 1) (by simp))
  have HB := hidIt (((Below.refl w.heap.size w).alloc (Nat.le_refl _) (.cells #[.slice ea 0 eac, .slice ma 0 mac, .int .i64 p, .int .i64 m, .int .i64 o, .int .i64 n, .int .i64 a, .slice ba 0 bac, .slice ga 0 gac, .string s] 42)).alloc (by simp) (.cells #[.slice eb 0 ebc, .slice mb 0 mbc, .int .i64 p, .int .i64 m, .int .i64 o, .int .i64 n, .int .i64 a, .slice bb 0 bbc, .slice gb 0 gbc, .string s] 42))
  have d0 := BX.out.c 0 rfl
  have d1 := BX.out.c 1 rfl
  have f0 := BY.out.c 0 rfl
  have f1 := BY.out.c 1 rfl
  go_enter Try.func17, Try.ntmps17
  go_wp2_with (fail)
  generalize (w.alloc (.cells #[.slice ea 0 eac, .slice ma 0 mac, .int .i64 p, .int .i64 m, .int .i64 o, .int .i64 n, .int .i64 a, .slice ba 0 bac, .slice ga 0 gac, .string s] 42)).alloc (.cells #[.slice eb 0 ebc, .slice mb 0 mbc, .int .i64 p, .int .i64 m, .int .i64 o, .int .i64 n, .int .i64 a, .slice bb 0 bbc, .slice gb 0 gbc, .string s] 42) = W0 at BX BY HB d0 f0 d1 f1 ⊢
  refine (C1.out _).mono ?_
  rintro en w1 ⟨rfl, k1⟩
  replace HB := hidIt (on HB.out k1)
  replace BX := hidIt (BX.out.kept k1)
  replace BY := hidIt (BY.out.kept k1)
  clear k1 d0 f0 d1 f1
  have d2 := BX.out.c 2 rfl
  have d3 := BX.out.c 3 rfl
  have d4 := BX.out.c 4 rfl
  have d5 := BX.out.c 5 rfl
  have d6 := BX.out.c 6 rfl
  have f2 := BY.out.c 2 rfl
  have f3 := BY.out.c 3 rfl
  have f4 := BY.out.c 4 rfl
  have f5 := BY.out.c 5 rfl
  have f6 := BY.out.c 6 rfl
  go_wp2_with (fail)
  refine (C2.out _).mono ?_
  rintro en w2 ⟨rfl, k1⟩
  replace HB := hidIt (on HB.out k1)
  replace BX := hidIt (BX.out.kept k1)
  replace BY := hidIt (BY.out.kept k1)
  clear k1 d2 f2 d3 f3 d4 f4 d5 f5 d6 f6
  have d7 := BX.out.c 7 rfl
  have f7 := BY.out.c 7 rfl
  go_wp2_with (fail)
  refine (C3.out _).mono ?_
  rintro en w3 ⟨rfl, k1⟩
  replace HB := hidIt (on HB.out k1)
  replace BX := hidIt (BX.out.kept k1)
  replace BY := hidIt (BY.out.kept k1)
  clear k1 d7 f7
  have d8 := BX.out.c 8 rfl
  have f8 := BY.out.c 8 rfl
  go_wp2_with (fail)
  refine (C4.out _).mono ?_
  rintro en w4 ⟨rfl, k1⟩
  replace HB := hidIt (on HB.out k1)
  replace BX := hidIt (BX.out.kept k1)
  replace BY := hidIt (BY.out.kept k1)
  clear k1 d8 f8
  have d9 := BX.out.c 9 rfl
  have f9 := BY.out.c 9 rfl
  go_wp2_with (fail)
  go_ret
  exact ⟨rfl, HB.out⟩
set_option maxRecDepth 100000 in
set_option maxHeartbeats 8000000 in
theorem markNode0 (p m o n a : Int) (s : ByteArray) (ea ma ba ga : Option Addr) (eac mac bac gac : Nat) (k : Int) (hk : ¬ k < 0) (w : World) : Calls Try.prog 18 #[.agg #[.slice ea 0 eac, .slice ma 0 mac, .int .i64 p, .int .i64 m, .int .i64 o, .int .i64 n, .int .i64 a, .slice ba 0 bac, .slice ga 0 gac, .string s], .int .i64 k] w fun e w' => e = .returned (.int .i64 k) ∧ Below w.heap.size w w' := by
  have C1 := hidIt (fun W => markReplica0 ea ma eac mac k hk W)
  have C2 := hidIt (fun W => markBucket0 ba bac k W)
  have C3 := hidIt (fun W => markLine0 ga gac k W)
  have BX := hidIt (Bo.Box.new w #[.slice ea 0 eac, .slice ma 0 mac, .int .i64 p, .int .i64 m, .int .i64 o, .int .i64 n, .int .i64 a, .slice ba 0 bac, .slice ga 0 gac, .string s] 42)
  have HB := hidIt ((Below.refl w.heap.size w).alloc (Nat.le_refl _) (.cells #[.slice ea 0 eac, .slice ma 0 mac, .int .i64 p, .int .i64 m, .int .i64 o, .int .i64 n, .int .i64 a, .slice ba 0 bac, .slice ga 0 gac, .string s] 42))
  have d0 := BX.out.c 0 rfl
  have d1 := BX.out.c 1 rfl
  go_enter Try.func18, Try.ntmps18
  go_wp2_with (fail)
  generalize w.alloc (.cells #[.slice ea 0 eac, .slice ma 0 mac, .int .i64 p, .int .i64 m, .int .i64 o, .int .i64 n, .int .i64 a, .slice ba 0 bac, .slice ga 0 gac, .string s] 42) = W0 at BX HB d0 d1 ⊢
  refine (C1.out _).mono ?_
  rintro en w1 ⟨rfl, k1⟩
  replace HB := hidIt (on HB.out k1)
  replace BX := hidIt (BX.out.kept k1)
  clear k1 d0 d1
  have d7 := BX.out.c 7 rfl
  go_wp2_with (fail)
  refine (C2.out _).mono ?_
  rintro en w2 ⟨rfl, k1⟩
  replace HB := hidIt (on HB.out k1)
  replace BX := hidIt (BX.out.kept k1)
  clear k1 d7
  have d8 := BX.out.c 8 rfl
  go_wp2_with (fail)
  refine (C3.out _).mono ?_
  rintro en w3 ⟨rfl, k1⟩
  replace HB := hidIt (on HB.out k1)
  replace BX := hidIt (BX.out.kept k1)
  clear k1 d8
  go_wp2_with (fail)
  go_ret
  exact ⟨rfl, HB.out⟩
set_option maxRecDepth 100000 in
set_option maxHeartbeats 8000000 in
theorem heldNode0 (p m o n a : Int) (s : ByteArray) (ea ma ba ga : Option Addr) (eac mac bac gac : Nat) (k : Int) (hk : ¬ k < 0) (w : World) : Calls Try.prog 19 #[.agg #[.slice ea 0 eac, .slice ma 0 mac, .int .i64 p, .int .i64 m, .int .i64 o, .int .i64 n, .int .i64 a, .slice ba 0 bac, .slice ga 0 gac, .string s], .int .i64 k] w fun e w' => e = .returned (.int .i64 k) ∧ Below w.heap.size w w' := by
  have C1 := hidIt (fun W => heldReplica0 ea ma eac mac k hk W)
  have C2 := hidIt (fun W => heldBucket0 ba bac k W)
  have C3 := hidIt (fun W => heldLine0 ga gac k W)
  have BX := hidIt (Bo.Box.new w #[.slice ea 0 eac, .slice ma 0 mac, .int .i64 p, .int .i64 m, .int .i64 o, .int .i64 n, .int .i64 a, .slice ba 0 bac, .slice ga 0 gac, .string s] 42)
  have HB := hidIt ((Below.refl w.heap.size w).alloc (Nat.le_refl _) (.cells #[.slice ea 0 eac, .slice ma 0 mac, .int .i64 p, .int .i64 m, .int .i64 o, .int .i64 n, .int .i64 a, .slice ba 0 bac, .slice ga 0 gac, .string s] 42))
  have d0 := BX.out.c 0 rfl
  have d1 := BX.out.c 1 rfl
  go_enter Try.func19, Try.ntmps19
  go_wp2_with (fail)
  generalize w.alloc (.cells #[.slice ea 0 eac, .slice ma 0 mac, .int .i64 p, .int .i64 m, .int .i64 o, .int .i64 n, .int .i64 a, .slice ba 0 bac, .slice ga 0 gac, .string s] 42) = W0 at BX HB d0 d1 ⊢
  refine (C1.out _).mono ?_
  rintro en w1 ⟨rfl, k1⟩
  replace HB := hidIt (on HB.out k1)
  replace BX := hidIt (BX.out.kept k1)
  clear k1 d0 d1
  have d7 := BX.out.c 7 rfl
  go_wp2_with (fail)
  refine (C2.out _).mono ?_
  rintro en w2 ⟨rfl, k1⟩
  replace HB := hidIt (on HB.out k1)
  replace BX := hidIt (BX.out.kept k1)
  clear k1 d7
  have d8 := BX.out.c 8 rfl
  go_wp2_with (fail)
  refine (C3.out _).mono ?_
  rintro en w3 ⟨rfl, k1⟩
  replace HB := hidIt (on HB.out k1)
  replace BX := hidIt (BX.out.kept k1)
  clear k1 d8
  go_wp2_with (fail)
  go_ret
  exact ⟨rfl, HB.out⟩
/-- A new Node in plain words: a Roll and an apex. -/
def newN (s : ByteArray) (m o : Int) : (Ro.R5 × ByteArray) × Bool := if ((Ro.newR m o 0).2 && Nd.apexB s) = true then (((Ro.newR m o 0).1, s), true) else (((0, 0, 0, 0, 0), ⟨#[]⟩), false)
/-- What NewNode answers: a Node of empty lists. -/
def NewP (x : (Ro.R5 × ByteArray) × Bool) (w : World) (en : Ending) (w' : World) : Prop := ∃ (ea ma ba ga : Option Addr) (eac mac bac gac : Nat), en = .returned (.tuple #[.agg #[.slice ea 0 eac, .slice ma 0 mac, .int .i64 x.1.1.1, .int .i64 x.1.1.2.1, .int .i64 x.1.1.2.2.1, .int .i64 x.1.1.2.2.2.1, .int .i64 x.1.1.2.2.2.2, .slice ba 0 bac, .slice ga 0 gac, .string x.1.2], .bool x.2]) ∧ Below w.heap.size w w'
theorem NewP.of {x : (Ro.R5 × ByteArray) × Bool} {w w' : World} {en : Ending} (h : en = .returned (.tuple #[.agg #[.slice none 0 0, .slice none 0 0, .int .i64 x.1.1.1, .int .i64 x.1.1.2.1, .int .i64 x.1.1.2.2.1, .int .i64 x.1.1.2.2.2.1, .int .i64 x.1.1.2.2.2.2, .slice none 0 0, .slice none 0 0, .string x.1.2], .bool x.2])) (k : Below w.heap.size w w') : NewP x w en w' := ⟨none, none, none, none, 0, 0, 0, 0, h, k⟩
set_option maxRecDepth 100000 in
set_option maxHeartbeats 8000000 in
theorem spec_NewNode (s : ByteArray) (m o : Int) (w : World) : Calls Try.prog 15 #[.string s, .int .i64 m, .int .i64 o] w fun en w' => NewP (newN s m o) w en w' := by
  have C1 := hidIt (fun W => Ro.spec_NewRoll m o 0 W)
  have C2 := hidIt (fun W => Nd.spec_l17Apex s W)
  have N1 : Hid (((Ro.newR m o 0).2 && Nd.apexB s) = false → newN s m o = (((0, 0, 0, 0, 0), ⟨#[]⟩), false)) := hidIt (fun h => by unfold newN; rw [h]; rfl)
  have N2 : Hid (((Ro.newR m o 0).2 && Nd.apexB s) = true → newN s m o = (((Ro.newR m o 0).1, s), true)) := hidIt (fun h => by unfold newN; rw [h]; rfl)
  generalize newN s m o = r at N1 N2 ⊢
  generalize (Ro.newR m o 0).1 = ro at C1 N2
  generalize (Ro.newR m o 0).2 = k1 at C1 N1 N2
  generalize Nd.apexB s = k2 at C2 N1 N2
  obtain ⟨q0, q1, q2, q3, q4⟩ := ro
  simp only [Ro.rvt, Ro.rv] at C1
  have BR := hidIt (Bo.Box.new w #[.slice none 0 0, .slice none 0 0, .int .i64 0, .int .i64 0, .int .i64 0, .int .i64 0, .int .i64 0, .slice none 0 0, .slice none 0 0, .string ⟨#[]⟩] 42)
  have HB := hidIt ((Below.refl w.heap.size w).alloc (Nat.le_refl _) (.cells #[.slice none 0 0, .slice none 0 0, .int .i64 0, .int .i64 0, .int .i64 0, .int .i64 0, .int .i64 0, .slice none 0 0, .slice none 0 0, .string ⟨#[]⟩] 42))
  go_enter Try.func15, Try.ntmps15
  go_wp2_with (fail)
  generalize w.alloc (.cells #[.slice none 0 0, .slice none 0 0, .int .i64 0, .int .i64 0, .int .i64 0, .int .i64 0, .int .i64 0, .slice none 0 0, .slice none 0 0, .string ⟨#[]⟩] 42) = W0 at BR HB ⊢
  refine (C1.out _).mono ?_
  rintro en w1 ⟨rfl, k⟩
  replace BR := hidIt (BR.out.kept k)
  replace HB := hidIt (on HB.out k)
  clear k
  have BO := hidIt (Bo.Box.new w1 #[.int .i64 q0, .int .i64 q1, .int .i64 q2, .int .i64 q3, .int .i64 q4] 38)
  have kA := (Below.refl w1.heap.size w1).alloc (Nat.le_refl _) (.cells #[.int .i64 q0, .int .i64 q1, .int .i64 q2, .int .i64 q3, .int .i64 q4] 38)
  replace BR := hidIt (BR.out.kept kA)
  replace HB := hidIt (on HB.out kA)
  clear kA
  cases k1 with
  | false =>
    have er := N1.out rfl
    subst er
    clear N1 N2
    have c0 := BR.out.c 0 (v := .slice none 0 0) rfl
    have c1 := BR.out.c 1 (v := .slice none 0 0) rfl
    have c2 := BR.out.c 2 (v := .int .i64 0) rfl
    have c3 := BR.out.c 3 (v := .int .i64 0) rfl
    have c4 := BR.out.c 4 (v := .int .i64 0) rfl
    have c5 := BR.out.c 5 (v := .int .i64 0) rfl
    have c6 := BR.out.c 6 (v := .int .i64 0) rfl
    have c7 := BR.out.c 7 (v := .slice none 0 0) rfl
    have c8 := BR.out.c 8 (v := .slice none 0 0) rfl
    have c9 := BR.out.c 9 (v := .string ⟨#[]⟩) rfl
    have z0 := BR.out.fr 0
    have z1 := BR.out.fr 1
    have z2 := BR.out.fr 2
    have z3 := BR.out.fr 3
    have z4 := BR.out.fr 4
    have z5 := BR.out.fr 5
    have z6 := BR.out.fr 6
    have z7 := BR.out.fr 7
    have z8 := BR.out.fr 8
    have z9 := BR.out.fr 9
    have RZ := hidIt (((((((((((BR.out).put (c' := #[.slice none 0 0, .slice none 0 0, .int .i64 0, .int .i64 0, .int .i64 0, .int .i64 0, .int .i64 0, .slice none 0 0, .slice none 0 0, .string ⟨#[]⟩]) 0 (.slice none 0 0) (by simp) rfl).put (c' := #[.slice none 0 0, .slice none 0 0, .int .i64 0, .int .i64 0, .int .i64 0, .int .i64 0, .int .i64 0, .slice none 0 0, .slice none 0 0, .string ⟨#[]⟩]) 1 (.slice none 0 0) (by simp) rfl).put (c' := #[.slice none 0 0, .slice none 0 0, .int .i64 0, .int .i64 0, .int .i64 0, .int .i64 0, .int .i64 0, .slice none 0 0, .slice none 0 0, .string ⟨#[]⟩]) 2 (.int .i64 0) (by simp) rfl).put (c' := #[.slice none 0 0, .slice none 0 0, .int .i64 0, .int .i64 0, .int .i64 0, .int .i64 0, .int .i64 0, .slice none 0 0, .slice none 0 0, .string ⟨#[]⟩]) 3 (.int .i64 0) (by simp) rfl).put (c' := #[.slice none 0 0, .slice none 0 0, .int .i64 0, .int .i64 0, .int .i64 0, .int .i64 0, .int .i64 0, .slice none 0 0, .slice none 0 0, .string ⟨#[]⟩]) 4 (.int .i64 0) (by simp) rfl).put (c' := #[.slice none 0 0, .slice none 0 0, .int .i64 0, .int .i64 0, .int .i64 0, .int .i64 0, .int .i64 0, .slice none 0 0, .slice none 0 0, .string ⟨#[]⟩]) 5 (.int .i64 0) (by simp) rfl).put (c' := #[.slice none 0 0, .slice none 0 0, .int .i64 0, .int .i64 0, .int .i64 0, .int .i64 0, .int .i64 0, .slice none 0 0, .slice none 0 0, .string ⟨#[]⟩]) 6 (.int .i64 0) (by simp) rfl).put (c' := #[.slice none 0 0, .slice none 0 0, .int .i64 0, .int .i64 0, .int .i64 0, .int .i64 0, .int .i64 0, .slice none 0 0, .slice none 0 0, .string ⟨#[]⟩]) 7 (.slice none 0 0) (by simp) rfl).put (c' := #[.slice none 0 0, .slice none 0 0, .int .i64 0, .int .i64 0, .int .i64 0, .int .i64 0, .int .i64 0, .slice none 0 0, .slice none 0 0, .string ⟨#[]⟩]) 8 (.slice none 0 0) (by simp) rfl).put (c' := #[.slice none 0 0, .slice none 0 0, .int .i64 0, .int .i64 0, .int .i64 0, .int .i64 0, .int .i64 0, .slice none 0 0, .slice none 0 0, .string ⟨#[]⟩]) 9 (.string ⟨#[]⟩) (by simp) rfl)
    have HZ := hidIt (((((((((((HB.out).setCell (p := ⟨w.heap.size, 0, none⟩) (Nat.le_refl _) (.slice none 0 0)).setCell (p := ⟨w.heap.size, 1, none⟩) (Nat.le_refl _) (.slice none 0 0)).setCell (p := ⟨w.heap.size, 2, none⟩) (Nat.le_refl _) (.int .i64 0)).setCell (p := ⟨w.heap.size, 3, none⟩) (Nat.le_refl _) (.int .i64 0)).setCell (p := ⟨w.heap.size, 4, none⟩) (Nat.le_refl _) (.int .i64 0)).setCell (p := ⟨w.heap.size, 5, none⟩) (Nat.le_refl _) (.int .i64 0)).setCell (p := ⟨w.heap.size, 6, none⟩) (Nat.le_refl _) (.int .i64 0)).setCell (p := ⟨w.heap.size, 7, none⟩) (Nat.le_refl _) (.slice none 0 0)).setCell (p := ⟨w.heap.size, 8, none⟩) (Nat.le_refl _) (.slice none 0 0)).setCell (p := ⟨w.heap.size, 9, none⟩) (Nat.le_refl _) (.string ⟨#[]⟩))
    clear BR HB
    go_wp2_with (fail)
    generalize ((((((((((w1.alloc (.cells #[.int .i64 q0, .int .i64 q1, .int .i64 q2, .int .i64 q3, .int .i64 q4] 38)).setCell ⟨w.heap.size, 0, none⟩ (.slice none 0 0)).setCell ⟨w.heap.size, 1, none⟩ (.slice none 0 0)).setCell ⟨w.heap.size, 2, none⟩ (.int .i64 0)).setCell ⟨w.heap.size, 3, none⟩ (.int .i64 0)).setCell ⟨w.heap.size, 4, none⟩ (.int .i64 0)).setCell ⟨w.heap.size, 5, none⟩ (.int .i64 0)).setCell ⟨w.heap.size, 6, none⟩ (.int .i64 0)).setCell ⟨w.heap.size, 7, none⟩ (.slice none 0 0)).setCell ⟨w.heap.size, 8, none⟩ (.slice none 0 0)).setCell ⟨w.heap.size, 9, none⟩ (.string ⟨#[]⟩) = wz at RZ HZ ⊢
    clear c0 z0 c1 z1 c2 z2 c3 z3 c4 z4 c5 z5 c6 z6 c7 z7 c8 z8 c9 z9
    have q0c := RZ.out.c 0 (v := .slice none 0 0) rfl
    have q1c := RZ.out.c 1 (v := .slice none 0 0) rfl
    have q2c := RZ.out.c 2 (v := .int .i64 0) rfl
    have q3c := RZ.out.c 3 (v := .int .i64 0) rfl
    have q4c := RZ.out.c 4 (v := .int .i64 0) rfl
    have q5c := RZ.out.c 5 (v := .int .i64 0) rfl
    have q6c := RZ.out.c 6 (v := .int .i64 0) rfl
    have q7c := RZ.out.c 7 (v := .slice none 0 0) rfl
    have q8c := RZ.out.c 8 (v := .slice none 0 0) rfl
    have q9c := RZ.out.c 9 (v := .string ⟨#[]⟩) rfl
    refine bodyPost_ret (v := .tuple #[.agg #[.slice none 0 0, .slice none 0 0, .int .i64 0, .int .i64 0, .int .i64 0, .int .i64 0, .int .i64 0, .slice none 0 0, .slice none 0 0, .string ⟨#[]⟩], .bool false]) (by simp [results, Try.results15, go_sem, q0c, q1c, q2c, q3c, q4c, q5c, q6c, q7c, q8c, q9c]) rfl ?_
    exact NewP.of rfl HZ.out
  | true =>
    go_wp2_with (fail)
    generalize w1.alloc (.cells #[.int .i64 q0, .int .i64 q1, .int .i64 q2, .int .i64 q3, .int .i64 q4] 38) = w3 at BR HB BO ⊢
    refine (C2.out _).mono ?_
    rintro en w2 ⟨rfl, k⟩
    replace BR := hidIt (BR.out.kept k)
    replace BO := hidIt (BO.out.kept k)
    replace HB := hidIt (on HB.out k)
    clear k
    cases k2 with
    | false =>
      have er := N1.out rfl
      subst er
      clear N1 N2
      have c0 := BR.out.c 0 (v := .slice none 0 0) rfl
      have c1 := BR.out.c 1 (v := .slice none 0 0) rfl
      have c2 := BR.out.c 2 (v := .int .i64 0) rfl
      have c3 := BR.out.c 3 (v := .int .i64 0) rfl
      have c4 := BR.out.c 4 (v := .int .i64 0) rfl
      have c5 := BR.out.c 5 (v := .int .i64 0) rfl
      have c6 := BR.out.c 6 (v := .int .i64 0) rfl
      have c7 := BR.out.c 7 (v := .slice none 0 0) rfl
      have c8 := BR.out.c 8 (v := .slice none 0 0) rfl
      have c9 := BR.out.c 9 (v := .string ⟨#[]⟩) rfl
      have z0 := BR.out.fr 0
      have z1 := BR.out.fr 1
      have z2 := BR.out.fr 2
      have z3 := BR.out.fr 3
      have z4 := BR.out.fr 4
      have z5 := BR.out.fr 5
      have z6 := BR.out.fr 6
      have z7 := BR.out.fr 7
      have z8 := BR.out.fr 8
      have z9 := BR.out.fr 9
      have RZ := hidIt (((((((((((BR.out).put (c' := #[.slice none 0 0, .slice none 0 0, .int .i64 0, .int .i64 0, .int .i64 0, .int .i64 0, .int .i64 0, .slice none 0 0, .slice none 0 0, .string ⟨#[]⟩]) 0 (.slice none 0 0) (by simp) rfl).put (c' := #[.slice none 0 0, .slice none 0 0, .int .i64 0, .int .i64 0, .int .i64 0, .int .i64 0, .int .i64 0, .slice none 0 0, .slice none 0 0, .string ⟨#[]⟩]) 1 (.slice none 0 0) (by simp) rfl).put (c' := #[.slice none 0 0, .slice none 0 0, .int .i64 0, .int .i64 0, .int .i64 0, .int .i64 0, .int .i64 0, .slice none 0 0, .slice none 0 0, .string ⟨#[]⟩]) 2 (.int .i64 0) (by simp) rfl).put (c' := #[.slice none 0 0, .slice none 0 0, .int .i64 0, .int .i64 0, .int .i64 0, .int .i64 0, .int .i64 0, .slice none 0 0, .slice none 0 0, .string ⟨#[]⟩]) 3 (.int .i64 0) (by simp) rfl).put (c' := #[.slice none 0 0, .slice none 0 0, .int .i64 0, .int .i64 0, .int .i64 0, .int .i64 0, .int .i64 0, .slice none 0 0, .slice none 0 0, .string ⟨#[]⟩]) 4 (.int .i64 0) (by simp) rfl).put (c' := #[.slice none 0 0, .slice none 0 0, .int .i64 0, .int .i64 0, .int .i64 0, .int .i64 0, .int .i64 0, .slice none 0 0, .slice none 0 0, .string ⟨#[]⟩]) 5 (.int .i64 0) (by simp) rfl).put (c' := #[.slice none 0 0, .slice none 0 0, .int .i64 0, .int .i64 0, .int .i64 0, .int .i64 0, .int .i64 0, .slice none 0 0, .slice none 0 0, .string ⟨#[]⟩]) 6 (.int .i64 0) (by simp) rfl).put (c' := #[.slice none 0 0, .slice none 0 0, .int .i64 0, .int .i64 0, .int .i64 0, .int .i64 0, .int .i64 0, .slice none 0 0, .slice none 0 0, .string ⟨#[]⟩]) 7 (.slice none 0 0) (by simp) rfl).put (c' := #[.slice none 0 0, .slice none 0 0, .int .i64 0, .int .i64 0, .int .i64 0, .int .i64 0, .int .i64 0, .slice none 0 0, .slice none 0 0, .string ⟨#[]⟩]) 8 (.slice none 0 0) (by simp) rfl).put (c' := #[.slice none 0 0, .slice none 0 0, .int .i64 0, .int .i64 0, .int .i64 0, .int .i64 0, .int .i64 0, .slice none 0 0, .slice none 0 0, .string ⟨#[]⟩]) 9 (.string ⟨#[]⟩) (by simp) rfl)
      have HZ := hidIt (((((((((((HB.out).setCell (p := ⟨w.heap.size, 0, none⟩) (Nat.le_refl _) (.slice none 0 0)).setCell (p := ⟨w.heap.size, 1, none⟩) (Nat.le_refl _) (.slice none 0 0)).setCell (p := ⟨w.heap.size, 2, none⟩) (Nat.le_refl _) (.int .i64 0)).setCell (p := ⟨w.heap.size, 3, none⟩) (Nat.le_refl _) (.int .i64 0)).setCell (p := ⟨w.heap.size, 4, none⟩) (Nat.le_refl _) (.int .i64 0)).setCell (p := ⟨w.heap.size, 5, none⟩) (Nat.le_refl _) (.int .i64 0)).setCell (p := ⟨w.heap.size, 6, none⟩) (Nat.le_refl _) (.int .i64 0)).setCell (p := ⟨w.heap.size, 7, none⟩) (Nat.le_refl _) (.slice none 0 0)).setCell (p := ⟨w.heap.size, 8, none⟩) (Nat.le_refl _) (.slice none 0 0)).setCell (p := ⟨w.heap.size, 9, none⟩) (Nat.le_refl _) (.string ⟨#[]⟩))
      clear BR HB
      go_wp2_with (fail)
      generalize ((((((((((w2).setCell ⟨w.heap.size, 0, none⟩ (.slice none 0 0)).setCell ⟨w.heap.size, 1, none⟩ (.slice none 0 0)).setCell ⟨w.heap.size, 2, none⟩ (.int .i64 0)).setCell ⟨w.heap.size, 3, none⟩ (.int .i64 0)).setCell ⟨w.heap.size, 4, none⟩ (.int .i64 0)).setCell ⟨w.heap.size, 5, none⟩ (.int .i64 0)).setCell ⟨w.heap.size, 6, none⟩ (.int .i64 0)).setCell ⟨w.heap.size, 7, none⟩ (.slice none 0 0)).setCell ⟨w.heap.size, 8, none⟩ (.slice none 0 0)).setCell ⟨w.heap.size, 9, none⟩ (.string ⟨#[]⟩) = wz at RZ HZ ⊢
      clear c0 z0 c1 z1 c2 z2 c3 z3 c4 z4 c5 z5 c6 z6 c7 z7 c8 z8 c9 z9
      have q0c := RZ.out.c 0 (v := .slice none 0 0) rfl
      have q1c := RZ.out.c 1 (v := .slice none 0 0) rfl
      have q2c := RZ.out.c 2 (v := .int .i64 0) rfl
      have q3c := RZ.out.c 3 (v := .int .i64 0) rfl
      have q4c := RZ.out.c 4 (v := .int .i64 0) rfl
      have q5c := RZ.out.c 5 (v := .int .i64 0) rfl
      have q6c := RZ.out.c 6 (v := .int .i64 0) rfl
      have q7c := RZ.out.c 7 (v := .slice none 0 0) rfl
      have q8c := RZ.out.c 8 (v := .slice none 0 0) rfl
      have q9c := RZ.out.c 9 (v := .string ⟨#[]⟩) rfl
      refine bodyPost_ret (v := .tuple #[.agg #[.slice none 0 0, .slice none 0 0, .int .i64 0, .int .i64 0, .int .i64 0, .int .i64 0, .int .i64 0, .slice none 0 0, .slice none 0 0, .string ⟨#[]⟩], .bool false]) (by simp [results, Try.results15, go_sem, q0c, q1c, q2c, q3c, q4c, q5c, q6c, q7c, q8c, q9c]) rfl ?_
      exact NewP.of rfl HZ.out
    | true =>
      have er := N2.out rfl
      subst er
      clear N1 N2
      have c0 := BR.out.c 0 (v := .slice none 0 0) rfl
      have c1 := BR.out.c 1 (v := .slice none 0 0) rfl
      have c2 := BR.out.c 2 (v := .int .i64 0) rfl
      have c3 := BR.out.c 3 (v := .int .i64 0) rfl
      have c4 := BR.out.c 4 (v := .int .i64 0) rfl
      have c5 := BR.out.c 5 (v := .int .i64 0) rfl
      have c6 := BR.out.c 6 (v := .int .i64 0) rfl
      have c7 := BR.out.c 7 (v := .slice none 0 0) rfl
      have c8 := BR.out.c 8 (v := .slice none 0 0) rfl
      have c9 := BR.out.c 9 (v := .string ⟨#[]⟩) rfl
      have z0 := BR.out.fr 0
      have z1 := BR.out.fr 1
      have z2 := BR.out.fr 2
      have z3 := BR.out.fr 3
      have z4 := BR.out.fr 4
      have z5 := BR.out.fr 5
      have z6 := BR.out.fr 6
      have z7 := BR.out.fr 7
      have z8 := BR.out.fr 8
      have z9 := BR.out.fr 9
      have RZ := hidIt (((((((((((BR.out).put (c' := #[.slice none 0 0, .slice none 0 0, .int .i64 0, .int .i64 0, .int .i64 0, .int .i64 0, .int .i64 0, .slice none 0 0, .slice none 0 0, .string ⟨#[]⟩]) 0 (.slice none 0 0) (by simp) rfl).put (c' := #[.slice none 0 0, .slice none 0 0, .int .i64 0, .int .i64 0, .int .i64 0, .int .i64 0, .int .i64 0, .slice none 0 0, .slice none 0 0, .string ⟨#[]⟩]) 1 (.slice none 0 0) (by simp) rfl).put (c' := #[.slice none 0 0, .slice none 0 0, .int .i64 q0, .int .i64 0, .int .i64 0, .int .i64 0, .int .i64 0, .slice none 0 0, .slice none 0 0, .string ⟨#[]⟩]) 2 (.int .i64 q0) (by simp) rfl).put (c' := #[.slice none 0 0, .slice none 0 0, .int .i64 q0, .int .i64 q1, .int .i64 0, .int .i64 0, .int .i64 0, .slice none 0 0, .slice none 0 0, .string ⟨#[]⟩]) 3 (.int .i64 q1) (by simp) rfl).put (c' := #[.slice none 0 0, .slice none 0 0, .int .i64 q0, .int .i64 q1, .int .i64 q2, .int .i64 0, .int .i64 0, .slice none 0 0, .slice none 0 0, .string ⟨#[]⟩]) 4 (.int .i64 q2) (by simp) rfl).put (c' := #[.slice none 0 0, .slice none 0 0, .int .i64 q0, .int .i64 q1, .int .i64 q2, .int .i64 q3, .int .i64 0, .slice none 0 0, .slice none 0 0, .string ⟨#[]⟩]) 5 (.int .i64 q3) (by simp) rfl).put (c' := #[.slice none 0 0, .slice none 0 0, .int .i64 q0, .int .i64 q1, .int .i64 q2, .int .i64 q3, .int .i64 q4, .slice none 0 0, .slice none 0 0, .string ⟨#[]⟩]) 6 (.int .i64 q4) (by simp) rfl).put (c' := #[.slice none 0 0, .slice none 0 0, .int .i64 q0, .int .i64 q1, .int .i64 q2, .int .i64 q3, .int .i64 q4, .slice none 0 0, .slice none 0 0, .string ⟨#[]⟩]) 7 (.slice none 0 0) (by simp) rfl).put (c' := #[.slice none 0 0, .slice none 0 0, .int .i64 q0, .int .i64 q1, .int .i64 q2, .int .i64 q3, .int .i64 q4, .slice none 0 0, .slice none 0 0, .string ⟨#[]⟩]) 8 (.slice none 0 0) (by simp) rfl).put (c' := #[.slice none 0 0, .slice none 0 0, .int .i64 q0, .int .i64 q1, .int .i64 q2, .int .i64 q3, .int .i64 q4, .slice none 0 0, .slice none 0 0, .string s]) 9 (.string s) (by simp) rfl)
      have HZ := hidIt (((((((((((HB.out).setCell (p := ⟨w.heap.size, 0, none⟩) (Nat.le_refl _) (.slice none 0 0)).setCell (p := ⟨w.heap.size, 1, none⟩) (Nat.le_refl _) (.slice none 0 0)).setCell (p := ⟨w.heap.size, 2, none⟩) (Nat.le_refl _) (.int .i64 q0)).setCell (p := ⟨w.heap.size, 3, none⟩) (Nat.le_refl _) (.int .i64 q1)).setCell (p := ⟨w.heap.size, 4, none⟩) (Nat.le_refl _) (.int .i64 q2)).setCell (p := ⟨w.heap.size, 5, none⟩) (Nat.le_refl _) (.int .i64 q3)).setCell (p := ⟨w.heap.size, 6, none⟩) (Nat.le_refl _) (.int .i64 q4)).setCell (p := ⟨w.heap.size, 7, none⟩) (Nat.le_refl _) (.slice none 0 0)).setCell (p := ⟨w.heap.size, 8, none⟩) (Nat.le_refl _) (.slice none 0 0)).setCell (p := ⟨w.heap.size, 9, none⟩) (Nat.le_refl _) (.string s))
      have a0 := BO.out.c 0 (v := .int .i64 q0) rfl
      have a1 := BO.out.c 1 (v := .int .i64 q1) rfl
      have a2 := BO.out.c 2 (v := .int .i64 q2) rfl
      have a3 := BO.out.c 3 (v := .int .i64 q3) rfl
      have a4 := BO.out.c 4 (v := .int .i64 q4) rfl
      clear BR HB
      go_wp2_with (fail)
      generalize ((((((((((w2).setCell ⟨w.heap.size, 0, none⟩ (.slice none 0 0)).setCell ⟨w.heap.size, 1, none⟩ (.slice none 0 0)).setCell ⟨w.heap.size, 2, none⟩ (.int .i64 q0)).setCell ⟨w.heap.size, 3, none⟩ (.int .i64 q1)).setCell ⟨w.heap.size, 4, none⟩ (.int .i64 q2)).setCell ⟨w.heap.size, 5, none⟩ (.int .i64 q3)).setCell ⟨w.heap.size, 6, none⟩ (.int .i64 q4)).setCell ⟨w.heap.size, 7, none⟩ (.slice none 0 0)).setCell ⟨w.heap.size, 8, none⟩ (.slice none 0 0)).setCell ⟨w.heap.size, 9, none⟩ (.string s) = wz at RZ HZ ⊢
      clear c0 z0 c1 z1 c2 z2 c3 z3 c4 z4 c5 z5 c6 z6 c7 z7 c8 z8 c9 z9 a0 a1 a2 a3 a4
      have q0c := RZ.out.c 0 (v := .slice none 0 0) rfl
      have q1c := RZ.out.c 1 (v := .slice none 0 0) rfl
      have q2c := RZ.out.c 2 (v := .int .i64 q0) rfl
      have q3c := RZ.out.c 3 (v := .int .i64 q1) rfl
      have q4c := RZ.out.c 4 (v := .int .i64 q2) rfl
      have q5c := RZ.out.c 5 (v := .int .i64 q3) rfl
      have q6c := RZ.out.c 6 (v := .int .i64 q4) rfl
      have q7c := RZ.out.c 7 (v := .slice none 0 0) rfl
      have q8c := RZ.out.c 8 (v := .slice none 0 0) rfl
      have q9c := RZ.out.c 9 (v := .string s) rfl
      refine bodyPost_ret (v := .tuple #[.agg #[.slice none 0 0, .slice none 0 0, .int .i64 q0, .int .i64 q1, .int .i64 q2, .int .i64 q3, .int .i64 q4, .slice none 0 0, .slice none 0 0, .string s], .bool true]) (by simp [results, Try.results15, go_sem, q0c, q1c, q2c, q3c, q4c, q5c, q6c, q7c, q8c, q9c]) rfl ?_
      exact NewP.of rfl HZ.out
end Go.Proofs.Ytllajhieocploaa.Nn
