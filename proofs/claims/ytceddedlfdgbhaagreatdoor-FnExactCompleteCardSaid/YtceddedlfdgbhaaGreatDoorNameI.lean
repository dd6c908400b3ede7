/-
  What the program takes of package strings, at the dot: Cut, LastIndex, HasSuffix; and the last label.
-/
import Derived.Test.YtceddedlfdgbhaaGreatDoorNameP
import Derived.Test.YtceddedlfdgbhaaGreatDoorProg
import Derived.Lib.Bytealg
import Derived.Lib.Walk
import Derived.Lib.LastIndexByte
import Derived.BigCall
import Derived.BigGuard
import Derived.BigQuiet
import Derived.Laws.Strings3
import Derived.Deep.Draws
import Derived.Deep.QuietTactic
namespace Go.Proofs.YtceddedlfdgbhaaGreatDoor.Nm
open Go.ChangeShapes Go.WideShapes Go.ChangeAt Go.RowKit
abbrev dotS : ByteArray := ⟨#[46]⟩
theorem ix_none {l : Bytes} (h : ∀ c ∈ l, c ≠ 46) : Go.Lib.indexByte l 46 = -1 := by
  induction l with
  | nil => rfl
  | cons c r ih =>
    unfold Go.Lib.indexByte
    rw [ih (fun x hx => h x (by simp [hx]))]
    simp [h c (by simp)]
theorem ix_cut {p : Bytes} (h : ∀ c ∈ p, c ≠ 46) (r : Bytes) : Go.Lib.indexByte (p ++ 46 :: r) 46 = (p.length : Int) := by
  induction p with
  | nil => simp [Go.Lib.indexByte]
  | cons c q ih =>
    rw [List.cons_append]
    unfold Go.Lib.indexByte
    rw [ih (fun x hx => h x (by simp [hx]))]
    simp [h c (by simp)]
set_option maxHeartbeats 1000000 in
set_option maxRecDepth 100000 in
theorem lib_IndexByte (s : ByteArray) (w : World) :
    Calls Tryz.prog 131 #[.string s, .int .u8 46] w fun e w' => e = .returned (.int .i64 (Go.Lib.indexByte (bs s) 46)) ∧ w' = w := by
  go_enter Tryz.func131, Tryz.ntmps131
  go_wp2
  rw [run_callFunc_extern Tryz.func137 (by kernel_rfl) (by kernel_rfl) (by kernel_rfl) (e := Extern.BytealgIndexByte.indexByte) (by kernel_rfl), Go.Lib.run_indexByteString]
  simp only [Result.andThen]
  rw [Oper.upon_value]
  go_wp2
  go_ret
  exact ⟨rfl, rfl⟩
set_option maxHeartbeats 1000000 in
set_option maxRecDepth 100000 in
theorem lib_Index (s : ByteArray) (w : World) :
    Calls Tryz.prog 125 #[.string s, .string dotS] w fun e w' => e = .returned (.int .i64 (Go.Lib.indexByte (bs s) 46)) ∧ w' = w := by
  by_cases h : dotS = s
  · subst h
    go_enter Tryz.func125, Tryz.ntmps125
    go_wp2_with (fail)
    go_ret
    exact ⟨rfl, rfl⟩
  · have hne : ([46] == s.toList) = false := by
      rw [Go.Lib.toList_data]
      exact beq_eq_false_iff_ne.2 (fun e => h (bs_inj e))
    go_enter Tryz.func125, Tryz.ntmps125
    go_wp2_with (go_at_call 131; refine (lib_IndexByte s _).mono ?_; rintro e w' ⟨rfl, rfl⟩)
    go_ret
    exact ⟨rfl, rfl⟩
set_option maxHeartbeats 1000000 in
set_option maxRecDepth 100000 in
theorem lib_Cut_none (s : ByteArray) (w : World) (h : ∀ c ∈ bs s, c ≠ 46) :
    Calls Tryz.prog 113 #[.string s, .string dotS] w fun e w' => e = .returned (.tuple #[.string s, .string ByteArray.empty, .bool false]) ∧ w' = w := by
  have H : Calls Tryz.prog 119 #[.string s, .string dotS] w fun e w' => e = .returned (.tuple #[.string s, .string ByteArray.empty, .bool false]) ∧ w' = w := by
    have hI := lib_Index s
    rw [ix_none h] at hI
    go_enter Tryz.func119, Tryz.ntmps119
    go_wp2_with (go_at_call 125; refine (hI _).mono ?_; rintro e w' ⟨rfl, rfl⟩)
    go_ret3
    exact ⟨rfl, rfl⟩
  go_enter Tryz.func113, Tryz.ntmps113
  go_wp2_with (go_at_call 119; refine H.mono ?_; rintro e w' ⟨rfl, rfl⟩)
  go_ret3
  exact ⟨rfl, rfl⟩
set_option maxHeartbeats 1000000 in
set_option maxRecDepth 100000 in
theorem lib_Cut_some (p r : Bytes) (w : World) (h : ∀ c ∈ p, c ≠ 46) (hm : (p ++ 46 :: r).length ≤ maxLen) :
    Calls Tryz.prog 113 #[.string (B (p ++ 46 :: r)), .string dotS] w fun e w' => e = .returned (.tuple #[.string (B p), .string (B r), .bool true]) ∧ w' = w.drew := by
  have H : Calls Tryz.prog 119 #[.string (B (p ++ 46 :: r)), .string dotS] w fun e w' => e = .returned (.tuple #[.string (B p), .string (B r), .bool true]) ∧ w' = w.drew := by
    have hI := lib_Index (B (p ++ 46 :: r))
    have e1 : (B (p ++ 46 :: r)).extract 0 p.length = B p := bs_inj (by rw [bs_front, bs_B, bs_B]; simp)
    have e2 : (B (p ++ 46 :: r)).extract (p.length + 1) (B (p ++ 46 :: r)).size = B r := bs_inj (by rw [bs_tail, bs_B, bs_B]; simp)
    have hz : (B (p ++ 46 :: r)).size = p.length + (r.length + 1) := by rw [B_size]; simp
    rw [bs_B, ix_cut h] at hI
    have hm' : p.length + (r.length + 1) ≤ maxLen := by simpa using hm
    generalize B (p ++ 46 :: r) = s at hI e1 e2 hz ⊢
    have hmm : maxLen = 9223372036854775807 := rfl
    generalize p.length = i at hI e1 e2 hz hm' ⊢
    have c1 : (0 : Int) ≤ (i : Int) := by omega
    have c2 : (i : Int) ≤ (s.size : Int) := by omega
    have c3 : (0 : Int) ≤ (i : Int) + 1 := by omega
    have c4 : (i : Int) + 1 ≤ (s.size : Int) := by omega
    have c5 : (i : Int) + 1 ≤ 9223372036854775807 := by omega
    rw [← e1, ← e2]
    clear e1 e2 hz
    go_enter Tryz.func119, Tryz.ntmps119
    go_wp2_with (go_at_call 125; refine (hI _).mono ?_; rintro e w' ⟨rfl, rfl⟩)
    go_region
    go_wp2
    go_ret3
    exact ⟨rfl, rfl⟩
  go_enter Tryz.func113, Tryz.ntmps113
  go_wp2_with (go_at_call 119; refine H.mono ?_; rintro e w' ⟨rfl, rfl⟩)
  go_ret3
  exact ⟨rfl, rfl⟩
end Go.Proofs.YtceddedlfdgbhaaGreatDoor.Nm
