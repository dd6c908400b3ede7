/-
  What the program takes of package strings, at the dot: Cut, LastIndex, HasSuffix; and the last label.
-/
import Derived.Test.YtkclfnmhiojklaaNameP
import Derived.Test.YtkclfnmhiojklaaProg
import Derived.Lib.Bytealg
import Derived.Lib.Walk
import Derived.Lib.LastIndexByte
import Derived.BigCall
import Derived.BigGuard
import Derived.BigQuiet
import Derived.Laws.Strings3
import Derived.Deep.Draws
import Derived.Deep.QuietTactic
namespace Go.Proofs.Ytkclfnmhiojklaa.Nm
open Go.ChangeShapes Go.WideShapes Go.ChangeAt Go.RowKit
abbrev dotS : ByteArray := ⟨#[46]⟩
theorem ix_none {l : Bytes} (h : ∀ c ∈ l, c ≠ 46) : Go.Lib.indexByte l 46 = -1 := by
  induction l with
  | nil => rfl
  | cons c r ih =>
    unfold Go.Lib.indexByte
    rw [ih (fun x hx => h x (by simp [hx]))]
    simp [h c (by simp)]
theorem ix_cut {p : Bytes} (h : ∀ c ∈ p, c ≠ 46) (r : Bytes) : Go.Lib.indexByte (p ++ 46 :: r) 46 = (p.length : Int) := by
  induction p with
  | nil => simp [Go.Lib.indexByte]
  | cons c q ih =>
    rw [List.cons_append]
    unfold Go.Lib.indexByte
    rw [ih (fun x hx => h x (by simp [hx]))]
    simp [h c (by simp)]
set_option maxHeartbeats 1000000 in
set_option maxRecDepth 100000 in
theorem lib_IndexByte (s : ByteArray) (w : World) :
    Calls Try.prog 42 #[.string s, .int .u8 46] w fun e w' => e = .returned (.int .i64 (Go.Lib.indexByte (bs s) 46)) ∧ w' = w := by
  go_enter Try.func42, Try.ntmps42
  go_wp2
  rw [run_callFunc_extern Try.func46 (by kernel_rfl) (by kernel_rfl) (by kernel_rfl) (e := Extern.BytealgIndexByte.indexByte) (by kernel_rfl), Go.Lib.run_indexByteString]
  simp only [Result.andThen]
  rw [Oper.upon_value]
  go_wp2
  go_ret
  exact ⟨rfl, rfl⟩
set_option maxHeartbeats 1000000 in
set_option maxRecDepth 100000 in
theorem lib_Index (s : ByteArray) (w : World) :
    Calls Try.prog 40 #[.string s, .string dotS] w fun e w' => e = .returned (.int .i64 (Go.Lib.indexByte (bs s) 46)) ∧ w' = w := by
  by_cases h : dotS = s
  · subst h
    go_enter Try.func40, Try.ntmps40
    go_wp2_with (fail)
    go_ret
    exact ⟨rfl, rfl⟩
  · have hne : ([46] == s.toList) = false := by
      rw [Go.Lib.toList_data]
      exact beq_eq_false_iff_ne.2 (fun e => h (bs_inj e))
    go_enter Try.func40, Try.ntmps40
    go_wp2_with (go_at_call 42; refine (lib_IndexByte s _).mono ?_; rintro e w' ⟨rfl, rfl⟩)
    go_ret
    exact ⟨rfl, rfl⟩
set_option maxHeartbeats 1000000 in
set_option maxRecDepth 100000 in
theorem lib_Cut_none (s : ByteArray) (w : World) (h : ∀ c ∈ bs s, c ≠ 46) :
    Calls Try.prog 32 #[.string s, .string dotS] w fun e w' => e = .returned (.tuple #[.string s, .string ByteArray.empty, .bool false]) ∧ w' = w := by
  have H : Calls Try.prog 37 #[.string s, .string dotS] w fun e w' => e = .returned (.tuple #[.string s, .string ByteArray.empty, .bool false]) ∧ w' = w := by
    have hI := lib_Index s
    rw [ix_none h] at hI
    go_enter Try.func37, Try.ntmps37
    go_wp2_with (go_at_call 40; refine (hI _).mono ?_; rintro e w' ⟨rfl, rfl⟩)
    go_ret3
    exact ⟨rfl, rfl⟩
  go_enter Try.func32, Try.ntmps32
  go_wp2_with (go_at_call 37; refine H.mono ?_; rintro e w' ⟨rfl, rfl⟩)
  go_ret3
  exact ⟨rfl, rfl⟩
set_option maxHeartbeats 1000000 in
set_option maxRecDepth 100000 in
theorem lib_Cut_some (p r : Bytes) (w : World) (h : ∀ c ∈ p, c ≠ 46) (hm : (p ++ 46 :: r).length ≤ maxLen) :
    Calls Try.prog 32 #[.string (B (p ++ 46 :: r)), .string dotS] w fun e w' => e = .returned (.tuple #[.string (B p), .string (B r), .bool true]) ∧ w' = w.drew := by
  have H : Calls Try.prog 37 #[.string (B (p ++ 46 :: r)), .string dotS] w fun e w' => e = .returned (.tuple #[.string (B p), .string (B r), .bool true]) ∧ w' = w.drew := by
    have hI := lib_Index (B (p ++ 46 :: r))
    have e1 : (B (p ++ 46 :: r)).extract 0 p.length = B p := bs_inj (by rw [bs_front, bs_B, bs_B]; simp)
    have e2 : (B (p ++ 46 :: r)).extract (p.length + 1) (B (p ++ 46 :: r)).size = B r := bs_inj (by rw [bs_tail, bs_B, bs_B]; simp)
    have hz : (B (p ++ 46 :: r)).size = p.length + (r.length + 1) := by rw [B_size]; simp
    rw [bs_B, ix_cut h] at hI
    have hm' : p.length + (r.length + 1) ≤ maxLen := by simpa using hm
    generalize B (p ++ 46 :: r) = s at hI e1 e2 hz ⊢
    have hmm : maxLen = 9223372036854775807 := rfl
    generalize p.length = i at hI e1 e2 hz hm' ⊢
    have c1 : (0 : Int) ≤ (i : Int) := by omega
    have c2 : (i : Int) ≤ (s.size : Int) := by omega
    have c3 : (0 : Int) ≤ (i : Int) + 1 := by omega
    have c4 : (i : Int) + 1 ≤ (s.size : Int) := by omega
    have c5 : (i : Int) + 1 ≤ 9223372036854775807 := by omega
    rw [← e1, ← e2]
    clear e1 e2 hz
    go_enter Try.func37, Try.ntmps37
    go_wp2_with (go_at_call 40; refine (hI _).mono ?_; rintro e w' ⟨rfl, rfl⟩)
    go_region
    go_wp2
    go_ret3
    exact ⟨rfl, rfl⟩
  go_enter Try.func32, Try.ntmps32
  go_wp2_with (go_at_call 37; refine H.mono ?_; rintro e w' ⟨rfl, rfl⟩)
  go_ret3
  exact ⟨rfl, rfl⟩
theorem byteBang (s : ByteArray) (j : Nat) (hj : j < s.size) : s.data[j]! = s[j] := by
  rw [getElem!_pos s.data j (by simpa using hj)]; rfl
set_option maxHeartbeats 4000000 in
theorem lib_LastIndexByteString (s : ByteArray) (hs : s.size < 4611686018427387904) (w : World) :
    Calls Try.prog 38 #[.string s, .int .u8 46] w fun e w' => e = .returned (.int .i64 (Go.Lib.lastIndexByte s 46)) ∧ w' = w := by
  go_enter Try.func38, Try.ntmps38
  go_wp2
  go_loop [5] (fun vi => ∃ k : Nat, k ≤ s.size ∧ vi = .int .i64 ((k : Int) - 1) ∧ Hid (Go.Lib.lastIndexByte s 46 = Go.Lib.lastIdx s 46 k)) (fun vi => ((RowKit.intOf vi) + 1).toNat)
  case atStart => exact ⟨s.size, Nat.le_refl _, by first | rfl | go_num | (congr 1; omega), rfl⟩
  case round =>
    obtain ⟨k, hk, rfl, hh⟩ := hrel
    go_wp2
    · have hc : (((s[k - 1]).toNat : Int) == 46) = true := by assumption
      have k1 : 1 ≤ k := by omega
      have e1 : Go.Lib.lastIdx s 46 k = ((k - 1 : Nat) : Int) := by
        have := Go.Lib.lastIdx_hit s 46 (k - 1) (by rw [byteBang s (k - 1) (by omega)]; simpa using hc)
        rwa [show k - 1 + 1 = k by omega] at this
      have e2 : ((k - 1 : Nat) : Int) = (k : Int) - 1 := by omega
      go_ret
      rw [hh.out, e1, e2]
      exact ⟨rfl, rfl⟩
    · have hc : (((s[k - 1]).toNat : Int) == 46) = false := by assumption
      have k1 : 1 ≤ k := by omega
      have e1 : Go.Lib.lastIdx s 46 k = Go.Lib.lastIdx s 46 (k - 1) := by
        have := Go.Lib.lastIdx_miss s 46 (k - 1) (by rw [byteBang s (k - 1) (by omega)]; simpa using hc)
        rwa [show k - 1 + 1 = k by omega] at this
      refine ⟨⟨k - 1, by omega, by congr 1; omega, hh.out.trans e1⟩, ?_⟩
      simp [RowKit.intOf]; omega
    · have k0 : k = 0 := by omega
      subst k0
      go_ret
      rw [hh.out]
      exact ⟨rfl, rfl⟩
set_option maxHeartbeats 1000000 in
set_option maxRecDepth 100000 in
theorem lib_LastIndex (s : ByteArray) (hs : s.size < 4611686018427387904) (w : World) :
    Calls Try.prog 36 #[.string s, .string dotS] w fun e w' => e = .returned (.int .i64 (Go.Lib.lastIndexByte s 46)) ∧ w' = w := by
  have h := lib_LastIndexByteString s hs
  go_enter Try.func36, Try.ntmps36
  go_wp2_with (go_at_call 38; refine (h _).mono ?_; rintro e w' ⟨rfl, rfl⟩)
  go_ret
  exact ⟨rfl, rfl⟩
theorem lx_none {s : ByteArray} (h : ∀ c ∈ bs s, c ≠ 46) : Go.Lib.lastIndexByte s 46 = -1 := by
  rcases Go.Lib.lastIndexByte_spec s 46 with ⟨e, _⟩ | ⟨i, hi, _, e, _⟩
  · exact e
  · rw [byteBang s i hi] at e
    have e' : s[i] = 46 := UInt8.toNat_inj.1 (by have : ((s[i]).toNat : Int) = ((46 : UInt8).toNat : Int) := e; omega)
    exact absurd e' (h _ (by show s[i] ∈ s.data.toList; rw [Array.mem_toList_iff]; exact Array.getElem_mem hi))
theorem lx_some (p r : Bytes) (h : ∀ c ∈ r, c ≠ 46) : Go.Lib.lastIndexByte (B (p ++ 46 :: r)) 46 = (p.length : Int) := by
  have hz : (B (p ++ 46 :: r)).size = p.length + (r.length + 1) := by rw [B_size]; simp
  have at' : ∀ j, j < p.length + (r.length + 1) → (B (p ++ 46 :: r)).data[j]! = (p ++ 46 :: r)[j]! := fun j hj => by simp
  rcases Go.Lib.lastIndexByte_spec (B (p ++ 46 :: r)) 46 with ⟨_, hn⟩ | ⟨i, hi, e, hc, hn⟩
  · have := hn p.length (by omega)
    rw [at' _ (by omega)] at this
    simp at this
  · rw [e]
    rcases Nat.lt_trichotomy i p.length with hlt | heq | hgt
    · have := hn p.length hlt (by omega)
      rw [at' _ (by omega)] at this
      simp at this
    · rw [heq]
    · rw [at' _ (by omega)] at hc
      obtain ⟨j, rfl⟩ : ∃ j, i = p.length + (j + 1) := ⟨i - p.length - 1, by omega⟩
      have hj : j < r.length := by omega
      have e1 : (p ++ 46 :: r)[p.length + (j + 1)]! = r[j] := by
        simp [hj]
      rw [e1] at hc
      exact absurd (UInt8.toNat_inj.1 (by have : ((r[j]).toNat : Int) = ((46 : UInt8).toNat : Int) := hc; omega)) (h r[j] (List.getElem_mem hj))
set_option maxHeartbeats 1000000 in
set_option maxRecDepth 100000 in
theorem impl_lastLabel_none (s : ByteArray) (w : World) (h : ∀ c ∈ bs s, c ≠ 46) (hs : s.size < 4611686018427387904) :
    Calls Try.prog 30 #[.string s] w fun e w' => e = .returned (.tuple #[.string ByteArray.empty, .string s]) ∧ w' = w.drew := by
  have hI := lib_LastIndex s hs
  rw [lx_none h] at hI
  go_enter Try.func30, Try.ntmps30
  go_wp2_with (go_at_call 36; refine (hI _).mono ?_; rintro e w' ⟨rfl, rfl⟩)
  go_region
  go_wp2
  go_ret2
  refine ⟨?_, rfl⟩
  show Ending.returned (.tuple #[.string (s.extract 0 (max (-1 : Int) 0).toNat), .string s]) = _
  rw [show s.extract 0 (max (-1 : Int) 0).toNat = ByteArray.empty from bs_inj (by rw [show (max (-1 : Int) 0).toNat = 0 from rfl, bs_front]; rfl)]
set_option maxHeartbeats 1000000 in
set_option maxRecDepth 100000 in
theorem impl_lastLabel_some (p r : Bytes) (w : World) (h : ∀ c ∈ r, c ≠ 46) (hm : (p ++ 46 :: r).length < 4611686018427387904) :
    Calls Try.prog 30 #[.string (B (p ++ 46 :: r))] w fun e w' => e = .returned (.tuple #[.string (B p), .string (B r)]) ∧ w' = w.drew := by
  have hI := lib_LastIndex (B (p ++ 46 :: r)) (by rw [B_size]; exact hm)
  rw [lx_some p r h] at hI
  have e1 : (B (p ++ 46 :: r)).extract 0 p.length = B p := bs_inj (by rw [bs_front, bs_B, bs_B]; simp)
  have e2 : (B (p ++ 46 :: r)).extract (p.length + 1) (B (p ++ 46 :: r)).size = B r := bs_inj (by rw [bs_tail, bs_B, bs_B]; simp)
  have hz : (B (p ++ 46 :: r)).size = p.length + (r.length + 1) := by rw [B_size]; simp
  have hm' : p.length + (r.length + 1) < 4611686018427387904 := by simpa using hm
  generalize B (p ++ 46 :: r) = s at hI e1 e2 hz ⊢
  generalize p.length = i at hI e1 e2 hz hm' ⊢
  have c1 : (0 : Int) ≤ (i : Int) := by omega
  have c2 : (i : Int) ≤ (s.size : Int) := by omega
  have c3 : (0 : Int) ≤ (i : Int) + 1 := by omega
  have c4 : (i : Int) + 1 ≤ (s.size : Int) := by omega
  have c5 : (i : Int) + 1 ≤ 9223372036854775807 := by omega
  rw [← e1, ← e2]
  clear e1 e2 hz
  go_enter Try.func30, Try.ntmps30
  go_wp2_with (go_at_call 36; refine (hI _).mono ?_; rintro e w' ⟨rfl, rfl⟩)
  go_region
  go_wp2
  go_ret2
  exact ⟨rfl, rfl⟩
end Go.Proofs.Ytkclfnmhiojklaa.Nm
