/-
  strings.Split at the blank, as the program calls it.
-/
import Derived.Test.YtnmmmhkafdhfcaaDoorSplS
import Derived.Lib.Bytealg
import Derived.Lib.Walk
import Derived.BigCall
import Derived.BigGuard
import Derived.Laws.Strings3
import Derived.Laws.OwnMore
namespace Go.Proofs.YtnmmmhkafdhfcaaDoor.Nm.Sp
open Go.ChangeShapes Go.WideShapes Go.ChangeAt Go.RowKit
set_option linter.unusedVariables false
abbrev blS : ByteArray := ⟨#[32]⟩
theorem ix_cut {p : Bytes} (h : ∀ c ∈ p, c ≠ 32) (r : Bytes) : Go.Lib.indexByte (p ++ 32 :: r) 32 = (p.length : Int) := by
  induction p with
  | nil => simp [Go.Lib.indexByte]
  | cons c q ih =>
    rw [List.cons_append]
    unfold Go.Lib.indexByte
    rw [ih (fun x hx => h x (by simp [hx]))]
    simp [h c (by simp)]
theorem split_len (l : Bytes) : (split l).length = l.count 32 + 1 := by
  induction l with
  | nil => rfl
  | cons c r ih =>
    by_cases hc : c = 32
    · subst hc; rw [split_dot]; simp [ih]
    · obtain ⟨q, ps, e, e'⟩ := split_other hc r
      rw [e'] ; rw [e] at ih
      rw [List.count_cons_of_ne hc]
      simpa using ih
/-- Where there are two pieces there is a first blank. -/
theorem first_blank : ∀ l : Bytes, 2 ≤ (split l).length → ∃ p r, l = p ++ 32 :: r ∧ ∀ c ∈ p, c ≠ 32
  | [], h => by rw [split_nil] at h; simp at h
  | c :: r, h => by
    by_cases hc : c = 32
    · subst hc; exact ⟨[], r, rfl, fun c hc => by cases hc⟩
    · obtain ⟨q, ps, e, e'⟩ := split_other hc r
      rw [e'] at h
      obtain ⟨p, r', e1, e2⟩ := first_blank r (by rw [e]; simpa using h)
      refine ⟨c :: p, r', by rw [e1]; rfl, fun x hx => ?_⟩
      rcases List.mem_cons.1 hx with rfl | hx
      · exact hc
      · exact e2 x hx
theorem split_single (l : Bytes) (h : (split l).length = 1) : split l = [l] := by
  refine split_whole (fun c hc e => ?_)
  subst e
  have := List.count_pos_iff.2 hc
  rw [split_len] at h
  omega
theorem infoW : (Tryd.prog.info? 9).map (fun i => (i.zero, i.size, i.bytes)) = some (some (.string ByteArray.empty), 1, 16) := by kernel_rfl
set_option maxHeartbeats 1000000 in
set_option maxRecDepth 100000 in
theorem lib_IndexByte (s : ByteArray) (w : World) :
    Calls Tryd.prog 105 #[.string s, .int .u8 32] w fun e w' => e = .returned (.int .i64 (Go.Lib.indexByte (bs s) 32)) ∧ w' = w := by
  go_enter Tryd.func105, Tryd.ntmps105
  go_wp2
  rw [run_callFunc_extern Tryd.func110 (by kernel_rfl) (by kernel_rfl) (by kernel_rfl) (e := Extern.BytealgIndexByte.indexByte) (by kernel_rfl), Go.Lib.run_indexByteString]
  simp only [Result.andThen]
  rw [Oper.upon_value]
  go_wp2
  go_ret
  exact ⟨rfl, rfl⟩
set_option maxHeartbeats 1000000 in
set_option maxRecDepth 100000 in
theorem lib_Index (s : ByteArray) (w : World) :
    Calls Tryd.prog 90 #[.string s, .string blS] w fun e w' => e = .returned (.int .i64 (Go.Lib.indexByte (bs s) 32)) ∧ w' = w := by
  have H : Calls Tryd.prog 98 #[.string s, .string blS] w fun e w' => e = .returned (.int .i64 (Go.Lib.indexByte (bs s) 32)) ∧ w' = w := by
    by_cases h : blS = s
    · subst h
      go_enter Tryd.func98, Tryd.ntmps98
      go_wp2_with (fail)
      go_ret
      exact ⟨rfl, rfl⟩
    · have hne : ([32] == s.toList) = false := by
        rw [Go.Lib.toList_data]
        exact beq_eq_false_iff_ne.2 (fun e => h (bs_inj e))
      go_enter Tryd.func98, Tryd.ntmps98
      go_wp2_with (go_at_call 105; refine (lib_IndexByte s _).mono ?_; rintro e w' ⟨rfl, rfl⟩)
      go_ret
      exact ⟨rfl, rfl⟩
  go_enter Tryd.func90, Tryd.ntmps90
  go_wp2_with (go_at_call 98; refine H.mono ?_; rintro e w' ⟨rfl, rfl⟩)
  go_ret
  exact ⟨rfl, rfl⟩
set_option maxHeartbeats 1000000 in
set_option maxRecDepth 100000 in
theorem lib_Count (s : ByteArray) (w : World) :
    Calls Tryd.prog 89 #[.string s, .string blS] w fun e w' => e = .returned (.int .i64 ((bs s).count 32 : Nat)) ∧ w' = w := by
  go_enter Tryd.func89, Tryd.ntmps89
  go_wp2
  rw [run_callFunc_extern Tryd.func97 (by kernel_rfl) (by kernel_rfl) (by kernel_rfl) (e := Extern.BytealgCount.count) (by kernel_rfl), Go.Lib.run_countString]
  simp only [Result.andThen]
  rw [Oper.upon_value]
  go_wp2
  go_ret
  exact ⟨rfl, rfl⟩
/-- So many empty texts in a row of one's own. -/
theorem Own.made (w : World) (N : Nat) (hN : N ≤ maxLen) : Own (w.alloc (.cells (madeCells #[.string ByteArray.empty] N) 9)) w.heap.size (.slice (some ⟨w.heap.size, 0, none⟩) N N) (List.replicate N ByteArray.empty) := by
  have hl : (scells (List.replicate N ByteArray.empty)) = List.replicate N (.string ByteArray.empty) := by simp [scells]
  unfold Own
  rw [hl, List.length_replicate]
  refine ⟨by simp, .inr ⟨w.heap.size, N, _, rfl, Nat.le_refl _, heap_alloc_new w _, Nat.le_refl _, hN, ?_, ?_⟩⟩
  · have := congrArg List.length (toList_madeCells_one (.string ByteArray.empty) N)
    simpa using this
  · rw [toList_madeCells_one]
    simp
/-- So many are done, the rest is empty. -/
def part (D : List ByteArray) (N : Nat) : List ByteArray := D ++ List.replicate (N - D.length) ByteArray.empty
theorem part_length {D : List ByteArray} {N : Nat} (h : D.length ≤ N) : (part D N).length = N := by simp [part]; omega
theorem part_set {D : List ByteArray} {N : Nat} (h : D.length < N) (s : ByteArray) : (part D N).set D.length s = part (D ++ [s]) N := by
  unfold part
  rw [List.set_append_right _ _ (Nat.le_refl _), Nat.sub_self]
  obtain ⟨k, hk⟩ : ∃ k, N - D.length = k + 1 := ⟨N - D.length - 1, by omega⟩
  rw [hk, List.replicate_succ, List.set_cons_zero, List.append_assoc]
  congr 1
  rw [List.length_append]
  show s :: List.replicate k ByteArray.empty = [s] ++ List.replicate (N - (D.length + 1)) ByteArray.empty
  rw [show N - (D.length + 1) = k by omega]
  rfl
theorem part_full {D : List ByteArray} {N : Nat} (h : D.length = N) : part D N = D := by simp [part, h]
set_option maxRecDepth 100000 in
set_option maxHeartbeats 8000000 in
theorem lib_genSplit (s : ByteArray) (w : World) (hs : s.size ≤ 1048576) :
    Calls Tryd.prog 79 #[.string s, .string blS, .int .i64 0, .int .i64 (-1)] w fun e w' => ∃ v, e = .returned v ∧ Own w' w.heap.size v ((split (bs s)).map B) ∧ Below w.heap.size w w' := by
  have HC := hidIt (fun W => lib_Count s W)
  have hn : ∃ n, (bs s).count 32 = n := ⟨_, rfl⟩
  obtain ⟨n, hn⟩ := hn
  rw [hn] at HC
  have HL : Hid ((split (bs s)).length = n + 1) := hidIt (by rw [split_len, hn])
  have hns : n ≤ s.size := by rw [← hn, ← bs_length]; exact List.count_le_length
  clear hn
  have hmin : min ((n : Int) + 1) ((s.size : Int) + 1) = (n : Int) + 1 := by omega
  have hmk : ∀ W : World, (Instr.makeSlice 65 (.int .i64 ((n : Int) + 1)) (.int .i64 ((n : Int) + 1))).run Tryd.prog W = .ok (.slice (some ⟨W.heap.size, 0, none⟩) (n + 1) (n + 1)) (W.alloc (.cells (madeCells #[.string ByteArray.empty] (n + 1)) 9)) := fun W => by
    have := run_make_row' (P := Tryd.prog) 65 9 (.string ByteArray.empty) 16 Tryd.underlying65 infoW rfl .i64 .i64 (n + 1) (by omega) (by omega) W
    simpa using this
  have HO0 := hidIt (Own.made w (n + 1) (by unfold maxLen; omega))
  have HB0 := hidIt ((Below.refl w.heap.size w).alloc (Nat.le_refl _) (.cells (madeCells #[.string ByteArray.empty] (n + 1)) 9))
  have HI := hidIt (fun t W => lib_Index t W)
  have HP0 : Hid (part [] (n + 1) = List.replicate (n + 1) ByteArray.empty) := hidIt rfl
  have hone : ([32] : List UInt8).isEmpty = false := rfl
  go_enter Tryd.func79, Tryd.ntmps79
  go_wp2_with (go_at_call 89; refine (HC.out _).mono ?_; rintro e w' ⟨rfl, ew⟩; rw [ew]; clear ew w')
  clear hmk hmin
  go_loopw [0, 10] (fun y z wx => ∃ (i : Nat) (D : List ByteArray) (r : ByteArray), y = .string r ∧ z = .int .i64 i ∧ i ≤ n ∧ r.size ≤ s.size ∧ Hid (D.length = i) ∧ Hid (split (bs s) = D.map bs ++ split (bs r)) ∧ Hid (Own wx w.heap.size (.slice (some ⟨w.heap.size, 0, none⟩) (n + 1) (n + 1)) (part D (n + 1))) ∧ Hid (Below w.heap.size w wx)) (fun _ z _ => (n - intOf z).toNat)
  case atStart => exact ⟨0, [], s, rfl, rfl, by omega, Nat.le_refl _, hidIt rfl, hidIt rfl, hidIt (by rw [HP0.out]; exact HO0.out), HB0⟩
  case round =>
    clear HO0 HB0
    obtain ⟨i, D, r, rfl, rfl, hi, hrs, HD, HE, HO, HB⟩ := hrel
    have HZ : Hid ((split (bs r)).length = n + 1 - i) := hidIt (by
      have h1 := HL.out
      rw [HE.out, List.length_append, List.length_map, HD.out] at h1
      omega)
    have hlen : (part D (n + 1)).length = n + 1 := part_length (by rw [HD.out]; omega)
    obtain ⟨q0, q1⟩ := HO.out.at (i := i) (by rw [hlen]; omega)
    have HLn := hidIt hlen
    clear hlen
    generalize sat (part D (n + 1)) i = old at q0
    by_cases hin : i < n
    · have hin' : (i : Int) < (n : Int) := by omega
      have hin2 : (i : Int) < (n : Int) + 1 := by omega
      obtain ⟨p, q, epq, hp⟩ := first_blank (bs r) (by rw [HZ.out]; omega)
      have HIx := hidIt (fun W => HI.out r W)
      rw [epq, ix_cut hp] at HIx
      have hsz : p.length + 1 + q.length = r.size := by
        have := congrArg List.length epq
        rw [bs_length, List.length_append, List.length_cons] at this
        omega
      have e1 : Hid (bs (r.extract 0 p.length) = p) := hidIt (by rw [bs_front, epq, List.take_left])
      have e2 : Hid (bs (r.extract (p.length + 1) r.size) = q) := hidIt (by
        rw [bs_tail, epq, show p ++ 32 :: q = (p ++ [32]) ++ q by simp, List.drop_left' (by simp)])
      have HE' : Hid (split (bs s) = (D ++ [r.extract 0 p.length]).map bs ++ split (bs (r.extract (p.length + 1) r.size))) := hidIt (by
        rw [HE.out, epq, split_cut hp, e2.out, List.map_append, List.map_singleton, e1.out]
        simp)
      have hz2 : (r.extract (p.length + 1) r.size).size ≤ s.size := by rw [ByteArray.size_extract]; omega
      have HO' := hidIt (Own.set (i := i) HO.out (r.extract 0 p.length))
      have HB' := hidIt (HB.out.setCell (p := ⟨w.heap.size, i, none⟩) (Nat.le_refl _) (.string (r.extract 0 p.length)))
      have HS' : Hid ((part D (n + 1)).set i (r.extract 0 p.length) = part (D ++ [r.extract 0 p.length]) (n + 1)) := hidIt (by
        have := part_set (D := D) (N := n + 1) (by rw [HD.out]; omega) (r.extract 0 p.length)
        rw [HD.out] at this
        exact this)
      clear epq hp e1 e2
      generalize p.length = j at HIx hsz HE' hz2 HO' HB' HS'
      have c0 : ¬ ((j : Int) < 0) := by omega
      have c1 : (0 : Int) ≤ (j : Int) := by omega
      have c2 : (j : Int) ≤ (r.size : Int) := by omega
      have c3 : (0 : Int) ≤ (j : Int) + 1 := by omega
      have c4 : (j : Int) + 1 ≤ (r.size : Int) := by omega
      have c5 : ((j : Int) + 1).toNat = j + 1 := by omega
      go_wp2_with (go_at_call 90; refine (HIx.out _).mono ?_; rintro e w' ⟨rfl, ew⟩; rw [ew]; clear ew w')
      refine ⟨⟨i + 1, _, _, rfl, by simp, by omega, hz2, hidIt (by rw [List.length_append, HD.out]; rfl), HE', hidIt (by rw [← HS'.out]; exact HO'.out), HB'⟩, by simp [intOf]; omega⟩
    · have hin' : ¬ (i : Int) < (n : Int) := by omega
      have hie : i = n := by omega
      subst hie
      have hin2 : (i : Int) < (i : Int) + 1 := by omega
      have HE' : Hid ((split (bs s)).map B = part (D ++ [r]) (i + 1)) := hidIt (by
        rw [HE.out, split_single (bs r) (by rw [HZ.out]; omega), part_full (by rw [List.length_append, HD.out]; rfl), List.map_append, List.map_map, show (B ∘ bs : ByteArray → ByteArray) = id from funext (fun x => B_bs x), List.map_id, List.map_singleton, B_bs])
      have HO' := hidIt (Own.set (i := i) HO.out r)
      have HB' := hidIt (HB.out.setCell (p := ⟨w.heap.size, i, none⟩) (Nat.le_refl _) (.string r))
      have HS' : Hid ((part D (i + 1)).set i r = part (D ++ [r]) (i + 1)) := hidIt (by
        have := part_set (D := D) (N := i + 1) (by rw [HD.out]; omega) r
        rw [HD.out] at this
        exact this)
      have c1 : (0 : Int) ≤ (i : Int) + 1 := by omega
      go_wp2_with (fail)
      go_ret
      exact ⟨_, rfl, by rw [HE'.out, ← HS'.out]; exact HO'.out, HB'.out⟩
set_option maxRecDepth 100000 in
set_option maxHeartbeats 2000000 in
theorem lib_Split (s : ByteArray) (w : World) (hs : s.size ≤ 1048576) :
    Calls Tryd.prog 65 #[.string s, .string blS] w fun e w' => ∃ v, e = .returned v ∧ Own w' w.heap.size v ((split (bs s)).map B) ∧ Below w.heap.size w w' := by
  have H := hidIt (lib_genSplit s w hs)
  generalize (split (bs s)).map B = W at H ⊢
  go_enter Tryd.func65, Tryd.ntmps65
  go_wp2_with (go_at_call 79; refine H.out.mono ?_; rintro e w' ⟨v, rfl, ho, hb⟩; obtain ⟨a, c, ev, _⟩ := ho.form; have HO := hidIt ho; clear ho; subst ev)
  go_ret
  exact ⟨_, rfl, HO.out, hb⟩
end Go.Proofs.YtnmmmhkafdhfcaaDoor.Nm.Sp
