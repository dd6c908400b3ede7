/-
  Promise 4 in numbers: two texts of one length that differ in one byte have different hashes; so a log with one byte of one text changed is none. likeLog; bytes of a text.
-/
import Derived.Test.YtoijollhmchalaaDoorLogE
namespace Go.Proofs.YtoijollhmchalaaDoor.Lg
open Go.ChangeShapes Go.WideShapes Go.ChangeAt Go.RowKit
open Sg Dr
set_option linter.unusedVariables false
theorem sub_lin (h k b c : Nat) : h * c + b + 1 - (k * c + b + 1) = (h - k) * c := by
  rw [Nat.add_assoc, Nat.add_assoc, Nat.add_sub_add_right, Nat.sub_mul]
theorem coprime_p : Nat.Coprime 2147483647 1000003 := by decide +kernel
theorem mul_inj (p c : Nat) (hc : Nat.Coprime p c) (h k b : Nat) (hkh : k ≤ h) (hh : h < p) (e : (h * c + b + 1) % p = (k * c + b + 1) % p) : h = k := by
  have h1 := Nat.sub_mod_eq_zero_of_mod_eq e
  rw [sub_lin] at h1
  have h3 := hc.dvd_of_dvd_mul_right (Nat.dvd_of_mod_eq_zero h1)
  have h4 := Nat.eq_zero_of_dvd_of_lt h3 (Nat.lt_of_le_of_lt (Nat.sub_le _ _) hh)
  omega
theorem hstep_inj {h k b : Nat} (hh : h < 2147483647) (hk : k < 2147483647) (e : hstep h b = hstep k b) : h = k := by
  unfold hstep at e
  rcases Nat.le_total k h with h' | h'
  · exact mul_inj _ _ coprime_p h k b h' hh e
  · exact (mul_inj _ _ coprime_p k h b h' hk e.symm).symm
theorem hrun_inj (l : List Nat) : ∀ h k : Nat, h < 2147483647 → k < 2147483647 → hrun h l = hrun k l → h = k := by
  induction l with
  | nil => intro h k _ _ e; rwa [hrun_nil, hrun_nil] at e
  | cons b l ih =>
    intro h k hh hk e
    rw [hrun_cons, hrun_cons] at e
    exact hstep_inj hh hk (ih _ _ (hstep_lt h b) (hstep_lt k b) e)
theorem hstep_byte {h b c : Nat} (hb : b < 256) (hc : c < 256) (e : hstep h b = hstep h c) : b = c := by
  unfold hstep at e; omega
/-- One byte changed, the hash changed. -/
theorem hash_one (P A C : List Nat) (b c : Nat) (hb : b < 256) (hc : c < 256) (h : b ≠ c) : hashN (P ++ (A ++ b :: C)) ≠ hashN (P ++ (A ++ c :: C)) := by
  intro e
  unfold hashN hend at e
  have h17 : (17 : Nat) < 2147483647 := by omega
  have e1 := hrun_inj _ _ _ (hrun_lt _ _ h17) (hrun_lt _ _ h17) e
  rw [hrun_append, hrun_append, hrun_append, hrun_append, hrun_cons, hrun_cons] at e1
  exact h (hstep_byte hb hc (hrun_inj _ _ _ (hstep_lt _ _) (hstep_lt _ _) e1))
theorem nums_mk (l : List UInt8) : nums ⟨l.toArray⟩ = l.map UInt8.toNat := by unfold nums; simp
theorem sum_one (n : Nat) (l : List UInt8) (k : Nat) (y : UInt8) (hk : k < l.length) (hy : l[k] ≠ y) : sumN n ⟨l.toArray⟩ ≠ sumN n ⟨(l.set k y).toArray⟩ := by
  unfold sumN
  have key : ∀ s, nums (numS n ++ Sg.blank ++ s) = nums (numS n ++ Sg.blank) ++ nums s := fun s => nums_append _ _
  rw [key, key, nums_mk l, nums_mk (l.set k y)]
  have e1 : l.map UInt8.toNat = (l.take k).map UInt8.toNat ++ l[k].toNat :: (l.drop (k + 1)).map UInt8.toNat := by
    rw [← List.map_cons, ← List.map_append, List.getElem_cons_drop hk, List.take_append_drop]
  have e2 : (l.set k y).map UInt8.toNat = (l.take k).map UInt8.toNat ++ y.toNat :: (l.drop (k + 1)).map UInt8.toNat := by
    rw [List.set_eq_take_append_cons_drop, if_pos hk, List.map_append, List.map_cons]
  rw [e1, e2]
  exact hash_one _ _ _ _ _ (UInt8.toNat_lt _) (UInt8.toNat_lt _) (fun h => hy (UInt8.toNat_inj.1 h))
/-- Promise 4: a log with one byte of one text changed is none. -/
theorem log_one {M : List Ln} {i k : Nat} {l : List UInt8} {y : UInt8} (h : LogIs M) (hi : i < M.length) (hl : (lat M i).1 = ⟨l.toArray⟩) (hk : k < l.length) (hy : l[k] ≠ y) : okL (M.set i (⟨(l.set k y).toArray⟩, (lat M i).2)) = false := by
  refine okL_false (fun h' => ?_)
  have g := h.2 i hi
  have g' := h'.2 i (by rw [List.length_set]; exact hi)
  have hp : prev (M.set i (⟨(l.set k y).toArray⟩, (lat M i).2)) i = prev M i := by
    cases i with
    | zero => rfl
    | succ j => rw [prev_succ, prev_succ, lat_set hi, if_neg (by omega)]
  have e1 := g.2
  have e2 := g'.2
  rw [hp, lat_set hi, if_pos rfl] at e2
  simp only at e2
  rw [hl] at e1
  rw [e1] at e2
  have := sum_one (prev M i) l k y hk hy
  omega
/-- Cells of a row of bytes that may be written. -/
structure Bt (w : World) (g : Nat) (l : List UInt8) : Prop where
  lt : g < w.heap.size
  cell : ∀ j (hj : j < l.length), w.cell? ⟨g, j, none⟩ = some (.int .u8 (l[j].toNat : Int))
  free : ∀ j, j < l.length → w.frozen? ⟨g, j, none⟩ = false
theorem Bt.kept {w w' : World} {g : Nat} {l : List UInt8} (h : Bt w g l) (k : Below w.heap.size w w') : Bt w' g l :=
  ⟨Nat.lt_of_lt_of_le h.lt k.size, fun j hj => by rw [k.cell (by simpa using h.lt)]; exact h.cell j hj, fun j hj => by rw [k.frozen (by simpa using h.lt)]; exact h.free j hj⟩
theorem Bt.set {w : World} {g k : Nat} {l : List UInt8} (h : Bt w g l) (hk : k < l.length) (y : UInt8) : Bt (w.setCell ⟨g, k, none⟩ (.int .u8 (y.toNat : Int))) g (l.set k y) := by
  refine ⟨by simpa [World.setCell] using h.lt, fun j hj => ?_, fun j hj => by rw [List.length_set] at hj; simpa using h.free j hj⟩
  rw [List.length_set] at hj
  rw [List.getElem_set]
  by_cases e : k = j
  · subst e
    rw [if_pos rfl]
    exact World.cell?_setCell_same' _ _ _ (by rw [h.cell _ hk]; rfl)
  · rw [if_neg e, cell_set_other (by exact e)]
    exact h.cell j hj
theorem Bt.back {w : World} {g cap n : Nat} {l : List UInt8} (h : Bt w g l) (hn : l.length = n) : (convert 22 9 (.slice (some ⟨g, 0, none⟩) n cap)).run Tryd.prog w = .ok (.string ⟨l.toArray⟩) w := by
  subst hn
  refine run_convert_bytes_back _ _ _ 5 ⟨g, 0, none⟩ cap l Tryd.underlying22 Tryd.underlying5 Tryd.underlying9 (fun j hj => ?_)
  rw [Go.WideShapes.add_plain, Nat.zero_add]
  exact h.cell j hj
/-- '[]byte(s)': a new row of the text's bytes. -/
theorem bytes_new (w : World) (l : List UInt8) : ∃ w' cap, (convert 9 22 (.string ⟨l.toArray⟩)).run Tryd.prog w = .ok (.slice (some ⟨w.heap.size, 0, none⟩) l.length cap) w' ∧ Below w.heap.size w w' ∧ Bt w' w.heap.size l := by
  have hs : (⟨l.toArray⟩ : ByteArray).size = l.length := by show l.toArray.size = _; simp
  have hrun := run_bytes_of_string (P := Tryd.prog) w 9 22 5 ⟨l.toArray⟩ Tryd.underlying9 Tryd.underlying22 Tryd.underlying5
  rw [hs] at hrun
  generalize grownCap w l.length 0 5 = cap at hrun
  have hz : l.length ≤ (bytesRow ⟨l.toArray⟩ cap).size := by simp [bytesRow]
  refine ⟨_, cap, hrun, ((Below.refl w.heap.size w).drew).alloc (Nat.le_refl _) _, ?_⟩
  refine ⟨by simp, fun j hj => ?_, fun j hj => ?_⟩
  · have h1 := World.cell?_alloc_mark w.drew (bytesRow ⟨l.toArray⟩ cap) 5 ((bytesRow ⟨l.toArray⟩ cap).size, (bytesRow ⟨l.toArray⟩ cap).size + 1) j
    have h2 := bytesRow_at ⟨l.toArray⟩ cap j (by simpa using hj)
    refine (h1.trans h2).trans ?_
    simp
  · have h1 := World.frozen?_alloc_mark w.drew (bytesRow ⟨l.toArray⟩ cap) 5 (bytesRow ⟨l.toArray⟩ cap).size ((bytesRow ⟨l.toArray⟩ cap).size + 1) j
    refine h1.trans ?_
    have : ∀ n : Nat, j < n → (decide (n ≤ j) && decide (j < n + 1)) = false := fun n hn => by simp; omega
    exact this _ (by omega)
set_option maxRecDepth 100000 in
set_option maxHeartbeats 4000000 in
theorem likeLog_any (a b : Option Addr) (ca cb n : Nat) (L : List Ln) (w : World) (ha : Rd w a L) (hb : Rd w b L) (hn : L.length = n) (hl : n ≤ 9223372036854775806) :
    Calls Tryd.prog 14 #[.slice a n ca, .slice b n cb] w fun e w' => e = .returned (.bool true) ∧ ∃ m, w' = w.drewN m := by
  have HA := hidIt ha
  have HB := hidIt hb
  have HN := hidIt hn
  clear ha hb hn
  have hnn : ((n : Int) != (n : Int)) = false := by simp
  go_enter Tryd.func14, Tryd.ntmps14
  go_wp2_with (fail)
  go_loopw [5] (fun y wx => ∃ i m : Nat, y = .int .i64 i ∧ i ≤ n ∧ wx = w.drewN m) (fun y _ => (n - intOf y).toNat)
  case atStart => exact ⟨0, 0, rfl, by omega, rfl⟩
  case round =>
    obtain ⟨i, m, rfl, hi, rfl⟩ := hrel
    by_cases hin : i < n
    · have hin' : (i : Int) < (n : Int) := by omega
      obtain ⟨b1, o1, rfl, c0, c1⟩ := HA.out.cell i (by rw [HN.out]; omega)
      obtain ⟨b2, o2, rfl, d0, d1⟩ := HB.out.cell i (by rw [HN.out]; omega)
      generalize lat L i = x at c0 c1 d0 d1
      obtain ⟨s, q⟩ := x
      clear HA HB
      go_wp2_with (fail)
      go_quiet (fail)
      go_wp2_with (fail)
      exact ⟨⟨i + 1, _, by simp, by omega, rfl⟩, by simp [intOf]; omega⟩
    · have hin' : ¬ (i : Int) < (n : Int) := by omega
      go_wp2_with (fail)
      go_ret
      exact ⟨rfl, m, rfl⟩
end Go.Proofs.YtoijollhmchalaaDoor.Lg
