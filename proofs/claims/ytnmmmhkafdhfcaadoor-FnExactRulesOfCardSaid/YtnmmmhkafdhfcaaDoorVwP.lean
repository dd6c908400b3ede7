/-
  What one sees, in plain words: tokens, the Rules of a token, which Keys are svc/NAME, what is Seen, what is let.
-/
import Derived.Test.YtnmmmhkafdhfcaaDoorBokW
import Derived.Test.YtnmmmhkafdhfcaaDoorRuV
import Derived.Test.YtnmmmhkafdhfcaaDoorRuF
import Derived.Test.YtnmmmhkafdhfcaaDoorNameT
namespace Go.Proofs.YtnmmmhkafdhfcaaDoor.Vw
open Go.ChangeShapes Go.WideShapes Go.ChangeAt Go.RowKit
set_option linter.unusedVariables false
theorem hidIt {p : Prop} (h : p) : Hid p := h
abbrev Bytes := List UInt8
abbrev bs (s : ByteArray) : Bytes := s.data.toList
theorem bs_length (s : ByteArray) : (bs s).length = s.size := by cases s; simp [ByteArray.size]
theorem bs_inj {a b : ByteArray} (h : bs a = bs b) : a = b := by
  cases a
  cases b
  simp [bs] at h
  rw [h]
/-- A letter a to z. -/
def letB (b : UInt8) : Bool := decide (97 ≤ b.toNat) && decide (b.toNat ≤ 122)
theorem letB_yes {b : UInt8} (h : 97 ≤ b.toNat) (k : b.toNat ≤ 122) : letB b = true := by simp [letB, h, k]
theorem letB_no {b : UInt8} (h : b.toNat < 97 ∨ 122 < b.toNat) : letB b = false := by
  unfold letB
  rcases h with h | h
  · rw [decide_eq_false (by omega), Bool.false_and]
  · rw [decide_eq_false (p := b.toNat ≤ 122) (by omega), Bool.and_false]
theorem let_arms (n : Nat) : (97 ≤ n ∧ n ≤ 122) ∨ n < 97 ∨ (97 ≤ n ∧ 122 < n) := by omega
def tokB (s : ByteArray) : Bool := (decide (1 ≤ (s.size : Int)) && decide ((s.size : Int) ≤ 12)) && (bs s).all letB
theorem tok_bad {s : ByteArray} {i : Nat} (hi : i < s.size) (h : letB s[i] = false) : tokB s = false := by
  have : (bs s).all letB = false := by
    rw [List.all_eq_false]
    exact ⟨s[i], by show s[i] ∈ s.data.toList; rw [Array.mem_toList_iff]; exact Array.getElem_mem hi, by rw [h]; simp⟩
  unfold tokB
  rw [this, Bool.and_false]
theorem tok_all {s : ByteArray} (h : ∀ j, (hj : j < s.size) → letB s[j] = true) : tokB s = (decide (1 ≤ (s.size : Int)) && decide ((s.size : Int) ≤ 12)) := by
  have : (bs s).all letB = true := by
    rw [List.all_eq_true]
    intro c hc
    obtain ⟨j, hj, rfl⟩ := List.mem_iff_getElem.1 hc
    exact h j (by simpa using hj)
  unfold tokB
  rw [this, Bool.and_true]
theorem tok_long {s : ByteArray} (h : 12 < s.size) : tokB s = false := by
  unfold tokB
  rw [decide_eq_false (p := (s.size : Int) ≤ 12) (by omega), Bool.and_false, Bool.false_and]
theorem tok_none {s : ByteArray} (h : s.size < 1) : tokB s = false := by
  unfold tokB
  rw [decide_eq_false (p := 1 ≤ (s.size : Int)) (by omega), Bool.false_and, Bool.false_and]
theorem tok_size {s : ByteArray} (h : tokB s = true) : 1 ≤ s.size ∧ s.size ≤ 12 := by
  simp only [tokB, Bool.and_eq_true, decide_eq_true_eq] at h
  omega
/-- The Key of a token's Rules. -/
abbrev aclK (t : ByteArray) : ByteArray := ⟨#[97, 99, 108, 47]⟩ ++ t
def valV (L : List En.Rw) (t : ByteArray) : Bytes × Bool := Bk.valB (En.toB L) (En.bs (aclK t))
def valT (L : List En.Rw) (t : ByteArray) : ByteArray := ⟨⟨(valV L t).1⟩⟩
theorem valT_is {L : List En.Rw} {t u : ByteArray} (h : En.bs u = (Bk.valB (En.toB L) (En.bs (aclK t))).1) : u = valT L t := bs_inj h
/-- The Rules of a token. -/
def rulR (L : List En.Rw) (t : ByteArray) : Option (List Ru.Rw) := if (Bk.okBk (En.toB L) && (tokB t && (valV L t).2)) = true then Ru.readR (valT L t) else none
theorem rul_no1 {L : List En.Rw} {t : ByteArray} (h : Bk.okBk (En.toB L) = false) : rulR L t = none := by unfold rulR; rw [h]; rfl
theorem rul_no2 {L : List En.Rw} {t : ByteArray} (h : tokB t = false) : rulR L t = none := by unfold rulR; rw [h]; simp
theorem rul_no3 {L : List En.Rw} {t : ByteArray} (h : (valV L t).2 = false) : rulR L t = none := by unfold rulR; rw [h]; simp
theorem rul_is {L : List En.Rw} {t : ByteArray} (h : Bk.okBk (En.toB L) = true) (k : tokB t = true) (g : (valV L t).2 = true) : rulR L t = Ru.readR (valT L t) := by unfold rulR; rw [h, k, g]; rfl
theorem rul_ok {L : List En.Rw} {t : ByteArray} {R : List Ru.Rw} (h : rulR L t = some R) : Bk.okBk (En.toB L) = true ∧ Ru.okR R = true := by
  unfold rulR at h
  split at h
  · rename_i hc
    rw [Bool.and_eq_true] at hc
    exact ⟨hc.1, ((Ru.read_iff _ R).1 h).1⟩
  · cases h
theorem rul_len (L : List En.Rw) (t : ByteArray) : ((rulR L t).getD []).length ≤ 12 := by
  cases e : rulR L t with
  | none => simp
  | some R => exact Ru.okR_len (rul_ok e).2
/-- A Key svc/NAME. -/
def svcB (k : ByteArray) : Bool := decide (5 ≤ k.size) && (decide (bs (k.extract 0 4) = [115, 118, 99, 47]) && Nm.okB (bs (k.extract 4 k.size)))
def svcN (k : ByteArray) : ByteArray := if (decide (5 ≤ k.size) && decide (bs (k.extract 0 4) = [115, 118, 99, 47])) = true then k.extract 4 k.size else ⟨#[]⟩
def seeB (R : List Ru.Rw) (x : En.Rw) : Bool := svcB x.1 && (!x.2.2.2.2 && Ru.mayR R (Ru.bs x.1) false)
def seenL (L : List En.Rw) (R : List Ru.Rw) : List En.Rw := L.filter (seeB R)
theorem seen_take (L : List En.Rw) (R : List Ru.Rw) {i : Nat} (hi : i < L.length) : seenL (L.take (i + 1)) R = if seeB R (En.rat L i) = true then seenL (L.take i) R ++ [En.rat L i] else seenL (L.take i) R := by
  unfold seenL
  rw [En.take_rat hi, List.filter_append, List.filter_cons, List.filter_nil]
  split
  · rfl
  · simp
theorem seenL_length (L : List En.Rw) (R : List Ru.Rw) : (seenL L R).length ≤ L.length := List.length_filter_le _ _
def seenR (L : List En.Rw) (t : ByteArray) : List En.Rw := match rulR L t with
  | some R => seenL L R
  | none => []
def letsR (L : List En.Rw) (t k : ByteArray) (wr : Bool) : Bool := match rulR L t with
  | some R => Ru.mayR R (Ru.bs k) wr
  | none => false
theorem seenR_some {L : List En.Rw} {t : ByteArray} {R : List Ru.Rw} (h : rulR L t = some R) : seenR L t = seenL L R := by unfold seenR; rw [h]
theorem seenR_none {L : List En.Rw} {t : ByteArray} (h : rulR L t = none) : seenR L t = [] := by unfold seenR; rw [h]
theorem seenR_len (L : List En.Rw) (t : ByteArray) : (seenR L t).length ≤ 80 := by
  cases e : rulR L t with
  | none => rw [seenR_none e]; simp
  | some R =>
    rw [seenR_some e]
    have := Bk.ok_len (rul_ok e).1
    rw [List.length_map] at this
    exact Nat.le_trans (seenL_length L R) this
theorem letsR_some {L : List En.Rw} {t k : ByteArray} {wr : Bool} {R : List Ru.Rw} (h : rulR L t = some R) : letsR L t k wr = Ru.mayR R (Ru.bs k) wr := by unfold letsR; rw [h]
theorem letsR_none {L : List En.Rw} {t k : ByteArray} {wr : Bool} (h : rulR L t = none) : letsR L t k wr = false := by unfold letsR; rw [h]
theorem okR_short {R : List Ru.Rw} (h : Ru.okR R = true) : ∀ i, i < R.length → (Ru.rat R i).1.size ≤ 9223372036854775807 := fun i hi => by
  have := Ru.okP_len (Ru.okR_at h hi)
  omega
end Go.Proofs.YtnmmmhkafdhfcaaDoor.Vw
