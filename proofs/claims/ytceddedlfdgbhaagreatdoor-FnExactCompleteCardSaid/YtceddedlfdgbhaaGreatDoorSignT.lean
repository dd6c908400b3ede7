/-
  Texts: the numerals of a Point with a blank behind each; what the specification hashes of them.
-/
import Derived.Test.YtceddedlfdgbhaaGreatDoorSignN
import Derived.Lib.ItoaLen
namespace Go.Proofs.YtceddedlfdgbhaaGreatDoor.Sg
open Go.ChangeShapes Go.WideShapes Go.ChangeAt Go.RowKit
/-- The numeral of a number. -/
def numS (n : Nat) : ByteArray := ⟨(Lib.itoa n).toArray⟩
def blank : ByteArray := ⟨#[32]⟩
/-- X and Y of a Point, a blank behind each. -/
def ptS (a b : Nat) : ByteArray := numS a ++ blank ++ numS b ++ blank
theorem numS_size (n : Nat) (h : n ≤ 1099511627776) : (numS n).size ≤ 21 := by
  have := Lib.itoa_length_le (n : Int) (by omega) (by omega)
  show (Lib.itoa n).toArray.size ≤ 21
  simpa using this
theorem blank_size : blank.size = 1 := rfl
theorem ptS_size (a b : Nat) (ha : a ≤ 1099511627776) (hb : b ≤ 1099511627776) : (ptS a b).size ≤ 44 := by
  have h1 := numS_size a ha
  have h2 := numS_size b hb
  unfold ptS
  rw [ByteArray.size_append, ByteArray.size_append, ByteArray.size_append, blank_size]
  omega
theorem bcell' {W w1 : World} (hb : Below W.heap.size W w1) : (∀ b o, b < W.heap.size → w1.cell? ⟨b, o, none⟩ = W.cell? ⟨b, o, none⟩) ∧ (∀ b o, b < W.heap.size → w1.frozen? ⟨b, o, none⟩ = W.frozen? ⟨b, o, none⟩) :=
  ⟨fun _ _ h => hb.cell (by simpa using h), fun _ _ h => hb.frozen (by simpa using h)⟩
/-- The challenge of R and the key, both Points, and a text. -/
def chN (r1 r2 k1 k2 : Nat) (s : ByteArray) : Nat := hashN (nums (ptS r1 r2 ++ ptS k1 k2 ++ s)) % 2549
theorem chN_lt (r1 r2 k1 k2 : Nat) (s : ByteArray) : chN r1 r2 k1 k2 s < 2549 := Nat.mod_lt _ (by omega)
end Go.Proofs.YtceddedlfdgbhaaGreatDoor.Sg
