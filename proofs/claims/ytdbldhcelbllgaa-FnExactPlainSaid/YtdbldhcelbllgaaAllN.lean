/-
  Whether all of a list are names: allNames of the program.
-/
import Derived.Test.YtdbldhcelbllgaaNameR
import Derived.Test.YtdbldhcelbllgaaNameL
namespace Go.Proofs.Ytdbldhcelbllgaa.Nm
open Go.ChangeShapes Go.WideShapes Go.ChangeAt Go.RowKit
/-- The bytes of the texts. -/
abbrev bL (L : List ByteArray) : List Bytes := L.map bs
theorem all_take {α : Type} {p : α → Bool} {L : List α} {i : Nat} (hi : i < L.length) (h : (L.take i).all p = true) (hp : p L[i] = true) : (L.take (i + 1)).all p = true := by
  rw [List.take_add_one, List.getElem?_eq_getElem hi, List.all_append, h]
  simp [hp]
theorem all_bad {α : Type} {p : α → Bool} {L : List α} {i : Nat} (hi : i < L.length) (hp : p L[i] = false) : L.all p = false := by
  cases h : L.all p with
  | false => rfl
  | true => rw [List.all_eq_true.1 h _ (List.getElem_mem hi)] at hp; cases hp
theorem bL_at {L : List ByteArray} {i : Nat} (h : i < L.length) : (bL L)[i]'(by simpa using h) = bs (sat L i) := by rw [sat_at h]; simp
theorem bL_length (L : List ByteArray) : (bL L).length = L.length := List.length_map _
set_option maxRecDepth 100000 in
set_option maxHeartbeats 2000000 in
theorem impl_allNames (a : Option Addr) (cap : Nat) (L : List ByteArray) (w : World) (h : Rd w a L) (hl : L.length ≤ 1000000000) :
    Calls Try.prog 38 #[.slice a L.length cap] w fun e w' => e = .returned (.bool ((bL L).all okB)) ∧ Below w.heap.size w w' := by
  have HR := hidIt h
  clear h
  have hbad : Hid (∀ i, i < L.length → okB (bs (sat L i)) = false → (bL L).all okB = false) := hidIt (fun i hin hk => all_bad (i := i) (by rw [bL_length]; exact hin) (by rw [bL_at hin]; exact hk))
  have hgood : Hid (((bL L).take L.length).all okB = true → (bL L).all okB = true) := hidIt (fun h => by rwa [List.take_of_length_le (by rw [bL_length]; exact Nat.le_refl _)] at h)
  generalize (bL L).all okB = r at hbad hgood ⊢
  go_enter Try.func38, Try.ntmps38
  go_wp2_with (fail)
  go_loopw [7] (fun y wx => ∃ i : Nat, y = .int .i64 i ∧ i ≤ L.length ∧ Hid (((bL L).take i).all okB = true) ∧ Hid (Below w.heap.size w wx)) (fun y _ => (L.length - intOf y).toNat)
  case atStart => exact ⟨0, rfl, by omega, hidIt rfl, hidIt (Below.refl _ _)⟩
  case round =>
    obtain ⟨i, rfl, hi, HA, HB⟩ := hrel
    rcases Nat.lt_or_ge i L.length with hin | hin
    · have g2 : (i : Int) < (L.length : Int) := by omega
      obtain ⟨b, off, rfl, c0⟩ := (HR.out.kept HB.out).cell i hin
      have HK := hidIt (impl_NameOk (sat L i))
      cases hk : okB (bs (sat L i)) with
      | false =>
        rw [hk] at HK
        go_wp2_with (go_at_call 48; refine (HK.out _).mono ?_; rintro e w1 ⟨rfl, hB1⟩)
        go_ret
        refine ⟨?_, HB.out.trans (hB1.mono HB.out.size)⟩
        rw [hbad.out i hin hk]
        rfl
      | true =>
        rw [hk] at HK
        go_wp2_with (go_at_call 48; refine (HK.out _).mono ?_; rintro e w1 ⟨rfl, hB1⟩)
        refine ⟨⟨i + 1, by simp, by omega, hidIt (all_take (by rw [bL_length]; exact hin) HA.out (by rw [bL_at hin]; exact hk)), hidIt (HB.out.trans (hB1.mono HB.out.size))⟩, by simp [intOf]; omega⟩
    · have g2 : ¬ (i : Int) < (L.length : Int) := by omega
      have e : i = L.length := by omega
      go_wp2_with (fail)
      go_ret
      refine ⟨?_, HB.out⟩
      rw [hgood.out (by rw [← e]; exact HA.out)]
      rfl
end Go.Proofs.Ytdbldhcelbllgaa.Nm
