/-
  RuleFor and May of the specification.
-/
import Derived.Test.YtbdibkcamomgpaaRuS
import Derived.Test.YtbdibkcamomgpaaBoxM
namespace Go.Proofs.Ytbdibkcamomgpaa.Ru
open Go.ChangeShapes Go.WideShapes Go.ChangeAt Go.RowKit
set_option linter.unusedVariables false
theorem bs_front (s : ByteArray) (b : Nat) : bs (s.extract 0 b) = (bs s).take b := by
  unfold bs
  rw [Go.Lib.extract_data]
  simp
theorem fit_text (x k : ByteArray) : fit (bs x) (bs k) = ((k.extract 0 x.size).toList == x.toList) := by
  rw [eq_of, bs_front]
  unfold fit
  rw [bs_length]
theorem fit_long {x k : ByteArray} (h : ¬ x.size ≤ k.size) : fit (bs x) (bs k) = false := fit_no (by rw [bs_length, bs_length]; exact h)
def bi : Option Nat → Int
  | none => -1
  | some j => j
set_option maxRecDepth 100000 in
set_option maxHeartbeats 8000000 in
theorem spec_l14For (a : Option Addr) (cap : Nat) (L : List Rw) (k : ByteArray) (w : World) (h : Rd w a L) (hl : L.length ≤ 9223372036854775807) (hs : ∀ i, i < L.length → (rat L i).1.size ≤ 9223372036854775807) (hk : k.size ≤ 9223372036854775807) :
    Calls Try.prog 36 #[.slice a L.length cap, .string k] w fun e w' => e = .returned (.int .i64 (bi (bestAt L (bs k) L.length))) ∧ Below w.heap.size w w' := by
  have HR := hidIt h
  have HS := hidIt hs
  clear h hs
  have HS1 : Hid (∀ n, fit (kat L n) (bs k) = false → bestAt L (bs k) (n + 1) = bestAt L (bs k) n) := hidIt (fun n g => best_skip g)
  have HS2 : Hid (∀ n, fit (kat L n) (bs k) = true → bestAt L (bs k) n = none → bestAt L (bs k) (n + 1) = some n) := hidIt (fun n g e => best_first g e)
  have HS3 : Hid (∀ n j, fit (kat L n) (bs k) = true → bestAt L (bs k) n = some j → (rat L j).1.size < (rat L n).1.size → bestAt L (bs k) (n + 1) = some n) := hidIt (fun n j g e l => best_more g e (by rw [bs_length, bs_length]; exact l))
  have HS4 : Hid (∀ n j, bestAt L (bs k) n = some j → ¬ (rat L j).1.size < (rat L n).1.size → bestAt L (bs k) (n + 1) = some j) := hidIt (fun n j e l => best_stay e (by rw [bs_length, bs_length]; exact l))
  have HS5 : Hid (∀ n j, bestAt L (bs k) n = some j → j < n) := hidIt (fun n j e => (best_some e).1)
  have HS0 : Hid (bestAt L (bs k) 0 = none) := hidIt rfl
  generalize hF : bestAt L (bs k) = F at HS1 HS2 HS3 HS4 HS5 HS0 ⊢
  clear hF
  generalize hn : L.length = m at *
  have HN := hidIt hn
  clear hn
  go_enter Try.func36, Try.ntmps36
  go_wp2_with (fail)
  go_loopw [5, 6] (fun y z wx => ∃ (i : Nat) (b : Option Nat), y = .int .i64 (bi b) ∧ z = .int .i64 i ∧ i ≤ m ∧ Hid (F i = b) ∧ Hid (Below w.heap.size w wx)) (fun _ z _ => (m - intOf z).toNat)
  case atStart => exact ⟨0, none, rfl, rfl, by omega, HS0, hidIt (Below.refl _ _)⟩
  case round =>
    obtain ⟨i, b, rfl, rfl, hi, HE, HB⟩ := hrel
    by_cases hin : i < m
    · have hin' : (i : Int) < (m : Int) := by omega
      have HRx := hidIt (HR.out.kept HB.out)
      obtain ⟨bl, off, ea, c0, _, _⟩ := HRx.out.all (i := i) (by rw [HN.out]; exact hin)
      subst ea
      have hsz := HS.out i hin
      obtain ⟨x, hx⟩ : ∃ x, (rat L i).1 = x := ⟨_, rfl⟩
      have hf : fit (kat L i) (bs k) = fit (bs x) (bs k) := by unfold kat; rw [hx]
      rw [hx] at c0 hsz
      have HX := hidIt hx
      clear hx
      by_cases hlen : x.size ≤ k.size
      · have hlen' : (x.size : Int) ≤ (k.size : Int) := by omega
        rw [fit_text x k] at hf
        cases hb : ((k.extract 0 x.size).toList == x.toList) with
        | false =>
          rw [hb] at hf
          have HE' := hidIt ((HS1.out i hf).trans HE.out)
          clear hf
          go_wp2_with (fail)
          exact ⟨⟨i + 1, b, rfl, by simp, by omega, HE', HB⟩, by simp [intOf]; omega⟩
        | true =>
          rw [hb] at hf
          cases b with
          | none =>
            have HE' := hidIt (HS2.out i hf HE.out)
            clear hf
            have hneg : bi none < 0 := by decide
            go_wp2_with (fail)
            exact ⟨⟨i + 1, some i, rfl, by simp, by omega, HE', HB⟩, by simp [intOf]; omega⟩
          | some j =>
            have hj := HS5.out i j HE.out
            obtain ⟨bl', off', ea, p0, _, _⟩ := HRx.out.all (i := j) (by rw [HN.out]; omega)
            cases ea
            have hsj := HS.out j (by omega)
            obtain ⟨y, hy⟩ : ∃ y, (rat L j).1 = y := ⟨_, rfl⟩
            rw [hy] at p0 hsj
            have HY := hidIt hy
            clear hy
            have hbi : bi (some j) = (j : Int) := rfl
            rw [hbi]
            have hneg : ¬ (j : Int) < 0 := by omega
            by_cases hlt : y.size < x.size
            · have hlt' : (y.size : Int) < (x.size : Int) := by omega
              have HE' := hidIt (HS3.out i j hf HE.out (by rw [HX.out, HY.out]; exact hlt))
              clear hf
              go_wp2_with (fail)
              exact ⟨⟨i + 1, some i, rfl, by simp, by omega, HE', HB⟩, by simp [intOf]; omega⟩
            · have hlt' : ¬ (y.size : Int) < (x.size : Int) := by omega
              have HE' := hidIt (HS4.out i j HE.out (by rw [HX.out, HY.out]; exact hlt))
              clear hf
              go_wp2_with (fail)
              exact ⟨⟨i + 1, some j, rfl, by simp, by omega, HE', HB⟩, by simp [intOf]; omega⟩
      · have hlen' : ¬ (x.size : Int) ≤ (k.size : Int) := by omega
        rw [fit_long hlen] at hf
        have HE' := hidIt ((HS1.out i hf).trans HE.out)
        clear hf
        go_wp2_with (fail)
        exact ⟨⟨i + 1, b, rfl, by simp, by omega, HE', HB⟩, by simp [intOf]; omega⟩
    · have hin' : ¬ (i : Int) < (m : Int) := by omega
      have HI : Hid (i = m) := hidIt (by omega)
      have er : bi b = bi (F m) := by rw [← HE.out, HI.out]
      go_wp2_with (fail)
      go_ret
      exact ⟨rfl, HB.out⟩
def zr : Rw := (ByteArray.empty, false, false)
set_option maxRecDepth 100000 in
set_option maxHeartbeats 8000000 in
theorem spec_RuleFor (a : Option Addr) (cap : Nat) (L : List Rw) (k : ByteArray) (w : World) (h : Rd w a L) (hl : L.length ≤ 9223372036854775807) (hs : ∀ i, i < L.length → (rat L i).1.size ≤ 9223372036854775807) (hk : k.size ≤ 9223372036854775807) :
    Calls Try.prog 31 #[.slice a L.length cap, .string k] w fun e w' => e = .returned (.tuple #[rv ((forR L (bs k)).getD zr), .bool (forR L (bs k)).isSome]) ∧ Below w.heap.size w w' := by
  have HR := hidIt h
  have CF := hidIt (fun W (r : Rd W a L) => spec_l14For a cap L k W r hl hs hk)
  have CO := hidIt (fun W (r : Rd W a L) => spec_RulesOk a cap L W r hl hs)
  have HF1 : Hid (okR L = false → forR L (bs k) = none) := hidIt (fun e => for_bad e)
  have HF2 : Hid (okR L = true → forR L (bs k) = (bestAt L (bs k) L.length).map (rat L)) := hidIt (fun e => for_ok e)
  have HF3 : Hid (∀ j, bestAt L (bs k) L.length = some j → j < L.length) := hidIt (fun j e => (best_some e).1)
  generalize bestAt L (bs k) L.length = b at CF HF2 HF3
  generalize forR L (bs k) = f at HF1 HF2 ⊢
  generalize okR L = o at CO HF1 HF2
  clear h hs
  generalize hn : L.length = m at *
  have HN := hidIt hn
  clear hn
  have HB := hidIt ((Below.refl w.heap.size w).alloc (Nat.le_refl _) (.cells #[.string ByteArray.empty, .bool false, .bool false] 52))
  have BX := hidIt (Bo.Box.new w #[.string ByteArray.empty, .bool false, .bool false] 52)
  go_enter Try.func31, Try.ntmps31
  go_wp2_with (fail)
  refine (CF.out _ (HR.out.kept HB.out)).mono ?_
  rintro e w1 ⟨rfl, kk⟩
  replace HB := hidIt (HB.out.trans (kk.mono HB.out.size))
  replace BX := hidIt (BX.out.kept kk)
  clear kk
  go_wp2_with (fail)
  refine (CO.out _ (HR.out.kept HB.out)).mono ?_
  rintro e w2 ⟨rfl, kk⟩
  replace HB := hidIt (HB.out.trans (kk.mono HB.out.size))
  replace BX := hidIt (BX.out.kept kk)
  clear kk
  have f0 := BX.out.c 0 rfl
  have f1 := BX.out.c 1 rfl
  have f2 := BX.out.c 2 rfl
  have g0 := BX.out.fr 0
  have g1 := BX.out.fr 1
  have g2 := BX.out.fr 2
  cases o with
  | false =>
    have ef := HF1.out rfl
    subst ef
    have B3 := hidIt (((BX.out.put 0 (.string ⟨#[]⟩) (by simp) rfl).put 1 (.bool false) (by simp) rfl).put 2 (.bool false) (by simp) rfl)
    have K3 := hidIt (((HB.out.setCell (p := ⟨w.heap.size, 0, none⟩) (Nat.le_refl _) (.string ⟨#[]⟩)).setCell (p := ⟨w.heap.size, 1, none⟩) (Nat.le_refl _) (.bool false)).setCell (p := ⟨w.heap.size, 2, none⟩) (Nat.le_refl _) (.bool false))
    go_wp2_with (fail)
    generalize ((w2.setCell ⟨w.heap.size, 0, none⟩ (.string ⟨#[]⟩)).setCell ⟨w.heap.size, 1, none⟩ (.bool false)).setCell ⟨w.heap.size, 2, none⟩ (.bool false) = w3 at B3 K3 ⊢
    clear f0 f1 f2 g0 g1 g2
    have f0 := B3.out.c 0 rfl
    have f1 := B3.out.c 1 rfl
    have f2 := B3.out.c 2 rfl
    refine bodyPost_ret (v := .tuple #[rv (⟨#[]⟩, false, false), .bool false]) (by simp [results, Try.results31, go_sem, f0, f1, f2]) rfl ⟨rfl, K3.out⟩
  | true =>
    have ef := HF2.out rfl
    cases b with
    | none =>
      replace ef : f = none := ef
      subst ef
      have hneg : bi none < 0 := by decide
      have B3 := hidIt (((BX.out.put 0 (.string ⟨#[]⟩) (by simp) rfl).put 1 (.bool false) (by simp) rfl).put 2 (.bool false) (by simp) rfl)
      have K3 := hidIt (((HB.out.setCell (p := ⟨w.heap.size, 0, none⟩) (Nat.le_refl _) (.string ⟨#[]⟩)).setCell (p := ⟨w.heap.size, 1, none⟩) (Nat.le_refl _) (.bool false)).setCell (p := ⟨w.heap.size, 2, none⟩) (Nat.le_refl _) (.bool false))
      go_wp2_with (fail)
      generalize ((w2.setCell ⟨w.heap.size, 0, none⟩ (.string ⟨#[]⟩)).setCell ⟨w.heap.size, 1, none⟩ (.bool false)).setCell ⟨w.heap.size, 2, none⟩ (.bool false) = w3 at B3 K3 ⊢
      clear f0 f1 f2 g0 g1 g2
      have f0 := B3.out.c 0 rfl
      have f1 := B3.out.c 1 rfl
      have f2 := B3.out.c 2 rfl
      refine bodyPost_ret (v := .tuple #[rv (⟨#[]⟩, false, false), .bool false]) (by simp [results, Try.results31, go_sem, f0, f1, f2]) rfl ⟨rfl, K3.out⟩
    | some j =>
      replace ef : f = some (rat L j) := ef
      subst ef
      have hj := HF3.out j rfl
      have hbi : bi (some j) = (j : Int) := rfl
      rw [hbi]
      have hneg : ¬ (j : Int) < 0 := by omega
      have HRx := hidIt (HR.out.kept HB.out)
      obtain ⟨bl, off, ea, c0, c1, c2⟩ := HRx.out.all (i := j) (by rw [HN.out]; exact hj)
      subst ea
      obtain ⟨x, hx⟩ : ∃ x, rat L j = x := ⟨_, rfl⟩
      rw [hx] at c0 c1 c2
      have HX := hidIt hx
      clear hx
      obtain ⟨x0, x1, x2⟩ := x
      simp only at c0 c1 c2
      have B3 := hidIt (((BX.out.put 0 (.string x0) (by simp) rfl).put 1 (.bool x1) (by simp) rfl).put 2 (.bool x2) (by simp) rfl)
      have K3 := hidIt (((HB.out.setCell (p := ⟨w.heap.size, 0, none⟩) (Nat.le_refl _) (.string x0)).setCell (p := ⟨w.heap.size, 1, none⟩) (Nat.le_refl _) (.bool x1)).setCell (p := ⟨w.heap.size, 2, none⟩) (Nat.le_refl _) (.bool x2))
      go_wp2_with (fail)
      generalize ((w2.setCell ⟨w.heap.size, 0, none⟩ (.string x0)).setCell ⟨w.heap.size, 1, none⟩ (.bool x1)).setCell ⟨w.heap.size, 2, none⟩ (.bool x2) = w3 at B3 K3 ⊢
      clear f0 f1 f2 g0 g1 g2 c0 c1 c2
      have f0 := B3.out.c 0 rfl
      have f1 := B3.out.c 1 rfl
      have f2 := B3.out.c 2 rfl
      refine bodyPost_ret (v := .tuple #[rv (x0, x1, x2), .bool true]) (by simp [results, Try.results31, go_sem, f0, f1, f2]) rfl ⟨by rw [HX.out]; rfl, K3.out⟩
set_option maxRecDepth 100000 in
set_option maxHeartbeats 8000000 in
theorem spec_May (a : Option Addr) (cap : Nat) (L : List Rw) (k : ByteArray) (wr : Bool) (w : World) (h : Rd w a L) (hl : L.length ≤ 9223372036854775807) (hs : ∀ i, i < L.length → (rat L i).1.size ≤ 9223372036854775807) (hk : k.size ≤ 9223372036854775807) :
    Calls Try.prog 21 #[.slice a L.length cap, .string k, .bool wr] w fun e w' => e = .returned (.bool (mayR L (bs k) wr)) ∧ Below w.heap.size w w' := by
  have C := hidIt (spec_RuleFor a cap L k w h hl hs hk)
  unfold mayR
  generalize forR L (bs k) = f at C ⊢
  generalize L.length = m at *
  have HR := hidIt h
  clear h hs
  cases f with
  | none =>
    go_enter Try.func21, Try.ntmps21
    go_wp2_with (fail)
    refine C.out.mono ?_
    rintro e w1 ⟨rfl, kk⟩
    have HB := hidIt kk
    clear kk
    simp only [Option.getD_none, Option.isSome_none, rv, zr]
    go_wp2_with (fail)
    go_ret
    exact ⟨rfl, by go_grown <;> first | exact HB.out | exact HB.out.size⟩
  | some x =>
    obtain ⟨x0, x1, x2⟩ := x
    cases wr with
    | false =>
      go_enter Try.func21, Try.ntmps21
      go_wp2_with (fail)
      refine C.out.mono ?_
      rintro e w1 ⟨rfl, kk⟩
      have HB := hidIt kk
      clear kk
      simp only [Option.getD_some, Option.isSome_some, rv]
      go_wp2_with (fail)
      go_ret
      exact ⟨rfl, by go_grown <;> first | exact HB.out | exact HB.out.size⟩
    | true =>
      cases x2 with
      | false =>
        go_enter Try.func21, Try.ntmps21
        go_wp2_with (fail)
        refine C.out.mono ?_
        rintro e w1 ⟨rfl, kk⟩
        have HB := hidIt kk
        clear kk
        simp only [Option.getD_some, Option.isSome_some, rv]
        go_wp2_with (fail)
        go_ret
        exact ⟨rfl, by go_grown <;> first | exact HB.out | exact HB.out.size⟩
      | true =>
        go_enter Try.func21, Try.ntmps21
        go_wp2_with (fail)
        refine C.out.mono ?_
        rintro e w1 ⟨rfl, kk⟩
        have HB := hidIt kk
        clear kk
        simp only [Option.getD_some, Option.isSome_some, rv]
        go_wp2_with (fail)
        go_ret
        exact ⟨rfl, by go_grown <;> first | exact HB.out | exact HB.out.size⟩
end Go.Proofs.Ytbdibkcamomgpaa.Ru
