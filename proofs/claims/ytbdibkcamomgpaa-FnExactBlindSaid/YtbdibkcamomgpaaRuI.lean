/-
  The program's prefixOk and RulesOk.
-/
import Derived.Test.YtbdibkcamomgpaaRuS
import Derived.Test.YtbdibkcamomgpaaBoxM
namespace Go.Proofs.Ytbdibkcamomgpaa.Ru
open Go.ChangeShapes Go.WideShapes Go.ChangeAt Go.RowKit
open Go.Proofs.Ytbdibkcamomgpaa.Rc (BelowBy BelowBy.one wp_region_below calls_below calls_same)
set_option linter.unusedVariables false
theorem str_geq (t : TypeId) (a b : ByteArray) : binOp .geq t (.string a) (.string b) = pure (.bool (!Op.bytesLess a.toList b.toList)) := by simp [binOp, Op.stringOp]
attribute [local go_sem] str_gtr str_leq str_geq
set_option maxRecDepth 100000 in
set_option maxHeartbeats 8000000 in
theorem impl_prefixOk (x : ByteArray) (w : World) (hs : x.size ≤ 9223372036854775807) :
    Calls Try.prog 33 #[.string x] w fun e w' => e = .returned (.bool (okP x)) ∧ w' = w := by
  by_cases h40 : x.size ≤ 40
  · have h40' : ¬ (40 : Int) < (x.size : Int) := by omega
    have HX1 : Hid (∀ j, (hj : j < x.size) → byteP x[j] = false → okP x = false) := hidIt (fun j hj g => okP_no2 hj g)
    have HX2 : Hid ((∀ j, (hj : j < x.size) → byteP x[j] = true) → okP x = true) := hidIt (fun g => okP_yes h40 g)
    generalize okP x = r at HX1 HX2 ⊢
    go_enter Try.func33, Try.ntmps33
    go_wp2_with (fail)
    go_loopw [9] (fun y wx => ∃ q : Nat, y = .int .i64 q ∧ q ≤ x.size ∧ Hid (∀ j, (hj : j < x.size) → j < q → byteP x[j] = true) ∧ wx = w) (fun y _ => (x.size - intOf y).toNat)
    case atStart => exact ⟨0, rfl, by omega, hidIt (fun j _ hj => by omega), rfl⟩
    case round =>
      obtain ⟨q, rfl, hq, HG, rfl⟩ := hrel
      by_cases hqn : q < x.size
      · have hqn' : (q : Int) < (x.size : Int) := by omega
        obtain ⟨n, hb⟩ : ∃ n, (x[q]).toNat = n := ⟨_, rfl⟩
        rcases byte_arms n with a1 | a2 | a3
        · have q1 : decide (((x[q]).toNat : Int) < 33) = false := by rw [hb]; simp; omega
          have q2 : decide ((126 : Int) < ((x[q]).toNat : Int)) = false := by rw [hb]; simp; omega
          have HOK : Hid (byteP x[q] = true) := hidIt (byteP_yes (by omega) (by omega))
          clear hb
          go_wp2_with (fail)
          refine ⟨⟨q + 1, by simp, by omega, hidIt (fun j hj hj' => ?_), trivial⟩, by simp [intOf]; omega⟩
          rcases Nat.lt_or_ge j q with h' | h'
          · exact HG.out j hj h'
          · have : j = q := by omega
            subst this
            exact HOK.out
        · have q1 : decide (((x[q]).toNat : Int) < 33) = true := by rw [hb]; simp; omega
          have er := HX1.out q hqn (byteP_no (Or.inl (by omega)))
          clear hb
          subst er
          go_wp2_with (fail)
          go_ret
          exact ⟨rfl, rfl⟩
        · have q1 : decide (((x[q]).toNat : Int) < 33) = false := by rw [hb]; simp; omega
          have q2 : decide ((126 : Int) < ((x[q]).toNat : Int)) = true := by rw [hb]; simp; omega
          have er := HX1.out q hqn (byteP_no (Or.inr (by omega)))
          clear hb
          subst er
          go_wp2_with (fail)
          go_ret
          exact ⟨rfl, rfl⟩
      · have hqn' : ¬ (q : Int) < (x.size : Int) := by omega
        have er := HX2.out (fun j hj => HG.out j hj (by omega))
        subst er
        go_wp2_with (fail)
        go_ret
        exact ⟨rfl, rfl⟩
  · have h40' : (40 : Int) < (x.size : Int) := by omega
    rw [okP_no1 h40]
    go_enter Try.func33, Try.ntmps33
    go_wp2_with (fail)
    go_ret
    exact ⟨rfl, rfl⟩
set_option maxRecDepth 100000 in
set_option maxHeartbeats 8000000 in
theorem impl_RulesOk (a : Option Addr) (cap : Nat) (L : List Rw) (w : World) (h : Rd w a L) (hl : L.length ≤ 9223372036854775807) (hs : ∀ i, i < L.length → (rat L i).1.size ≤ 9223372036854775807) :
    Calls Try.prog 24 #[.slice a L.length cap] w fun e w' => e = .returned (.bool (okR L)) ∧ Below w.heap.size w w' := by
  have N1 : Hid (¬ L.length ≤ 12 → okR L = false) := hidIt okR_no1
  have N2 : Hid (∀ i, i < L.length → okP (rat L i).1 = false → okR L = false) := hidIt (fun i hi h => okR_no2 hi h)
  have N3 : Hid (∀ i, i + 1 < L.length → ¬ kat L i < kat L (i + 1) → okR L = false) := hidIt (fun i hi h => okR_no3 hi h)
  have N4 : Hid (L.length ≤ 12 → (∀ i, i < L.length → okP (rat L i).1 = true) → (∀ i, i + 1 < L.length → kat L i < kat L (i + 1)) → okR L = true) := hidIt okR_yes
  generalize okR L = r at N1 N2 N3 N4 ⊢
  have HR := hidIt h
  have HS := hidIt hs
  clear h hs
  generalize hn : L.length = m at *
  have HN := hidIt hn
  clear hn
  by_cases h12 : m ≤ 12
  · have h12' : ¬ (12 : Int) < (m : Int) := by omega
    go_enter Try.func24, Try.ntmps24
    go_wp2_with (fail)
    go_loopw [10] (fun y wx => ∃ i : Nat, y = .int .i64 i ∧ i ≤ m ∧ Hid (∀ j, j < i → okP (rat L j).1 = true) ∧ Hid (∀ j, j + 1 < i → kat L j < kat L (j + 1)) ∧ Hid (Below w.heap.size w wx)) (fun y _ => (m - intOf y).toNat)
    case atStart => exact ⟨0, rfl, by omega, hidIt (fun j hj => by omega), hidIt (fun j hj => by omega), hidIt (Below.refl _ _)⟩
    case round =>
      obtain ⟨i, rfl, hi, HO, HK, HB⟩ := hrel
      by_cases hin : i < m
      · have hin' : (i : Int) < (m : Int) := by omega
        have HRx := hidIt (HR.out.kept HB.out)
        obtain ⟨b, off, ea, c0, c1, c2⟩ := HRx.out.all (i := i) (by rw [HN.out]; exact hin)
        subst ea
        have CE := hidIt (fun W => impl_prefixOk (rat L i).1 W (HS.out i hin))
        obtain ⟨ok, hok⟩ : ∃ ok, okP (rat L i).1 = ok := ⟨_, rfl⟩
        rw [hok] at CE
        have hkey : Hid (kat L i = bs (rat L i).1) := hidIt rfl
        have HOK := hidIt hok
        clear hok
        generalize rat L i = x at c0 c1 c2 CE hkey
        obtain ⟨xk, xr, xw⟩ := x
        simp only at CE c0 c1 c2 hkey
        have BX := hidIt (Bo.Box.new wr #[.string xk, .bool xr, .bool xw] 52)
        have HBz := hidIt (HB.out.alloc HB.out.size (.cells #[.string xk, .bool xr, .bool xw] 52))
        have HRz := hidIt (HRx.out.alloc (.cells #[.string xk, .bool xr, .bool xw] 52))
        cases ok with
        | false =>
          have er := N2.out i hin HOK.out
          subst er
          go_wp2_with (fail)
          generalize wr.alloc (.cells #[.string xk, .bool xr, .bool xw] 52) = wz at BX HBz HRz ⊢
          haveI := BelowBy.one wz
          have g0 := fun p : BelowBy wz => p.cell (BX.out.c 0 rfl)
          refine wp_region_below (by kernel_rfl) (by kernel_rfl) ?_
          repeat (go_big_quiet_step (first | (go_at_call 33; refine calls_same (CE.out _))))
          refine wpQuiet_nil ?_
          intro _ hw'
          obtain ⟨pq, rfl⟩ := hw'
          have HB1 := hidIt (HBz.out.trans (pq.h.mono HBz.out.size))
          generalize pq.world = w2 at HB1 ⊢
          clear g0
          go_wp2_with (fail)
          go_ret
          exact ⟨rfl, HB1.out⟩
        | true =>
          have HO' : Hid (∀ j, j < i + 1 → okP (rat L j).1 = true) := hidIt (fun j hj => by
            rcases Nat.lt_succ_iff_lt_or_eq.1 hj with h | h
            · exact HO.out j h
            · subst h; exact HOK.out)
          rcases Nat.eq_zero_or_pos i with hz | hp
          · subst hz
            simp only [Nat.zero_mul, Nat.add_zero] at c0 c1 c2
            go_wp2_with (fail)
            generalize wr.alloc (.cells #[.string xk, .bool xr, .bool xw] 52) = wz at BX HBz HRz ⊢
            haveI := BelowBy.one wz
            have g0 := fun p : BelowBy wz => p.cell (BX.out.c 0 rfl)
            refine wp_region_below (by kernel_rfl) (by kernel_rfl) ?_
            repeat (go_big_quiet_step (first | (go_at_call 33; refine calls_same (CE.out _))))
            refine wpQuiet_nil ?_
            intro _ hw'
            obtain ⟨pq, rfl⟩ := hw'
            have HB1 := hidIt (HBz.out.trans (pq.h.mono HBz.out.size))
            generalize pq.world = w2 at HB1 ⊢
            clear g0
            go_wp2_with (fail)
            exact ⟨⟨1, by simp, by omega, HO', hidIt (fun j hj => by omega), HB1⟩, by simp [intOf]; omega⟩
          · obtain ⟨j, rfl⟩ : ∃ j, i = j + 1 := ⟨i - 1, by omega⟩
            obtain ⟨b', off', ea, p0, _⟩ := HRz.out.all (i := j) (by rw [HN.out]; omega)
            cases ea
            have hkj : Hid (kat L j = bs (rat L j).1) := hidIt rfl
            obtain ⟨pk, epk⟩ : ∃ pk, (rat L j).1 = pk := ⟨_, rfl⟩
            rw [epk] at p0 hkj
            clear epk
            have hless := less_of pk xk
            have hpos : (0 : Int) < ((j : Int) + 1) := by omega
            by_cases hlt : bs pk < bs xk
            · rw [decide_eq_true hlt] at hless
              have HK' : Hid (∀ q, q + 1 < j + 1 + 1 → kat L q < kat L (q + 1)) := hidIt (fun q hq => by
                rcases Nat.lt_succ_iff_lt_or_eq.1 (show q + 1 < j + 1 + 1 from hq) with h | h
                · exact HK.out q h
                · have : q = j := by omega
                  subst this
                  rw [hkj.out, hkey.out]
                  exact hlt)
              clear hlt
              have P0 := hidIt p0
              clear p0
              go_wp2_with (fail)
              generalize wr.alloc (.cells #[.string xk, .bool xr, .bool xw] 52) = wz at BX HBz HRz P0 ⊢
              haveI := BelowBy.one wz
              have g0 := fun p : BelowBy wz => p.cell (BX.out.c 0 rfl)
              have g1 := fun p : BelowBy wz => p.cell P0.out
              refine wp_region_below (by kernel_rfl) (by kernel_rfl) ?_
              repeat (go_big_quiet_step (first | (go_at_call 33; refine calls_same (CE.out _))))
              refine wpQuiet_nil ?_
              intro _ hw'
              obtain ⟨pq, rfl⟩ := hw'
              have HB1 := hidIt (HBz.out.trans (pq.h.mono HBz.out.size))
              generalize pq.world = w2 at HB1 ⊢
              clear g0 g1
              go_wp2_with (fail)
              exact ⟨⟨j + 1 + 1, by simp, by omega, HO', HK', HB1⟩, by simp [intOf]; omega⟩
            · have er := N3.out j (by omega) (by rw [hkj.out, hkey.out]; exact hlt)
              rw [decide_eq_false hlt] at hless
              subst er
              clear hlt
              have P0 := hidIt p0
              clear p0
              go_wp2_with (fail)
              generalize wr.alloc (.cells #[.string xk, .bool xr, .bool xw] 52) = wz at BX HBz HRz P0 ⊢
              haveI := BelowBy.one wz
              have g0 := fun p : BelowBy wz => p.cell (BX.out.c 0 rfl)
              have g1 := fun p : BelowBy wz => p.cell P0.out
              refine wp_region_below (by kernel_rfl) (by kernel_rfl) ?_
              repeat (go_big_quiet_step (first | (go_at_call 33; refine calls_same (CE.out _))))
              refine wpQuiet_nil ?_
              intro _ hw'
              obtain ⟨pq, rfl⟩ := hw'
              have HB1 := hidIt (HBz.out.trans (pq.h.mono HBz.out.size))
              generalize pq.world = w2 at HB1 ⊢
              clear g0 g1
              go_wp2_with (fail)
              go_ret
              exact ⟨rfl, HB1.out⟩
      · have hin' : ¬ (i : Int) < (m : Int) := by omega
        have HI : Hid (i = m) := hidIt (by omega)
        have er := N4.out h12 (fun j hj => HO.out j (by have := HI.out; omega)) (fun j hj => HK.out j (by have := HI.out; omega))
        subst er
        go_wp2_with (fail)
        go_ret
        exact ⟨rfl, HB.out⟩
  · have h12' : (12 : Int) < (m : Int) := by omega
    have er := N1.out h12
    subst er
    go_enter Try.func24, Try.ntmps24
    go_wp2
    go_ret
    exact ⟨rfl, Below.refl _ _⟩
end Go.Proofs.Ytbdibkcamomgpaa.Ru
