/-
  What the program's side of chapter 15 must give (ImplB), and FnBuckets out of it. (Written by wip/mkBuY.py.)
-/
import Derived.Test.YtiakongbiajlhaaBuW
import Derived.Test.YtiakongbiajlhaaBuD
import Derived.Laws.StructEq
import Derived.Deep.QuietTactic
import Derived.BigQuiet
import Derived.WideLaws
namespace Go.Proofs.Ytiakongbiajlhaa.Bu
open Go.ChangeShapes Go.WideShapes Go.ChangeAt Go.RowKit
open Dr
set_option linter.unusedVariables false
theorem code_at {w wi : World} {a : Option Addr} {len : Nat} (h : Dr.Code w.heap.size w a len) (k : Below w.heap.size w wi) : Dr.Code wi.heap.size wi a len :=
  ⟨fun i hi => by
    obtain ⟨b, off, x, ea, hb, hc, r⟩ := h.cell i hi
    exact ⟨b, off, x, ea, Nat.lt_of_lt_of_le hb k.size, by rw [k.cell (by simpa using hb)]; exact hc, r⟩⟩
set_option maxHeartbeats 2000000 in
theorem big_any (a : Option Addr) (len cap : Nat) (w : World) : Calls Try.prog 7 #[.slice a len cap] w fun e w' => e = .returned (.bool (decide (4096 < (len : Int)))) ∧ w' = w := by
  go_enter Try.func7, Try.ntmps7
  go_wp2
  go_ret
  exact ⟨rfl, rfl⟩
/-- What stays: all that was below, and two lists. -/
structure St (w0 : World) (a b : Option Addr) (L M : List Rw) (W : World) : Prop where
  k : Below w0.heap.size w0 W
  l : Rd W a L
  m : Rd W b M
theorem St.kept {w0 W W' : World} {a b : Option Addr} {L M : List Rw} (h : St w0 a b L M W) (k : Below W.heap.size W W') : St w0 a b L M W' := ⟨h.k.trans (k.mono h.k.size), h.l.kept k, h.m.kept k⟩
theorem St.alloc {w0 W : World} {a b : Option Addr} {L M : List Rw} (h : St w0 a b L M W) (o : Obj) : St w0 a b L M (W.alloc o) := h.kept ((Below.refl _ _).alloc (Nat.le_refl _) o)
theorem drawn_two {L : List Rw} {s now : Int} (h : (drawnR L s now).2 = false) : (okB L = false → (drawnR L s now).1.length = 0) ∧ (okB L = true → (drawnR L s now).1 = L) := by
  refine ⟨fun ho => by rw [drawn_bad ho]; rfl, fun ho => ?_⟩
  cases hg : goes L s now with
  | false => rw [drawn_no ho hg]
  | true => rw [drawn_yes ho hg] at h; cases h
theorem other_ne {s : Int} (h : 0 ≤ s ∧ s ≤ 99) : (s + 1) % 100 ≠ s := by omega
set_option maxRecDepth 100000 in
set_option maxHeartbeats 4000000 in
theorem likeBuckets_same (a b : Option Addr) (ca cb : Nat) (L : List Rw) (w : World) (ha : Rd w a L) (hb : Rd w b L) (hl : L.length ≤ 9223372036854775806) :
    Calls Try.prog 12 #[.slice a L.length ca, .slice b L.length cb] w fun e w' => e = .returned (.bool true) ∧ Below w.heap.size w w' := by
  generalize hn : L.length = n at *
  have HA := hidIt ha
  have HB := hidIt hb
  have HN := hidIt hn
  clear ha hb hn
  have hnn : ((n : Int) != (n : Int)) = false := by simp
  go_enter Try.func12, Try.ntmps12
  go_wp2_with (fail)
  go_loopw [5] (fun y wx => ∃ i : Nat, y = .int .i64 i ∧ i ≤ n ∧ Hid (Below w.heap.size w wx)) (fun y _ => (n - intOf y).toNat)
  case atStart => exact ⟨0, rfl, by omega, hidIt (Below.refl _ _)⟩
  case round =>
    obtain ⟨i, rfl, hi, KX⟩ := hrel
    have RA := hidIt (HA.out.kept KX.out)
    have RB := hidIt (HB.out.kept KX.out)
    have KX' := hidIt (fun x => Go.Proofs.Ytiakongbiajlhaa.Below.drewN KX.out x)
    by_cases hin : i < n
    · have hin' : (i : Int) < (n : Int) := by omega
      obtain ⟨b1, o1, rfl, c0, c1, c2⟩ := RA.out.all (i := i) (by rw [HN.out]; omega)
      obtain ⟨b2, o2, rfl, d0, d1, d2⟩ := RB.out.all (i := i) (by rw [HN.out]; omega)
      generalize rat L i = x at c0 c1 c2 d0 d1 d2
      obtain ⟨x0, x1, x2⟩ := x
      simp only at c0 c1 c2 d0 d1 d2
      have e0 : (x0 == x0) = true := by simp
      have e1 : (x1 == x1) = true := by simp
      have e2 : (x2 == x2) = true := by simp
      clear RA RB HA HB
      go_wp2_with (fail)
      go_quiet (fail)
      go_wp2_with (fail)
      exact ⟨⟨i + 1, by simp, by omega, hidIt (KX'.out _)⟩, by simp [intOf]; omega⟩
    · have hin' : ¬ (i : Int) < (n : Int) := by omega
      go_wp2_with (fail)
      go_ret
      exact ⟨rfl, KX.out⟩
/-- What the program's side must give. -/
structure ImplB : Prop where
  ok : ∀ (a : Option Addr) (cap : Nat) (L : List Rw) (w : World) (h : Rd w a L) (hl : L.length ≤ 9223372036854775807), Calls Try.prog 14 #[.slice a L.length cap] w fun e w' => e = .returned (.bool (okB L)) ∧ Below w.heap.size w w'
  left : ∀ (a : Option Addr) (cap : Nat) (L : List Rw) (s now : Int) (w : World) (h : Rd w a L) (hna : a = none → cap = 0) (hl : L.length ≤ 9223372036854775807), Calls Try.prog 10 #[.slice a L.length cap, .int .i64 s, .int .i64 now] w fun e w' => e = .returned (.int .i64 (leftForR L s now)) ∧ Below w.heap.size w w'
  drawn : ∀ (a : Option Addr) (cap : Nat) (L : List Rw) (s now : Int) (w : World) (h : Rd w a L) (hna : a = none → cap = 0) (hl : L.length ≤ 9223372036854775807), Calls Try.prog 9 #[.slice a L.length cap, .int .i64 s, .int .i64 now] w fun e w' => ∃ v, e = .returned (.tuple #[v, .bool (drawnR L s now).2]) ∧ Own w' w.heap.size v (drawnR L s now).1 ∧ Below w.heap.size w w'
set_option maxRecDepth 100000 in
set_option maxHeartbeats 8000000 in
theorem FnBuckets_any (HI : ImplB) (a0 : Option Addr) (len0 cap0 : Nat) (w : World) (hc : Dr.Code w.heap.size w a0 len0) :
    Calls Try.prog 3 #[.slice a0 len0 cap0] w fun e w' => e = .returned (.bool true) ∧ Below w.heap.size w w' := by
  have HC := hidIt hc
  clear hc
  have cbig := big_any a0 len0 cap0
  by_cases hbig : 4096 < len0
  · rw [decide_eq_true (show (4096 : Int) < (len0 : Int) by omega)] at cbig
    have CBig := hidIt cbig
    clear cbig
    go_enter Try.func3, Try.ntmps3
    go_wp2_with (fail)
    refine (CBig.out _).mono ?_
    rintro e w1 ⟨rfl, hz⟩
    rw [hz]
    clear hz
    go_wp2_with (fail)
    go_ret
    exact ⟨rfl, Below.refl _ _⟩
  have hl0 : len0 ≤ 4096 := by omega
  rw [decide_eq_false (show ¬ (4096 : Int) < (len0 : Int) by omega)] at cbig
  have CBig := hidIt cbig
  clear cbig hbig
  go_enter Try.func3, Try.ntmps3
  go_wp2_with (fail)
  refine (CBig.out _).mono ?_
  rintro e w1 ⟨rfl, hz⟩
  rw [hz]
  clear hz CBig w1
  go_wp2_with (fail)
  refine (DrawDrawn_any a0 len0 cap0 w HC.out hl0).mono ?_
  rintro e w1 ⟨v, s, now, L, rfl, hLn, oL, k1⟩
  obtain ⟨aL, cL, ev, _, _, rL, hnL, _⟩ := oL.form
  subst ev
  have C1 := hidIt (fun W (r : Rd W aL L) => HI.drawn aL cL L s now W r hnL (by omega))
  have C2 := hidIt (fun W (r : Rd W aL L) => HI.left aL cL L s now W r hnL (by omega))
  have C3 := hidIt (fun W (r : Rd W aL L) => spec_Drawn aL cL L s now W r hnL (by omega))
  have C4 := hidIt (fun W (r : Rd W aL L) => spec_LeftFor aL cL L s now W r (by omega))
  have C5 := hidIt (fun W (r : Rd W aL L) => HI.ok aL cL L W r (by omega))
  have C6 := hidIt (fun W (r : Rd W aL L) => spec_BucketsOk aL cL L W r (by omega))
  have C10 := hidIt (fun W (r : Rd W aL L) => HI.left aL cL L ((s + 1) % 100) now W r hnL (by omega))
  have F1 : Hid ((drawnR L s now).2 = true → leftForR (drawnR L s now).1 s now = leftForR L s now - 1 ∧ 1 ≤ leftForR L s now ∧ leftForR L s now ≤ 5 ∧ okB (drawnR L s now).1 = true ∧ (0 ≤ s ∧ s ≤ 99) ∧ leftForR (drawnR L s now).1 ((s + 1) % 100) now = leftForR L ((s + 1) % 100) now) := hidIt (fun h => by
    obtain ⟨h1, h2, h3, h4, h5, h6⟩ := drawn_asks h
    exact ⟨h1, h2, h3, h4, h5, h6 _ (other_ne h5)⟩)
  have F4 : Hid ((drawnR L s now).2 = false → okB L = false → (drawnR L s now).1.length = 0) := hidIt (fun h => (drawn_two h).1)
  have F5 : Hid ((drawnR L s now).2 = false → okB L = true → (drawnR L s now).1 = L) := hidIt (fun h => (drawn_two h).2)
  have hXl := drawn_len L s now
  generalize (drawnR L s now).2 = is at C1 C3 F1 F4 F5
  generalize (drawnR L s now).1 = X at C1 C3 F1 F4 F5 hXl
  generalize leftForR L s now = lf at C2 C4 F1
  generalize leftForR L ((s + 1) % 100) now = lo at C10 F1
  generalize okB L = ok at C5 C6 F4 F5
  generalize hn : L.length = n at *
  have HN := hidIt hn
  clear hn oL
  have RL := hidIt rL
  have KB := hidIt k1
  clear rL k1
  go_wp2_with (fail)
  refine (C1.out _ RL.out).mono ?_
  rintro e w2 ⟨vX, rfl, oX, kk⟩
  obtain ⟨aX, cX, ev, _, _, rX, hnX, _⟩ := oX.form
  subst ev
  have ST := hidIt (St.mk (w0 := w) (KB.out.trans (kk.mono KB.out.size)) (RL.out.kept kk) rX)
  clear kk oX rX RL KB C1
  have C7 := hidIt (fun W (r : Rd W aX X) => HI.left aX cX X s now W r hnX (by omega))
  have C8 := hidIt (fun W (r : Rd W aX X) => HI.ok aX cX X W r (by omega))
  have C9 := hidIt (fun W (r : Rd W aX X) => HI.left aX cX X ((s + 1) % 100) now W r hnX (by omega))
  have CX := hidIt (fun b cb W (r : Rd W aX X) (rb : Rd W b X) => likeBuckets_same aX b cX cb X W r rb (by omega))
  generalize leftForR X s now = lx at C7 F1
  generalize leftForR X ((s + 1) % 100) now = lox at C9 F1
  generalize okB X = okx at C8 F1
  generalize hnx : X.length = nX at *
  have HNX := hidIt hnx
  clear hnx
  go_wp2_with (fail)
  refine (C2.out _ ST.out.l).mono ?_
  rintro e w3 ⟨rfl, kk⟩
  replace ST := hidIt (ST.out.kept kk)
  clear kk
  go_wp2_with (fail)
  refine (C3.out _ ST.out.l).mono ?_
  rintro e w4 ⟨vY, rfl, oY, kk⟩
  replace ST := hidIt (ST.out.kept kk)
  obtain ⟨aY, cY, ev, _, _, rY⟩ := oY.formN HNX.out
  subst ev
  have RY := hidIt rY
  clear kk C3 oY rY
  have e1 : (is != is) = false := by cases is <;> rfl
  have e2 : (ok != ok) = false := by cases ok <;> rfl
  have e3 : (lf != lf) = false := by simp
  go_wp2_with (fail)
  refine (CX.out aY cY _ ST.out.m RY.out).mono ?_
  rintro e w5 ⟨rfl, kk⟩
  replace ST := hidIt (ST.out.kept kk)
  clear kk CX RY
  go_wp2_with (fail)
  refine (C4.out _ ST.out.l).mono ?_
  rintro e w6 ⟨rfl, kk⟩
  replace ST := hidIt (ST.out.kept kk)
  clear kk
  go_wp2_with (fail)
  refine (C5.out _ ST.out.l).mono ?_
  rintro e w7 ⟨rfl, kk⟩
  replace ST := hidIt (ST.out.kept kk)
  clear kk
  go_wp2_with (fail)
  refine (C6.out _ ST.out.l).mono ?_
  rintro e w8 ⟨rfl, kk⟩
  replace ST := hidIt (ST.out.kept kk)
  clear kk
  cases is with
  | true =>
    obtain ⟨g1, g2, g3, g4, g5, g6⟩ := F1.out rfl
    subst g4 g6
    have h1 : (lx != lf - 1) = false := by rw [g1]; simp
    have h2 : ¬ lf < 1 := by omega
    have h3 : ¬ 5 < lf := by omega
    have h4 : ¬ 9223372036854775807 < lf - 1 := by omega
    have h5 : ¬ lf - 1 < -9223372036854775808 := by omega
    have h6 : (lox != lox) = false := by simp
    have h7 : ¬ 9223372036854775807 < s + 1 := by omega
    have h8 : ¬ s + 1 < -9223372036854775808 := by omega
    have h9 : (0 : Int) ≤ s + 1 := by omega
    clear g1
    go_wp2_with (fail)
    refine (C7.out _ ST.out.m).mono ?_
    rintro e w9 ⟨rfl, kk⟩
    replace ST := hidIt (ST.out.kept kk)
    clear kk
    go_wp2_with (fail)
    refine (C8.out _ ST.out.m).mono ?_
    rintro e wa ⟨rfl, kk⟩
    replace ST := hidIt (ST.out.kept kk)
    clear kk
    go_wp2_with (fail)
    refine (C9.out _ ST.out.m).mono ?_
    rintro e wb ⟨rfl, kk⟩
    replace ST := hidIt (ST.out.kept kk)
    clear kk
    go_wp2_with (fail)
    refine (C10.out _ ST.out.l).mono ?_
    rintro e wz ⟨rfl, kk⟩
    replace ST := hidIt (ST.out.kept kk)
    clear kk
    have HOb := hidIt (Own.new wz)
    replace ST := hidIt (ST.out.alloc (.cells #[] 46))
    go_wp2_with (fail)
    go_loopw [12, 13, 14, 15] (fun s12 s13 s14 s15 wx => ∃ (i : Nat) (at' sum : Int) (Lb : List Rw) (ab : Option Addr) (cb nb : Nat), s12 = .slice ab nb cb ∧ s13 = .int .i64 at' ∧ s14 = .int .i64 sum ∧ s15 = .int .i64 i ∧ i ≤ 40 ∧ 0 ≤ at' ∧ at' ≤ 2 * (i : Int) ∧ 0 ≤ sum ∧ sum ≤ (i : Int) ∧ Hid (Lb.length = nb) ∧ Hid (ab = none → cb = 0) ∧ Hid (Inv Lb sum at') ∧ Hid (Rd wx ab Lb) ∧ Hid (St w aL aX L X wx)) (fun _ _ _ s15 _ => (40 - intOf s15).toNat)
    case atStart => exact ⟨0, 0, 0, [], _, _, _, rfl, rfl, rfl, rfl, by omega, by omega, by omega, by omega, by omega, hidIt rfl, hidIt (fun h => by cases h), hidIt (.inl ⟨rfl, rfl⟩), hidIt (Rd.nil _ _), ST⟩
    case round =>
      clear ST HOb
      obtain ⟨i, at', sum, Lb, ab, cb, nb, rfl, rfl, rfl, rfl, hi, ha0, ha1, hs0, hs1, HNb, HAb, HI2, HRb, ST⟩ := hrel
      by_cases hin : i < 40
      · have hin' : (i : Int) < 40 := by omega
        go_wp2_with (fail)
        refine (pick_any _ a0 len0 cap0 (i : Int) 3 _ (code_at HC.out ST.out.k) hl0 (by omega) (by omega) (by omega)).mono ?_
        rintro e wP ⟨p, p0, p1, rfl, ew⟩
        rw [ew]
        clear ew wP
        have hat : 0 ≤ at' + p ∧ at' + p ≤ 2 * ((i : Int) + 1) := by omega
        have HI3 := hidIt ((HI2.out.more (show at' ≤ at' + p by omega)).step hat.1 (by omega))
        have hnb1 : nb ≤ 1 := by rw [← HNb.out]; exact HI2.out.len
        have CD := hidIt (fun W (r : Rd W ab Lb) => HI.drawn ab cb Lb 7 (at' + p) W r HAb.out (by rw [HNb.out]; omega))
        rw [HNb.out] at CD
        generalize hd : drawnR Lb 7 (at' + p) = dd at CD HI3
        clear hd
        obtain ⟨X', told⟩ := dd
        simp only at CD HI3
        have hX1 : X'.length ≤ 1 := HI3.out.len
        go_wp2_with (fail)
        refine (CD.out _ HRb.out).mono ?_
        rintro e wD ⟨vD, rfl, oD, kk⟩
        replace ST := hidIt (ST.out.kept kk)
        obtain ⟨aD, cD, ev, _, _, rD, hnD, _⟩ := oD.form
        subst ev
        have RD' := hidIt rD
        have HnD := hidIt hnD
        clear oD rD hnD kk CD
        generalize hnX : X'.length = nD at *
        have HND := hidIt hnX
        clear hnX
        cases told with
        | false =>
          have hle := HI3.out.le hat.1
          rw [if_neg (by decide)] at hle HI3
          have hng : ¬ 5 + (at' + p) < sum := by omega
          go_wp2_with (fail)
          exact ⟨⟨i + 1, at' + p, sum, X', aD, cD, nD, rfl, rfl, rfl, by simp, by omega, hat.1, by omega, hs0, by omega, HND, HnD, HI3, RD', ST⟩, by simp [intOf]; omega⟩
        | true =>
          have hle := HI3.out.le hat.1
          rw [if_pos rfl] at hle HI3
          have hng : ¬ 5 + (at' + p) < sum + 1 := by omega
          go_wp2_with (fail)
          exact ⟨⟨i + 1, at' + p, sum + 1, X', aD, cD, nD, rfl, rfl, rfl, by simp, by omega, hat.1, by omega, by omega, by omega, HND, HnD, HI3, RD', ST⟩, by simp [intOf]; omega⟩
      · have hin' : ¬ (i : Int) < 40 := by omega
        go_wp2_with (fail)
        go_ret
        exact ⟨rfl, ST.out.k⟩
  | false =>
    generalize hwz : w8 = wz at ST ⊢
    clear hwz
    have HOb := hidIt (Own.new wz)
    replace ST := hidIt (ST.out.alloc (.cells #[] 46))
    go_wp2_with (fail)
    go_loopw [12, 13, 14, 15] (fun s12 s13 s14 s15 wx => ∃ (i : Nat) (at' sum : Int) (Lb : List Rw) (ab : Option Addr) (cb nb : Nat), s12 = .slice ab nb cb ∧ s13 = .int .i64 at' ∧ s14 = .int .i64 sum ∧ s15 = .int .i64 i ∧ i ≤ 40 ∧ 0 ≤ at' ∧ at' ≤ 2 * (i : Int) ∧ 0 ≤ sum ∧ sum ≤ (i : Int) ∧ Hid (Lb.length = nb) ∧ Hid (ab = none → cb = 0) ∧ Hid (Inv Lb sum at') ∧ Hid (Rd wx ab Lb) ∧ Hid (St w aL aX L X wx)) (fun _ _ _ s15 _ => (40 - intOf s15).toNat)
    case atStart => exact ⟨0, 0, 0, [], _, _, _, rfl, rfl, rfl, rfl, by omega, by omega, by omega, by omega, by omega, hidIt rfl, hidIt (fun h => by cases h), hidIt (.inl ⟨rfl, rfl⟩), hidIt (Rd.nil _ _), ST⟩
    case round =>
      clear ST HOb
      obtain ⟨i, at', sum, Lb, ab, cb, nb, rfl, rfl, rfl, rfl, hi, ha0, ha1, hs0, hs1, HNb, HAb, HI2, HRb, ST⟩ := hrel
      by_cases hin : i < 40
      · have hin' : (i : Int) < 40 := by omega
        go_wp2_with (fail)
        refine (pick_any _ a0 len0 cap0 (i : Int) 3 _ (code_at HC.out ST.out.k) hl0 (by omega) (by omega) (by omega)).mono ?_
        rintro e wP ⟨p, p0, p1, rfl, ew⟩
        rw [ew]
        clear ew wP
        have hat : 0 ≤ at' + p ∧ at' + p ≤ 2 * ((i : Int) + 1) := by omega
        have HI3 := hidIt ((HI2.out.more (show at' ≤ at' + p by omega)).step hat.1 (by omega))
        have hnb1 : nb ≤ 1 := by rw [← HNb.out]; exact HI2.out.len
        have CD := hidIt (fun W (r : Rd W ab Lb) => HI.drawn ab cb Lb 7 (at' + p) W r HAb.out (by rw [HNb.out]; omega))
        rw [HNb.out] at CD
        generalize hd : drawnR Lb 7 (at' + p) = dd at CD HI3
        clear hd
        obtain ⟨X', told⟩ := dd
        simp only at CD HI3
        have hX1 : X'.length ≤ 1 := HI3.out.len
        go_wp2_with (fail)
        refine (CD.out _ HRb.out).mono ?_
        rintro e wD ⟨vD, rfl, oD, kk⟩
        replace ST := hidIt (ST.out.kept kk)
        obtain ⟨aD, cD, ev, _, _, rD, hnD, _⟩ := oD.form
        subst ev
        have RD' := hidIt rD
        have HnD := hidIt hnD
        clear oD rD hnD kk CD
        generalize hnX : X'.length = nD at *
        have HND := hidIt hnX
        clear hnX
        cases told with
        | false =>
          have hle := HI3.out.le hat.1
          rw [if_neg (by decide)] at hle HI3
          have hng : ¬ 5 + (at' + p) < sum := by omega
          go_wp2_with (fail)
          exact ⟨⟨i + 1, at' + p, sum, X', aD, cD, nD, rfl, rfl, rfl, by simp, by omega, hat.1, by omega, hs0, by omega, HND, HnD, HI3, RD', ST⟩, by simp [intOf]; omega⟩
        | true =>
          have hle := HI3.out.le hat.1
          rw [if_pos rfl] at hle HI3
          have hng : ¬ 5 + (at' + p) < sum + 1 := by omega
          go_wp2_with (fail)
          exact ⟨⟨i + 1, at' + p, sum + 1, X', aD, cD, nD, rfl, rfl, rfl, by simp, by omega, hat.1, by omega, by omega, by omega, HND, HnD, HI3, RD', ST⟩, by simp [intOf]; omega⟩
      · have hin' : ¬ (i : Int) < 40 := by omega
        cases ok with
        | false =>
          have hx0 := F4.out (by first | exact rfl | exact trivial) (by first | exact rfl | exact trivial)
          subst hx0
          go_wp2_with (fail)
          refine (C6.out _ ST.out.l).mono ?_
          rintro e wf ⟨rfl, kk⟩
          replace ST := hidIt (ST.out.kept kk)
          clear kk
          go_wp2_with (fail)
          go_ret
          exact ⟨rfl, ST.out.k⟩
        | true =>
          have hxl := F5.out (by first | exact rfl | exact trivial) (by first | exact rfl | exact trivial)
          go_wp2_with (fail)
          refine (C6.out _ ST.out.l).mono ?_
          rintro e wf ⟨rfl, kk⟩
          replace ST := hidIt (ST.out.kept kk)
          clear kk
          have CL := hidIt (fun W (r : Rd W aX X) (q : Rd W aL X) => likeBuckets_same aX aL cX cL X W r q (by rw [HNX.out]; omega))
          rw [HNX.out] at CL
          have hnn : nX = n := by rw [← HNX.out, hxl, HN.out]
          subst hnn
          go_wp2_with (fail)
          refine (CL.out _ ST.out.m (by rw [hxl]; exact ST.out.l)).mono ?_
          rintro e wg ⟨rfl, kk⟩
          replace ST := hidIt (ST.out.kept kk)
          clear kk
          go_wp2_with (fail)
          go_ret
          exact ⟨rfl, ST.out.k⟩
end Go.Proofs.Ytiakongbiajlhaa.Bu
