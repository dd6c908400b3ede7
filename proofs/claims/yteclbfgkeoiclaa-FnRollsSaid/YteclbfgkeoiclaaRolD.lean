/-
  What the drawing functions of chapter 10 answer, whatever the bytes: some Rolls and some numbers; they turn nothing that was.
-/
import Derived.Test.YteclbfgkeoiclaaDraw
import Derived.Test.YteclbfgkeoiclaaRollM
import Derived.Test.YteclbfgkeoiclaaBoxM
import Derived.Deep.RegionHeld3
import Derived.Deep.Cut
import Derived.Deep.CutRange
namespace Go.Proofs.Yteclbfgkeoiclaa.Ro
open Go.ChangeShapes Go.WideShapes Go.ChangeAt Go.RowKit
open Dr
set_option linter.unusedVariables false
set_option maxRecDepth 100000 in
set_option maxHeartbeats 4000000 in
theorem l3DrawSecret_any (B c : Nat) (a : Option Addr) (len cap : Nat) (w : World) (hC : Cur B w c a len cap) :
    Calls Try.prog 25 #[.pointer (some ⟨c, 0, none⟩)] w fun e w' => ∃ n : Int, e = .returned (.int .i64 n) ∧ Cur B w' c a len cap ∧ Only c w w' := by
  have HC := hidIt hC
  clear hC
  go_enter Try.func25, Try.ntmps25
  go_wp2_with (fail)
  refine (l1Once_any B c a len cap _ _ (by decide) HC.out).mono ?_
  rintro e w1 ⟨f, rfl, hC1, hO1⟩
  have hlt := hC1.lt
  have C1 := hidIt hC1
  have O1 := hidIt hO1
  clear hC1 hO1
  cases f with
  | true =>
    go_wp2_with (fail)
    refine (l1Below_any B c a len cap _ _ (by decide) (C1.out.kept ((Below.refl (c + 1) _).alloc (by omega) _))).mono ?_
    rintro e w2 ⟨x, x0, x1, rfl, hC2, hO2⟩
    have z2 : w1.heap.size < w2.heap.size := by have := hO2.size; simp at this; omega
    have hcell := fun o => hO2.cell (p := ⟨w1.heap.size, o, none⟩) (by simp) (by simp; omega)
    have C2 := hidIt hC2
    have O2 := hidIt ((O1.out.alloc _).trans hO2)
    clear hC2 hO2
    have hx : x = 0 ∨ x = 1 ∨ x = 2 ∨ x = 3 ∨ x = 4 := by omega
    clear x0 x1
    rcases hx with rfl | rfl | rfl | rfl | rfl
    all_goals
      go_wp2_with (fail)
      go_ret
      exact ⟨_, rfl, C2.out, O2.out⟩
  | false =>
    go_wp2_with (fail)
    refine (l1Below_any B c a len cap _ _ (by decide) C1.out).mono ?_
    rintro e w2 ⟨x, x0, x1, rfl, hC2, hO2⟩
    have C2 := hidIt hC2
    have O2 := hidIt (O1.out.trans hO2)
    clear hC2 hO2
    go_wp2_with (fail)
    go_ret
    exact ⟨_, rfl, C2.out, O2.out⟩
set_option maxRecDepth 100000 in
set_option maxHeartbeats 4000000 in
theorem l9DrawUntil_any (B c : Nat) (a : Option Addr) (len cap : Nat) (w : World) (hC : Cur B w c a len cap) :
    Calls Try.prog 30 #[.pointer (some ⟨c, 0, none⟩)] w fun e w' => ∃ n : Int, e = .returned (.int .i64 n) ∧ Cur B w' c a len cap ∧ Only c w w' := by
  have HC := hidIt hC
  clear hC
  go_enter Try.func30, Try.ntmps30
  go_wp2_with (fail)
  refine (l1Once_any B c a len cap _ _ (by decide) HC.out).mono ?_
  rintro e w1 ⟨f, rfl, hC1, hO1⟩
  have hlt := hC1.lt
  have C1 := hidIt hC1
  have O1 := hidIt hO1
  clear hC1 hO1
  cases f with
  | true =>
    go_wp2_with (fail)
    refine (l1Below_any B c a len cap _ _ (by decide) (C1.out.kept ((Below.refl (c + 1) _).alloc (by omega) _))).mono ?_
    rintro e w2 ⟨x, x0, x1, rfl, hC2, hO2⟩
    have z2 : w1.heap.size < w2.heap.size := by have := hO2.size; simp at this; omega
    have hcell := fun o => hO2.cell (p := ⟨w1.heap.size, o, none⟩) (by simp) (by simp; omega)
    have C2 := hidIt hC2
    have O2 := hidIt ((O1.out.alloc _).trans hO2)
    clear hC2 hO2
    have hx : x = 0 ∨ x = 1 ∨ x = 2 ∨ x = 3 := by omega
    clear x0 x1
    rcases hx with rfl | rfl | rfl | rfl
    all_goals
      go_wp2_with (fail)
      go_ret
      exact ⟨_, rfl, C2.out, O2.out⟩
  | false =>
    go_wp2_with (fail)
    refine (l1Below_any B c a len cap _ _ (by decide) C1.out).mono ?_
    rintro e w2 ⟨x, x0, x1, rfl, hC2, hO2⟩
    have C2 := hidIt hC2
    have O2 := hidIt (O1.out.trans hO2)
    clear hC2 hO2
    go_wp2_with (fail)
    go_ret
    exact ⟨_, rfl, C2.out, O2.out⟩
set_option maxRecDepth 100000 in
set_option maxHeartbeats 4000000 in
theorem l1From_any (B c : Nat) (a : Option Addr) (len cap : Nat) (w : World) (hC : Cur B w c a len cap) :
    Calls Try.prog 40 #[.pointer (some ⟨c, 0, none⟩), .int .i64 0, .int .i64 6] w fun e w' => ∃ n : Int, e = .returned (.int .i64 n) ∧ Cur B w' c a len cap ∧ Only c w w' := by
  have HC := hidIt hC
  clear hC
  go_enter Try.func40, Try.ntmps40
  go_wp2_with (fail)
  refine (l1Below_any B c a len cap _ _ (by decide) HC.out).mono ?_
  rintro e w2 ⟨x, x0, x1, rfl, hC2, hO2⟩
  have C2 := hidIt hC2
  have O2 := hidIt hO2
  clear hC2 hO2
  go_wp2_with (fail)
  go_ret
  exact ⟨_, rfl, C2.out, O2.out⟩
theorem l1Max_any (x y : Int) (w : World) : Calls Try.prog 22 #[.int .i64 x, .int .i64 y] w fun e w' => ∃ z : Int, e = .returned (.int .i64 z) ∧ w' = w := by
  go_enter Try.func22, Try.ntmps22
  go_wp2
  all_goals
    go_ret
    exact ⟨_, rfl, rfl⟩
theorem l1Min_any (x y : Int) (w : World) : Calls Try.prog 23 #[.int .i64 x, .int .i64 y] w fun e w' => ∃ z : Int, e = .returned (.int .i64 z) ∧ w' = w := by
  go_enter Try.func23, Try.ntmps23
  go_wp2
  all_goals
    go_ret
    exact ⟨_, rfl, rfl⟩
theorem box_oth {w w' : World} {b c : Nat} {cs : Array Value} (h : Bo.Box w b cs) (k : Only c w w') (hne : ¬ b = c) : Bo.Box w' b cs :=
  ⟨Nat.lt_of_lt_of_le h.lt k.size, fun i => by rw [k.cell (p := ⟨b, i, none⟩) h.lt hne]; exact h.at' i, fun i => by rw [k.frozen (p := ⟨b, i, none⟩) h.lt hne]; exact h.fr i⟩
theorem box_res {fn : Func} {tm : Array Value} {wf : World} {b : Nat} {c : Array Value} {v : Value} (t : Bo.Box wf b c) (h : ∀ w2, Bo.Box w2 b c → (results fn tm).run Try.prog w2 = .ok v w2) : (results fn tm).run Try.prog wf = .ok v wf := h wf t
theorem only_beside {c b : Nat} {a w w' : World} (h : Only c a w) (k : Only b w w') (hb : a.heap.size ≤ b) : Only c a w' :=
  ⟨k.os.trans h.os, k.tape.trans h.tape, k.output.trans h.output, Nat.le_trans h.size k.size, fun i hi hc => (k.block i (Nat.lt_of_lt_of_le hi h.size) (by omega)).trans (h.block i hi hc)⟩
theorem cur_beside {B b c : Nat} {w w' : World} {a : Option Addr} {len cap : Nat} (h : Cur B w c a len cap) (k : Only b w w') (hb : c < b) : Cur B w' c a len cap := h.kept (k.below (B := c + 1) (by omega) (by have := h.lt; omega))
abbrev i5 (p m o n a : Int) : Array Value := #[.int .i64 p, .int .i64 m, .int .i64 o, .int .i64 n, .int .i64 a]
abbrev pu5 (w : World) (b : Nat) (p m o n a : Int) : World := ((((w.setCell ⟨b, 0, none⟩ (.int .i64 p)).setCell ⟨b, 1, none⟩ (.int .i64 m)).setCell ⟨b, 2, none⟩ (.int .i64 o)).setCell ⟨b, 3, none⟩ (.int .i64 n)).setCell ⟨b, 4, none⟩ (.int .i64 a)
theorem pu5_box {w : World} {b : Nat} {x0 x1 x2 x3 x4 : Value} {p m o n a : Int} (h : Bo.Box w b #[x0, x1, x2, x3, x4]) : Bo.Box (pu5 w b p m o n a) b (i5 p m o n a) :=
  ((((h.put (c' := #[.int .i64 p, x1, x2, x3, x4]) 0 _ (by simp) rfl).put (c' := #[.int .i64 p, .int .i64 m, x2, x3, x4]) 1 _ (by simp) rfl).put (c' := #[.int .i64 p, .int .i64 m, .int .i64 o, x3, x4]) 2 _ (by simp) rfl).put (c' := #[.int .i64 p, .int .i64 m, .int .i64 o, .int .i64 n, x4]) 3 _ (by simp) rfl).put (c' := i5 p m o n a) 4 _ (by simp) rfl
theorem pu5_only (w : World) (b : Nat) (p m o n a : Int) : Only b w (pu5 w b p m o n a) := ((((((Only.refl b w).setCell 0 _).setCell 1 _).setCell 2 _).setCell 3 _).setCell 4 _)
/-- What l10Draw has: its result's block g2, its Roll's block g3, its cursor c. -/
structure Dw (B : Nat) (w wx : World) (c g2 g3 : Nat) (a : Option Addr) (len cap : Nat) (p m o n at' : Int) : Prop where
  b2 : Bo.Box wx g2 (i5 0 0 0 0 0)
  b3 : Bo.Box wx g3 (i5 p m o n at')
  cur : Cur B wx c a len cap
  only : Only c w wx
theorem Dw.next {B : Nat} {w wx wy : World} {c g2 g3 : Nat} {a : Option Addr} {len cap : Nat} {p m o n at' : Int} (h : Dw B w wx c g2 g3 a len cap p m o n at') (hC : Cur B wy c a len cap) (k : Only c wx wy) (n2 : ¬ g2 = c) (n3 : ¬ g3 = c) : Dw B w wy c g2 g3 a len cap p m o n at' :=
  ⟨box_oth h.b2 k n2, box_oth h.b3 k n3, hC, h.only.trans k⟩
theorem Dw.alloc {B : Nat} {w wx : World} {c g2 g3 : Nat} {a : Option Addr} {len cap : Nat} {p m o n at' : Int} (h : Dw B w wx c g2 g3 a len cap p m o n at') (x : Obj) : Dw B w (wx.alloc x) c g2 g3 a len cap p m o n at' :=
  ⟨h.b2.alloc x, h.b3.alloc x, h.cur.kept ((Below.refl (c + 1) wx).alloc (by have := h.cur.lt; omega) x), h.only.alloc x⟩
theorem Dw.put {B : Nat} {w wx : World} {c g2 g3 : Nat} {a : Option Addr} {len cap : Nat} {p m o n at' p' m' o' n' a' : Int} (h : Dw B w wx c g2 g3 a len cap p m o n at') (j : Nat) (v : Value) (hj : j < 5) (e : (i5 p m o n at').setIfInBounds j v = i5 p' m' o' n' a') (h23 : ¬ g3 = g2) (hc3 : c < g3) (hw : w.heap.size ≤ g3) : Dw B w (wx.setCell ⟨g3, j, none⟩ v) c g2 g3 a len cap p' m' o' n' a' :=
  ⟨h.b2.other h23, h.b3.put j v (by simpa using hj) e, cur_beside h.cur ((Only.refl g3 wx).setCell j v) hc3, only_beside h.only ((Only.refl g3 wx).setCell j v) hw⟩
set_option maxRecDepth 100000 in
set_option maxHeartbeats 8000000 in
theorem l10Draw_any (B c : Nat) (a : Option Addr) (len cap : Nat) (w : World) (hC : Cur B w c a len cap) :
    Calls Try.prog 21 #[.pointer (some ⟨c, 0, none⟩)] w fun e w' => ∃ p m o n at' : Int, e = .returned (rv p m o n at') ∧ Cur B w' c a len cap ∧ Only c w w' := by
  have hlt0 := hC.lt
  have na : ¬ w.heap.size = c := by omega
  have BA := hidIt (Bo.Box.new w (i5 0 0 0 0 0) 25)
  have HC := hidIt (hC.kept ((Below.refl (c + 1) w).alloc (by omega) (.cells (i5 0 0 0 0 0) 25)))
  have HO := hidIt ((Only.refl c w).alloc (.cells (i5 0 0 0 0 0) 25))
  clear hC
  go_enter Try.func21, Try.ntmps21
  go_wp2_with (fail)
  refine (l1Below_any _ c a len cap 3 _ (by decide) HC.out).mono ?_
  rintro e w1 ⟨x, x0, x1, rfl, hC, hO⟩
  replace BA := hidIt (box_oth BA.out hO na)
  replace HO := hidIt (HO.out.trans hO)
  replace HC := hidIt hC
  clear hC hO
  go_wp2_with (fail)
  refine (l1Below_any _ c a len cap 2548 _ (by decide) HC.out).mono ?_
  rintro e w2 ⟨y, y0, y1, rfl, hC, hO⟩
  replace BA := hidIt (box_oth BA.out hO na)
  replace HO := hidIt (HO.out.trans hO)
  replace HC := hidIt hC
  clear hC hO
  go_wp2_with (fail)
  refine (l1Below_any _ c a len cap 2548 _ (by decide) HC.out).mono ?_
  rintro e w3 ⟨z, z0, z1, rfl, hC, hO⟩
  replace BA := hidIt (box_oth BA.out hO na)
  replace HO := hidIt (HO.out.trans hO)
  replace HC := hidIt hC
  clear hC hO
  go_wp2_with (fail)
  refine (l1Below_any _ c a len cap 300 _ (by decide) HC.out).mono ?_
  rintro e w4 ⟨u, u0, u1, rfl, hC, hO⟩
  replace BA := hidIt (box_oth BA.out hO na)
  replace HO := hidIt (HO.out.trans hO)
  replace HC := hidIt hC
  clear hC hO
  have hlt4 := HC.out.lt
  have hs4 := HO.out.size
  have hb4 := BA.out.lt
  have D : Hid (Dw B w (w4.alloc (.cells (i5 (1 + x) (1 + y) (1 + z) 0 u) 25)) c w.heap.size w4.heap.size a len cap (1 + x) (1 + y) (1 + z) 0 u) :=
    hidIt ⟨BA.out.alloc _, Bo.Box.new w4 _ _, HC.out.kept ((Below.refl (c + 1) w4).alloc (by omega) _), HO.out.alloc _⟩
  have n3 : ¬ w4.heap.size = c := by omega
  have n23 : ¬ w4.heap.size = w.heap.size := by omega
  have hc3 : c < w4.heap.size := hlt4
  clear BA HC HO
  go_upto_region 2 with fail
  generalize w4.alloc (.cells #[.int .i64 (1 + x), .int .i64 (1 + y), .int .i64 (1 + z), .int .i64 0, .int .i64 u] 25) = W1 at D ⊢
  generalize w4.heap.size = g3 at *
  have d0 := D.out.b3.c 0 (v := .int .i64 (1 + x)) rfl
  have d3 := D.out.b3.c 3 (v := .int .i64 0) rfl
  have f3 := D.out.b3.fr 3
  go_upto_if 18 with fail
  go_cut [] from 4 (fun wq => ∃ p m o n at' : Int, Hid (Dw B w wq c w.heap.size g3 a len cap p m o n at'))
  case first =>
    by_cases hx : x = 0
    · subst hx
      go_wp2_with (fail)
      go_meet
      case rel => exact ⟨_, _, _, _, _, D⟩
    · have hx1 : (1 + x != 1) = true := by simp; omega
      have hx2 : ¬ (1 : Int) + x = 1 := by omega
      go_wp2_with (fail)
      refine (l1Below_any _ c a len cap 2548 _ (by decide) D.out.cur).mono ?_
      rintro e w5 ⟨q, q0, q1, rfl, hC, hO⟩
      have D5 := hidIt (D.out.next hC hO na n3)
      clear hC hO
      have d3 := D5.out.b3.c 3 (v := .int .i64 0) rfl
      have f3 := D5.out.b3.fr 3
      go_wp2_with (fail)
      go_meet
      case rel => exact ⟨_, _, _, _, _, hidIt (D5.out.put 3 (.int .i64 (1 + q)) (by decide) rfl n23 hc3 hs4)⟩
  case rest =>
    obtain ⟨p, m, o, n, t, D1⟩ := hcut
    clear D d0 d3 f3 x0 x1 y0 y1 z0 z1 u0 u1
    go_wp2_with (fail)
    refine (l1Once_any _ c a len cap _ _ (by decide) D1.out.cur).mono ?_
    rintro e w6 ⟨f, rfl, hC, hO⟩
    have D6 := hidIt (D1.out.next hC hO na n3)
    clear hC hO D1
    go_upto_if 24 with fail
    go_cut [] from 4 (fun wq => ∃ p m o n at' : Int, Hid (Dw B w wq c w.heap.size g3 a len cap p m o n at'))
    case first =>
      cases f with
      | false =>
        go_wp2_with (fail)
        go_meet
        case rel => exact ⟨_, _, _, _, _, D6⟩
      | true =>
        go_wp2_with (fail)
        refine (l1Below_any _ c a len cap 4 _ (by decide) D6.out.cur).mono ?_
        rintro e w7 ⟨q, q0, q1, rfl, hC, hO⟩
        have D7 := hidIt (D6.out.next hC hO na n3)
        clear hC hO D6
        have hq : q = 0 ∨ q = 1 ∨ q = 2 ∨ q = 3 := by omega
        clear q0 q1
        rcases hq with rfl | rfl | rfl | rfl
        · go_wp2_with (fail)
          refine (l1From_any _ c a len cap _ D7.out.cur).mono ?_
          rintro e w8 ⟨r, rfl, hC, hO⟩
          have D8 := hidIt (D7.out.next hC hO na n3)
          clear hC hO D7
          have d := D8.out.b3.c 0 (v := .int .i64 p) rfl
          have fr := D8.out.b3.fr 0
          go_wp2_with (fail)
          go_meet
          case rel => exact ⟨_, _, _, _, _, hidIt (D8.out.put 0 (.int .i64 r) (by decide) rfl n23 hc3 hs4)⟩
        · go_wp2_with (fail)
          refine (l3DrawSecret_any _ c a len cap _ D7.out.cur).mono ?_
          rintro e w8 ⟨r, rfl, hC, hO⟩
          have D8 := hidIt (D7.out.next hC hO na n3)
          clear hC hO D7
          have d := D8.out.b3.c 3 (v := .int .i64 n) rfl
          have fr := D8.out.b3.fr 3
          go_wp2_with (fail)
          go_meet
          case rel => exact ⟨_, _, _, _, _, hidIt (D8.out.put 3 (.int .i64 r) (by decide) rfl n23 hc3 hs4)⟩
        · have D7' := hidIt (D7.out.alloc (.cells #[.int .i64 (-1), .int .i64 1000000, .int .i64 1000001, .int .i64 999900] 2))
          have BS := hidIt (Bo.Box.new w7 #[.int .i64 (-1), .int .i64 1000000, .int .i64 1000001, .int .i64 999900] 2)
          have ns : ¬ w7.heap.size = c := by have := D7.out.cur.lt; omega
          go_wp2_with (fail)
          refine (l1Below_any _ c a len cap 4 _ (by decide) D7'.out.cur).mono ?_
          rintro e w8 ⟨q, q0, q1, rfl, hC, hO⟩
          have D8 := hidIt (D7'.out.next hC hO na n3)
          have BS8 := hidIt (box_oth BS.out hO ns)
          clear hC hO D7 D7' BS
          have d := D8.out.b3.c 4 (v := .int .i64 t) rfl
          have fr := D8.out.b3.fr 4
          have s0 := BS8.out.c 0 (v := .int .i64 (-1)) rfl
          have s1 := BS8.out.c 1 (v := .int .i64 1000000) rfl
          have s2 := BS8.out.c 2 (v := .int .i64 1000001) rfl
          have s3 := BS8.out.c 3 (v := .int .i64 999900) rfl
          have hq : q = 0 ∨ q = 1 ∨ q = 2 ∨ q = 3 := by omega
          clear q0 q1
          rcases hq with rfl | rfl | rfl | rfl
          all_goals
            go_wp2_with (fail)
            go_meet
            case rel => exact ⟨_, _, _, _, _, hidIt (D8.out.put 4 _ (by decide) rfl n23 hc3 hs4)⟩
        · go_wp2_with (fail)
          refine (l3DrawSecret_any _ c a len cap _ D7.out.cur).mono ?_
          rintro e w8 ⟨r, rfl, hC, hO⟩
          have D8 := hidIt (D7.out.next hC hO na n3)
          clear hC hO D7
          have d := D8.out.b3.c 1 (v := .int .i64 m) rfl
          have fr := D8.out.b3.fr 1
          go_wp2_with (fail)
          go_meet
          case rel => exact ⟨_, _, _, _, _, hidIt (D8.out.put 1 (.int .i64 r) (by decide) rfl n23 hc3 hs4)⟩
    case rest =>
      obtain ⟨p', m', o', n', t', D9⟩ := hcut
      clear D6
      have c0 := D9.out.b3.c 0 (v := .int .i64 p') rfl
      have c1 := D9.out.b3.c 1 (v := .int .i64 m') rfl
      have c2 := D9.out.b3.c 2 (v := .int .i64 o') rfl
      have c3 := D9.out.b3.c 3 (v := .int .i64 n') rfl
      have c4 := D9.out.b3.c 4 (v := .int .i64 t') rfl
      have e0 := D9.out.b2.c 0 (v := .int .i64 0) rfl
      have e1 := D9.out.b2.c 1 (v := .int .i64 0) rfl
      have e2 := D9.out.b2.c 2 (v := .int .i64 0) rfl
      have e3 := D9.out.b2.c 3 (v := .int .i64 0) rfl
      have e4 := D9.out.b2.c 4 (v := .int .i64 0) rfl
      have f0 := D9.out.b2.fr 0
      have f1 := D9.out.b2.fr 1
      have f2 := D9.out.b2.fr 2
      have f3 := D9.out.b2.fr 3
      have f4 := D9.out.b2.fr 4
      go_wp2_with (fail)
      have oE := pu5_only wc w.heap.size p' m' o' n' t'
      have BZ := pu5_box (p := p') (m := m') (o := o') (n := n') (a := t') D9.out.b2
      refine bodyPost_ret (v := rv p' m' o' n' t') ?_ rfl ⟨p', m', o', n', t', rfl, cur_beside D9.out.cur oE hlt0, only_beside D9.out.only oE (Nat.le_refl _)⟩
      refine box_res BZ (fun w9 j => ?_)
      have j0 := j.c 0 (v := .int .i64 p') rfl
      have j1 := j.c 1 (v := .int .i64 m') rfl
      have j2 := j.c 2 (v := .int .i64 o') rfl
      have j3 := j.c 3 (v := .int .i64 n') rfl
      have j4 := j.c 4 (v := .int .i64 t') rfl
      clear BZ oE c0 c1 c2 c3 c4 e0 e1 e2 e3 e4 f0 f1 f2 f3 f4
      simp [results, Try.results21, go_sem, j0, j1, j2, j3, j4]
end Go.Proofs.Yteclbfgkeoiclaa.Ro
