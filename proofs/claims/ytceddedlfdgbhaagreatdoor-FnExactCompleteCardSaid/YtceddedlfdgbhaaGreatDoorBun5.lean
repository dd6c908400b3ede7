/-
  ValueOf and Alive of the specification.
  The program's EntryOk, Newer, BookOk, ValueOf and Alive. (Written by wip/mkBokI.py.)
  What the laws do with one Entry and with a list of them: the measure, the copy, whether two are alike. (Written by wip/mkrow.py.)
-/
import Derived.Test.YtceddedlfdgbhaaGreatDoorBun4
import Derived.Test.YtceddedlfdgbhaaGreatDoorBoxM
import Derived.Test.YtceddedlfdgbhaaGreatDoorBun3
import Derived.Test.YtceddedlfdgbhaaGreatDoorQuiet
import Derived.Handy
namespace Go.Proofs.YtceddedlfdgbhaaGreatDoor.Bk
/-- What ValueOf answers; the Keys that are not Gone. -/
def valB (L : List En) (k : Bytes) : Bytes × Bool := if okBk L = true then (match look L k with
    | some e => if e.gone = true then ([], false) else (e.value, true)
    | none => ([], false)) else ([], false)
def aliveB (L : List En) : List Bytes := if okBk L = true then (L.filter fun e => !e.gone).map (·.key) else []
theorem val_no {L : List En} {k : Bytes} (h : okBk L = false) : valB L k = ([], false) := by unfold valB; rw [if_neg (by rw [h]; decide)]
theorem val_none {L : List En} {k : Bytes} (h : okBk L = true) (hl : look L k = none) : valB L k = ([], false) := by unfold valB; rw [if_pos h, hl]
theorem val_gone {L : List En} {k : Bytes} {e : En} (h : okBk L = true) (hl : look L k = some e) (hg : e.gone = true) : valB L k = ([], false) := by unfold valB; rw [if_pos h, hl]; simp [hg]
theorem val_some {L : List En} {k : Bytes} {e : En} (h : okBk L = true) (hl : look L k = some e) (hg : e.gone = false) : valB L k = (e.value, true) := by unfold valB; rw [if_pos h, hl]; simp [hg]
end Go.Proofs.YtceddedlfdgbhaaGreatDoor.Bk
namespace Go.Proofs.YtceddedlfdgbhaaGreatDoor.En
open Go.ChangeShapes Go.WideShapes Go.ChangeAt Go.RowKit
open Go.Proofs.YtceddedlfdgbhaaGreatDoor.Bk (Bytes okE newB okBk Ris IsJoin joinB valB aliveB)
set_option linter.unusedVariables false
/-- The first of a Key. -/
theorem look_first {L : List Rw} {k : Bytes} {i : Nat} (hi : i < L.length) (h1 : ∀ j, j < i → kat L j ≠ k) (h2 : kat L i = k) : Bk.look (toB L) k = some (toE (rat L i)) := by
  have e : toB L = toB (L.take i) ++ toE (rat L i) :: toB (L.drop (i + 1)) := by
    conv => lhs; rw [split_at hi]
    simp [toB]
  rw [e, Bk.look_append, Bk.look_cons, if_pos (show (toE (rat L i)).key = k from h2), Bk.look_none_of (fun x hx => ?_)]
  · rfl
  · obtain ⟨y, hy, rfl⟩ := List.mem_map.1 hx
    obtain ⟨j, hj, rfl⟩ := List.mem_iff_getElem.1 hy
    rw [List.length_take] at hj
    have := h1 j (by omega)
    unfold kat at this
    rw [rat_at (by omega)] at this
    rw [List.getElem_take]
    exact this
theorem look_all {L : List Rw} {k : Bytes} (h : ∀ j, j < L.length → kat L j ≠ k) : Bk.look (toB L) k = none :=
  Bk.look_none_of (fun x hx => by
    obtain ⟨y, hy, rfl⟩ := List.mem_map.1 hx
    obtain ⟨j, hj, rfl⟩ := List.mem_iff_getElem.1 hy
    have := h j hj
    unfold kat at this
    rw [rat_at hj] at this
    exact this)
/-- The Keys that are not Gone, as texts. -/
def keysR (L : List Rw) : List ByteArray := (L.filter fun x => !x.2.2.2.2).map (·.1)
def aliveR (L : List Rw) : List ByteArray := if okBk (toB L) = true then keysR L else []
theorem keysR_take {L : List Rw} {i : Nat} (h : i < L.length) : keysR (L.take (i + 1)) = if (rat L i).2.2.2.2 = true then keysR (L.take i) else keysR (L.take i) ++ [(rat L i).1] := by
  unfold keysR
  rw [take_rat h, List.filter_append, List.map_append]
  cases hg : (rat L i).2.2.2.2 with
  | true => simp [hg]
  | false => simp [hg]
theorem keysR_length (L : List Rw) : (keysR L).length ≤ L.length := by
  unfold keysR
  rw [List.length_map]
  exact List.length_filter_le _ _
theorem alive_len (L : List Rw) : (aliveR L).length ≤ 80 := by
  unfold aliveR
  by_cases h : okBk (toB L) = true
  · rw [if_pos h]
    have h1 : L.length ≤ 80 := by
      have := Bk.ok_len h
      rw [toB_length] at this
      exact this
    have h2 : (keysR L).length ≤ L.length := by unfold keysR; rw [List.length_map]; exact List.length_filter_le _ _
    omega
  · rw [if_neg h]; simp
theorem alive_bs (L : List Rw) : (aliveR L).map bs = aliveB (toB L) := by
  unfold aliveR aliveB keysR
  by_cases h : okBk (toB L) = true
  · rw [if_pos h, if_pos h, List.map_map, toB, List.filter_map, List.map_map]
    rfl
  · rw [if_neg h, if_neg h]
    rfl
theorem infoStr : (Tryz.prog.info? 9).map (fun i => (i.zero, i.size, i.bytes)) = some (some (.string ByteArray.empty), 1, 16) := by kernel_rfl
theorem freshS (w : World) (s : ByteArray) (T : TypeId) : ∀ j u, ([Value.string s] : List Value)[j]? = some u → (w.alloc (.cells #[.string s] T)).cell? ((⟨w.heap.size, 0, none⟩ : Addr).add j) = some u := by
  intro j u hj
  match j, hj with
  | 0, hj => simp at hj; subst hj; simp [Addr.add]
end Go.Proofs.YtceddedlfdgbhaaGreatDoor.En
namespace Go.Proofs.YtceddedlfdgbhaaGreatDoor.En
open Go.ChangeShapes Go.WideShapes Go.ChangeAt Go.RowKit
open Go.Proofs.YtceddedlfdgbhaaGreatDoor.Rc (BelowBy BelowBy.one wp_region_below calls_below calls_same)
open Go.Proofs.YtceddedlfdgbhaaGreatDoor.Bk (Bytes okE newB okBk Ris IsJoin joinB valB aliveB)
set_option linter.unusedVariables false
theorem str_geq (t : TypeId) (a b : ByteArray) : binOp .geq t (.string a) (.string b) = pure (.bool (!Op.bytesLess a.toList b.toList)) := by simp [binOp, Op.stringOp]
attribute [local go_sem] str_gtr str_leq str_geq
set_option maxRecDepth 100000 in
set_option maxHeartbeats 4000000 in
theorem impl_Newer (x y : Rw) (w : World) : Calls Tryz.prog 159 #[rv x, rv y] w fun e w' => e = .returned (.bool (newB (toE x) (toE y))) ∧ Below w.heap.size w w' := by
  obtain ⟨k, v, t, n, g⟩ := x
  obtain ⟨k', v', t', n', g'⟩ := y
  by_cases h1 : t = t'
  · by_cases h2 : n = n'
    · by_cases h3 : g = g'
      · have er : newB (toE (k, v, t, n, g)) (toE (k', v', t', n', g')) = Op.bytesLess v'.toList v.toList := (Bk.newB_4 h1 h2 h3).trans (less_of v' v).symm
        rw [er]
        subst h1 h2 h3
        have e1 : (t != t) = false := by simp
        have e2 : (n != n) = false := by simp
        have e3 : (g == g) = true := by cases g <;> rfl
        clear er
        go_enter Tryz.func159, Tryz.ntmps159
        go_wp2
        go_ret
        exact ⟨rfl, by go_grown⟩
      · have er : newB (toE (k, v, t, n, g)) (toE (k', v', t', n', g')) = g := Bk.newB_3 h1 h2 h3
        rw [er]
        subst h1 h2
        have e1 : (t != t) = false := by simp
        have e2 : (n != n) = false := by simp
        have e3 : (g == g') = false := by cases g <;> cases g' <;> simp_all
        clear h3 er
        go_enter Tryz.func159, Tryz.ntmps159
        go_wp2
        go_ret
        exact ⟨rfl, by go_grown⟩
    · have er : newB (toE (k, v, t, n, g)) (toE (k', v', t', n', g')) = decide (n' < n) := Bk.newB_2 h1 h2
      rw [er]
      subst h1
      have e1 : (t != t) = false := by simp
      have e2 : (n != n') = true := by simpa using h2
      clear h2 er
      go_enter Tryz.func159, Tryz.ntmps159
      go_wp2
      go_ret
      exact ⟨rfl, by go_grown⟩
  · have er : newB (toE (k, v, t, n, g)) (toE (k', v', t', n', g')) = decide (t' < t) := Bk.newB_1 h1
    rw [er]
    have e1 : (t != t') = true := by simpa using h1
    clear h1 er
    go_enter Tryz.func159, Tryz.ntmps159
    go_wp2
    go_ret
    exact ⟨rfl, by go_grown⟩
theorem freshAt {w : World} {k : Nat} (h : w.heap.size = k) (s : ByteArray) (T : TypeId) : ∀ j u, ([Value.string s] : List Value)[j]? = some u → (w.alloc (.cells #[.string s] T)).cell? ((⟨k, 0, none⟩ : Addr).add j) = some u := by subst h; exact freshS w s T
def valOk (x : Rw) : Bool := if x.2.2.2.2 = true then decide (x.2.1.size = 0) else decide (x.2.1.size ≤ 40)
theorem okE_prog (x : Rw) : okE (toE x) = (inB (x.1.size : Int) 1 40 && (valOk x && (inB x.2.2.1 0 1000000 && (decide (0 < x.2.2.1) && inB x.2.2.2.1 0 7)))) := by
  rw [okE_eq]
  obtain ⟨a, b, c, d, e⟩ := x
  have h3 : inB c 1 1000000 = (inB c 0 1000000 && decide (0 < c)) := by
    unfold inB
    rw [Bool.eq_iff_iff]
    simp only [Bool.and_eq_true, decide_eq_true_eq]
    omega
  have h2 : (decide (b.size ≤ 40) && (!e || decide (b.size = 0))) = valOk (a, b, c, d, e) := by
    unfold valOk
    cases e with
    | false => simp
    | true => by_cases h : b.size = 0 <;> simp [h]
  simp only [h3, ← h2, Bool.and_assoc]
set_option maxHeartbeats 2000000 in
theorem impl_entryKeyOk (s : ByteArray) (w : World) (hs : s.size ≤ 9223372036854775807) : Calls Tryz.prog 106 #[.string s] w fun e w' => e = .returned (.bool (inB (s.size : Int) 1 40)) ∧ w' = w := by
  unfold inB
  have z1 : (s.size : Int) ≤ 9223372036854775807 := by omega
  by_cases h : (1 : Int) ≤ (s.size : Int)
  · have h' : decide ((1 : Int) ≤ (s.size : Int)) = true := decide_eq_true h
    rw [h', Bool.true_and]
    go_enter Tryz.func106, Tryz.ntmps106
    go_wp2
    go_ret
    exact ⟨rfl, rfl⟩
  · have h' : decide ((1 : Int) ≤ (s.size : Int)) = false := decide_eq_false h
    rw [h', Bool.false_and]
    go_enter Tryz.func106, Tryz.ntmps106
    go_wp2
    go_ret
    exact ⟨rfl, rfl⟩
set_option maxHeartbeats 2000000 in
theorem impl_timeOk (n : Int) (w : World) : Calls Tryz.prog 25 #[.int .i64 n] w fun e w' => e = .returned (.bool (inB n 0 1000000)) ∧ w' = w := by
  unfold inB
  by_cases h : (0 : Int) ≤ n
  · have h' : decide ((0 : Int) ≤ n) = true := decide_eq_true h
    rw [h', Bool.true_and]
    go_enter Tryz.func25, Tryz.ntmps25
    go_wp2
    go_ret
    exact ⟨rfl, rfl⟩
  · have h' : decide ((0 : Int) ≤ n) = false := decide_eq_false h
    rw [h', Bool.false_and]
    go_enter Tryz.func25, Tryz.ntmps25
    go_wp2
    go_ret
    exact ⟨rfl, rfl⟩
set_option maxHeartbeats 2000000 in
theorem impl_nodeOk (n : Int) (w : World) : Calls Tryz.prog 108 #[.int .i64 n] w fun e w' => e = .returned (.bool (inB n 0 7)) ∧ w' = w := by
  unfold inB
  by_cases h : (0 : Int) ≤ n
  · have h' : decide ((0 : Int) ≤ n) = true := decide_eq_true h
    rw [h', Bool.true_and]
    go_enter Tryz.func108, Tryz.ntmps108
    go_wp2
    go_ret
    exact ⟨rfl, rfl⟩
  · have h' : decide ((0 : Int) ≤ n) = false := decide_eq_false h
    rw [h', Bool.false_and]
    go_enter Tryz.func108, Tryz.ntmps108
    go_wp2
    go_ret
    exact ⟨rfl, rfl⟩
set_option maxRecDepth 100000 in
set_option maxHeartbeats 4000000 in
theorem impl_entryValueOk (x : Rw) (w : World) (hu : x.2.1.size ≤ 9223372036854775807) : Calls Tryz.prog 107 #[rv x] w fun e w' => e = .returned (.bool (valOk x)) ∧ Below w.heap.size w w' := by
  obtain ⟨a, b, c, d, e⟩ := x
  simp only at hu ⊢
  unfold valOk
  simp only
  cases e with
  | true =>
    rw [if_pos rfl]
    by_cases h : b.size = 0
    · obtain rfl : b = ByteArray.empty := by
        apply bs_inj
        have := bs_length b
        rw [h] at this
        rw [List.length_eq_zero_iff.1 this]
        rfl
      rw [decide_eq_true h]
      clear h hu
      go_enter Tryz.func107, Tryz.ntmps107
      go_wp2
      go_ret
      exact ⟨rfl, by go_grown⟩
    · have hbl : (b.toList == []) = false := by
        have := bs_length b
        rw [Go.Lib.toList_data]
        cases hb' : b.data.toList with
        | nil => simp [bs, hb'] at this; omega
        | cons x r => rfl
      rw [decide_eq_false h]
      clear h
      go_enter Tryz.func107, Tryz.ntmps107
      go_wp2
      go_ret
      exact ⟨rfl, by go_grown⟩
  | false =>
    rw [if_neg (by decide)]
    have h1 : decide (b.size ≤ 40) = decide ((b.size : Int) ≤ 40) := decide_eq_decide.2 (by omega)
    have z2 : (b.size : Int) ≤ 9223372036854775807 := by omega
    rw [h1]
    clear h1
    go_enter Tryz.func107, Tryz.ntmps107
    go_wp2
    go_ret
    exact ⟨rfl, by go_grown⟩
set_option maxRecDepth 100000 in
set_option maxHeartbeats 4000000 in
theorem impl_EntryOk (x : Rw) (w : World) (hs : x.1.size ≤ 9223372036854775807) (hu : x.2.1.size ≤ 9223372036854775807) : Calls Tryz.prog 93 #[rv x] w fun e w' => e = .returned (.bool (okE (toE x))) ∧ Below w.heap.size w w' := by
  rw [okE_prog]
  obtain ⟨a, b, c, d, e⟩ := x
  have CK := hidIt (fun W => impl_entryKeyOk a W hs)
  have CV := hidIt (fun W => impl_entryValueOk (a, b, c, d, e) W hu)
  have CT := hidIt (fun W => impl_timeOk c W)
  have CN := hidIt (fun W => impl_nodeOk d W)
  simp only [rv] at CV hs hu ⊢
  generalize valOk (a, b, c, d, e) = k2 at CV ⊢
  generalize inB (a.size : Int) 1 40 = k1 at CK ⊢
  generalize inB c 0 1000000 = k3 at CT ⊢
  generalize inB d 0 7 = k5 at CN ⊢
  cases k1 with
  | false =>
    go_enter Tryz.func93, Tryz.ntmps93
    go_wp2_with (fail)
    refine (CK.out _).mono ?_
    rintro e w1 ⟨rfl, rfl⟩
    go_wp2_with (fail)
    go_ret
    exact ⟨rfl, by go_grown⟩
  | true =>
    cases k2 with
    | false =>
      go_enter Tryz.func93, Tryz.ntmps93
      go_wp2_with (fail)
      refine (CK.out _).mono ?_
      rintro e w1 ⟨rfl, rfl⟩
      go_wp2_with (fail)
      have BX := hidIt (Bo.Box.new w #[.string a, .string b, .int .i64 c, .int .i64 d, .bool e] 100)
      have HB := hidIt ((Below.refl w.heap.size w).alloc (Nat.le_refl _) (.cells #[.string a, .string b, .int .i64 c, .int .i64 d, .bool e] 100))
      refine (CV.out _).mono ?_
      rintro e w1 ⟨rfl, k1⟩
      have HB1 := hidIt (HB.out.trans (k1.mono HB.out.size))
      have e2 := (BX.out.kept k1).c 2 rfl
      have e3 := (BX.out.kept k1).c 3 rfl
      clear k1
      go_wp2_with (fail)
      go_ret
      exact ⟨rfl, HB1.out⟩
    | true =>
      cases k3 with
      | false =>
        go_enter Tryz.func93, Tryz.ntmps93
        go_wp2_with (fail)
        refine (CK.out _).mono ?_
        rintro e w1 ⟨rfl, rfl⟩
        go_wp2_with (fail)
        have BX := hidIt (Bo.Box.new w #[.string a, .string b, .int .i64 c, .int .i64 d, .bool e] 100)
        have HB := hidIt ((Below.refl w.heap.size w).alloc (Nat.le_refl _) (.cells #[.string a, .string b, .int .i64 c, .int .i64 d, .bool e] 100))
        refine (CV.out _).mono ?_
        rintro e w1 ⟨rfl, k1⟩
        have HB1 := hidIt (HB.out.trans (k1.mono HB.out.size))
        have e2 := (BX.out.kept k1).c 2 rfl
        have e3 := (BX.out.kept k1).c 3 rfl
        clear k1
        go_wp2_with (fail)
        refine (CT.out _).mono ?_
        rintro e w2 ⟨rfl, rfl⟩
        go_wp2_with (fail)
        go_ret
        exact ⟨rfl, HB1.out⟩
      | true =>
        by_cases hp : 0 < c
        · rw [decide_eq_true hp]
          cases k5 with
          | false =>
            go_enter Tryz.func93, Tryz.ntmps93
            go_wp2_with (fail)
            refine (CK.out _).mono ?_
            rintro e w1 ⟨rfl, rfl⟩
            go_wp2_with (fail)
            have BX := hidIt (Bo.Box.new w #[.string a, .string b, .int .i64 c, .int .i64 d, .bool e] 100)
            have HB := hidIt ((Below.refl w.heap.size w).alloc (Nat.le_refl _) (.cells #[.string a, .string b, .int .i64 c, .int .i64 d, .bool e] 100))
            refine (CV.out _).mono ?_
            rintro e w1 ⟨rfl, k1⟩
            have HB1 := hidIt (HB.out.trans (k1.mono HB.out.size))
            have e2 := (BX.out.kept k1).c 2 rfl
            have e3 := (BX.out.kept k1).c 3 rfl
            clear k1
            go_wp2_with (fail)
            refine (CT.out _).mono ?_
            rintro e w2 ⟨rfl, rfl⟩
            go_wp2_with (fail)
            refine (CN.out _).mono ?_
            rintro e w3 ⟨rfl, rfl⟩
            go_wp2_with (fail)
            go_ret
            exact ⟨rfl, HB1.out⟩
          | true =>
            go_enter Tryz.func93, Tryz.ntmps93
            go_wp2_with (fail)
            refine (CK.out _).mono ?_
            rintro e w1 ⟨rfl, rfl⟩
            go_wp2_with (fail)
            have BX := hidIt (Bo.Box.new w #[.string a, .string b, .int .i64 c, .int .i64 d, .bool e] 100)
            have HB := hidIt ((Below.refl w.heap.size w).alloc (Nat.le_refl _) (.cells #[.string a, .string b, .int .i64 c, .int .i64 d, .bool e] 100))
            refine (CV.out _).mono ?_
            rintro e w1 ⟨rfl, k1⟩
            have HB1 := hidIt (HB.out.trans (k1.mono HB.out.size))
            have e2 := (BX.out.kept k1).c 2 rfl
            have e3 := (BX.out.kept k1).c 3 rfl
            clear k1
            go_wp2_with (fail)
            refine (CT.out _).mono ?_
            rintro e w2 ⟨rfl, rfl⟩
            go_wp2_with (fail)
            refine (CN.out _).mono ?_
            rintro e w3 ⟨rfl, rfl⟩
            go_wp2_with (fail)
            go_ret
            exact ⟨rfl, HB1.out⟩
        · rw [decide_eq_false hp]
          go_enter Tryz.func93, Tryz.ntmps93
          go_wp2_with (fail)
          refine (CK.out _).mono ?_
          rintro e w1 ⟨rfl, rfl⟩
          go_wp2_with (fail)
          have BX := hidIt (Bo.Box.new w #[.string a, .string b, .int .i64 c, .int .i64 d, .bool e] 100)
          have HB := hidIt ((Below.refl w.heap.size w).alloc (Nat.le_refl _) (.cells #[.string a, .string b, .int .i64 c, .int .i64 d, .bool e] 100))
          refine (CV.out _).mono ?_
          rintro e w1 ⟨rfl, k1⟩
          have HB1 := hidIt (HB.out.trans (k1.mono HB.out.size))
          have e2 := (BX.out.kept k1).c 2 rfl
          have e3 := (BX.out.kept k1).c 3 rfl
          clear k1
          go_wp2_with (fail)
          refine (CT.out _).mono ?_
          rintro e w2 ⟨rfl, rfl⟩
          go_wp2_with (fail)
          go_ret
          exact ⟨rfl, HB1.out⟩
set_option maxRecDepth 100000 in
set_option maxHeartbeats 8000000 in
theorem impl_BookOk (a : Option Addr) (cap : Nat) (L : List Rw) (w : World) (h : Rd w a L) (hl : L.length ≤ 9223372036854775807) (hs : ∀ i, i < L.length → (rat L i).1.size ≤ 9223372036854775807 ∧ (rat L i).2.1.size ≤ 9223372036854775807) :
    Calls Tryz.prog 81 #[.slice a L.length cap] w fun e w' => e = .returned (.bool (okBk (toB L))) ∧ Below w.heap.size w w' := by
  have N1 : Hid (¬ L.length ≤ 80 → okBk (toB L) = false) := hidIt book_no1
  have N2 : Hid (∀ i, i < L.length → okE (toE (rat L i)) = false → okBk (toB L) = false) := hidIt (fun i hi h => book_no2 hi h)
  have N3 : Hid (∀ i, i + 1 < L.length → ¬ kat L i < kat L (i + 1) → okBk (toB L) = false) := hidIt (fun i hi h => book_no3 hi h)
  have N4 : Hid (L.length ≤ 80 → (∀ i, i < L.length → okE (toE (rat L i)) = true) → (∀ i, i + 1 < L.length → kat L i < kat L (i + 1)) → okBk (toB L) = true) := hidIt book_yes
  generalize okBk (toB L) = r at N1 N2 N3 N4 ⊢
  have HR := hidIt h
  have HS := hidIt hs
  clear h hs
  generalize hn : L.length = m at *
  have HN := hidIt hn
  clear hn
  by_cases h80 : m ≤ 80
  · have h80' : ¬ (80 : Int) < (m : Int) := by omega
    go_enter Tryz.func81, Tryz.ntmps81
    go_wp2_with (fail)
    go_loopw [10] (fun y wx => ∃ i : Nat, y = .int .i64 i ∧ i ≤ m ∧ Hid (∀ j, j < i → okE (toE (rat L j)) = true) ∧ Hid (∀ j, j + 1 < i → kat L j < kat L (j + 1)) ∧ Hid (Below w.heap.size w wx)) (fun y _ => (m - intOf y).toNat)
    case atStart => exact ⟨0, rfl, by omega, hidIt (fun j hj => by omega), hidIt (fun j hj => by omega), hidIt (Below.refl _ _)⟩
    case round =>
      obtain ⟨i, rfl, hi, HO, HK, HB⟩ := hrel
      by_cases hin : i < m
      · have hin' : (i : Int) < (m : Int) := by omega
        have HRx := hidIt (HR.out.kept HB.out)
        obtain ⟨b, off, ea, c0, c1, c2, c3, c4⟩ := HRx.out.all (i := i) (by rw [HN.out]; exact hin)
        subst ea
        have CE := hidIt (fun W => impl_EntryOk (rat L i) W (HS.out i hin).1 (HS.out i hin).2)
        obtain ⟨ok, hok⟩ : ∃ ok, okE (toE (rat L i)) = ok := ⟨_, rfl⟩
        rw [hok] at CE
        have hkey : Hid (kat L i = bs (rat L i).1) := hidIt rfl
        have HOK := hidIt hok
        clear hok
        generalize rat L i = x at c0 c1 c2 c3 c4 CE hkey
        obtain ⟨xk, xv, xt, xn, xg⟩ := x
        simp only [rv] at CE c0 c1 c2 c3 c4
        have BX := hidIt (Bo.Box.new wr #[.string xk, .string xv, .int .i64 xt, .int .i64 xn, .bool xg] 100)
        have HBz := hidIt (HB.out.alloc HB.out.size (.cells #[.string xk, .string xv, .int .i64 xt, .int .i64 xn, .bool xg] 100))
        have HRz := hidIt (HRx.out.alloc (.cells #[.string xk, .string xv, .int .i64 xt, .int .i64 xn, .bool xg] 100))
        cases ok with
        | false =>
          have er := N2.out i hin HOK.out
          subst er
          go_wp2_with (fail)
          generalize wr.alloc (.cells #[.string xk, .string xv, .int .i64 xt, .int .i64 xn, .bool xg] 100) = wz at BX HBz HRz ⊢
          haveI := BelowBy.one wz
          have g0 := fun p : BelowBy wz => p.cell (BX.out.c 0 rfl)
          have g1 := fun p : BelowBy wz => p.cell (BX.out.c 1 rfl)
          have g2 := fun p : BelowBy wz => p.cell (BX.out.c 2 rfl)
          have g3 := fun p : BelowBy wz => p.cell (BX.out.c 3 rfl)
          have g4 := fun p : BelowBy wz => p.cell (BX.out.c 4 rfl)
          refine wp_region_below (by kernel_rfl) (by kernel_rfl) ?_
          repeat (go_big_quiet_step (first | (go_at_call 93; refine calls_below (CE.out _))))
          refine wpQuiet_nil ?_
          intro _ hw'
          obtain ⟨pq, rfl⟩ := hw'
          have HB1 := hidIt (HBz.out.trans (pq.h.mono HBz.out.size))
          generalize pq.world = w2 at HB1 ⊢
          clear g0 g1 g2 g3 g4
          go_wp2_with (fail)
          go_ret
          exact ⟨rfl, HB1.out⟩
        | true =>
          have HO' : Hid (∀ j, j < i + 1 → okE (toE (rat L j)) = true) := hidIt (fun j hj => by
            rcases Nat.lt_succ_iff_lt_or_eq.1 hj with h | h
            · exact HO.out j h
            · subst h; exact HOK.out)
          rcases Nat.eq_zero_or_pos i with hz | hp
          · subst hz
            simp only [Nat.zero_mul, Nat.add_zero] at c0 c1 c2 c3 c4
            go_wp2_with (fail)
            generalize wr.alloc (.cells #[.string xk, .string xv, .int .i64 xt, .int .i64 xn, .bool xg] 100) = wz at BX HBz HRz ⊢
            haveI := BelowBy.one wz
            have g0 := fun p : BelowBy wz => p.cell (BX.out.c 0 rfl)
            have g1 := fun p : BelowBy wz => p.cell (BX.out.c 1 rfl)
            have g2 := fun p : BelowBy wz => p.cell (BX.out.c 2 rfl)
            have g3 := fun p : BelowBy wz => p.cell (BX.out.c 3 rfl)
            have g4 := fun p : BelowBy wz => p.cell (BX.out.c 4 rfl)
            refine wp_region_below (by kernel_rfl) (by kernel_rfl) ?_
            repeat (go_big_quiet_step (first | (go_at_call 93; refine calls_below (CE.out _))))
            refine wpQuiet_nil ?_
            intro _ hw'
            obtain ⟨pq, rfl⟩ := hw'
            have HB1 := hidIt (HBz.out.trans (pq.h.mono HBz.out.size))
            generalize pq.world = w2 at HB1 ⊢
            clear g0 g1 g2 g3 g4
            go_wp2_with (fail)
            exact ⟨⟨1, by simp, by omega, HO', hidIt (fun j hj => by omega), HB1⟩, by simp [intOf]; omega⟩
          · obtain ⟨j, rfl⟩ : ∃ j, i = j + 1 := ⟨i - 1, by omega⟩
            obtain ⟨b', off', ea, p0, _⟩ := HRx.out.all (i := j) (by rw [HN.out]; omega)
            cases ea
            have hkj : Hid (kat L j = bs (rat L j).1) := hidIt rfl
            obtain ⟨pk, epk⟩ : ∃ pk, (rat L j).1 = pk := ⟨_, rfl⟩
            rw [epk] at p0 hkj
            have EPK := hidIt epk
            clear epk
            have hless := less_of pk xk
            have hpos : (0 : Int) < ((j : Int) + 1) := by omega
            by_cases hlt : bs pk < bs xk
            · rw [decide_eq_true hlt] at hless
              have HK' : Hid (∀ q, q + 1 < j + 1 + 1 → kat L q < kat L (q + 1)) := hidIt (fun q hq => by
                rcases Nat.lt_succ_iff_lt_or_eq.1 (show q + 1 < j + 1 + 1 from hq) with h | h
                · exact HK.out q h
                · have : q = j := by omega
                  subst this
                  rw [hkj.out, hkey.out]
                  exact hlt)
              clear hlt
              go_wp2_with (fail)
              generalize wr.alloc (.cells #[.string xk, .string xv, .int .i64 xt, .int .i64 xn, .bool xg] 100) = wz at BX HBz HRz ⊢
              haveI := BelowBy.one wz
              have g0 := fun p : BelowBy wz => p.cell (BX.out.c 0 rfl)
              have g1 := fun p : BelowBy wz => p.cell (BX.out.c 1 rfl)
              have g2 := fun p : BelowBy wz => p.cell (BX.out.c 2 rfl)
              have g3 := fun p : BelowBy wz => p.cell (BX.out.c 3 rfl)
              have g4 := fun p : BelowBy wz => p.cell (BX.out.c 4 rfl)
              obtain ⟨b'', off'', ea2, q0, _⟩ := HRz.out.all (i := j) (by rw [HN.out]; omega)
              cases ea2
              rw [EPK.out] at q0
              have k0 := fun p : BelowBy wz => p.cell q0
              clear q0
              refine wp_region_below (by kernel_rfl) (by kernel_rfl) ?_
              repeat (go_big_quiet_step (first | (go_at_call 93; refine calls_below (CE.out _))))
              refine wpQuiet_nil ?_
              intro _ hw'
              obtain ⟨pq, rfl⟩ := hw'
              have HB1 := hidIt (HBz.out.trans (pq.h.mono HBz.out.size))
              generalize pq.world = w2 at HB1 ⊢
              clear g0 g1 g2 g3 g4 k0
              go_wp2_with (fail)
              exact ⟨⟨j + 1 + 1, by simp, by omega, HO', HK', HB1⟩, by simp [intOf]; omega⟩
            · have er := N3.out j (by omega) (by rw [hkj.out, hkey.out]; exact hlt)
              rw [decide_eq_false hlt] at hless
              subst er
              clear hlt
              go_wp2_with (fail)
              generalize wr.alloc (.cells #[.string xk, .string xv, .int .i64 xt, .int .i64 xn, .bool xg] 100) = wz at BX HBz HRz ⊢
              haveI := BelowBy.one wz
              have g0 := fun p : BelowBy wz => p.cell (BX.out.c 0 rfl)
              have g1 := fun p : BelowBy wz => p.cell (BX.out.c 1 rfl)
              have g2 := fun p : BelowBy wz => p.cell (BX.out.c 2 rfl)
              have g3 := fun p : BelowBy wz => p.cell (BX.out.c 3 rfl)
              have g4 := fun p : BelowBy wz => p.cell (BX.out.c 4 rfl)
              obtain ⟨b'', off'', ea2, q0, _⟩ := HRz.out.all (i := j) (by rw [HN.out]; omega)
              cases ea2
              rw [EPK.out] at q0
              have k0 := fun p : BelowBy wz => p.cell q0
              clear q0
              refine wp_region_below (by kernel_rfl) (by kernel_rfl) ?_
              repeat (go_big_quiet_step (first | (go_at_call 93; refine calls_below (CE.out _))))
              refine wpQuiet_nil ?_
              intro _ hw'
              obtain ⟨pq, rfl⟩ := hw'
              have HB1 := hidIt (HBz.out.trans (pq.h.mono HBz.out.size))
              generalize pq.world = w2 at HB1 ⊢
              clear g0 g1 g2 g3 g4 k0
              go_wp2_with (fail)
              go_ret
              exact ⟨rfl, HB1.out⟩
      · have hin' : ¬ (i : Int) < (m : Int) := by omega
        have HI : Hid (i = m) := hidIt (by omega)
        have er := N4.out h80 (fun j hj => HO.out j (by have := HI.out; omega)) (fun j hj => HK.out j (by have := HI.out; omega))
        subst er
        go_wp2_with (fail)
        go_ret
        exact ⟨rfl, HB.out⟩
  · have h80' : (80 : Int) < (m : Int) := by omega
    have er := N1.out h80
    subst er
    go_enter Tryz.func81, Tryz.ntmps81
    go_wp2
    go_ret
    exact ⟨rfl, Below.refl _ _⟩
theorem val_hit {L : List Rw} {k : Bytes} {i : Nat} (h : okBk (toB L) = true) (hi : i < L.length) (hk : kat L i = k) (hg : (rat L i).2.2.2.2 = false) : valB (toB L) k = (bs (rat L i).2.1, true) := by
  have hm : toE (rat L i) ∈ toB L := List.mem_map.2 ⟨_, rat_mem hi, rfl⟩
  have hl := Bk.look_mem (Bk.ok_ris h) hm
  rw [show (toE (rat L i)).key = k from hk] at hl
  exact Bk.val_some h hl hg
theorem val_miss {L : List Rw} {k : Bytes} (h : okBk (toB L) = true) (hn : ∀ j, j < L.length → kat L j = k → (rat L j).2.2.2.2 = true) : valB (toB L) k = ([], false) := by
  cases hl : Bk.look (toB L) k with
  | none => exact Bk.val_none h hl
  | some e =>
    obtain ⟨hm, hk⟩ := Bk.look_some hl
    obtain ⟨y, hy, rfl⟩ := List.mem_map.1 hm
    obtain ⟨j, hj, rfl⟩ := List.mem_iff_getElem.1 hy
    have := hn j hj (by unfold kat; rw [rat_at hj]; exact hk)
    rw [rat_at hj] at this
    exact Bk.val_gone h hl this
end Go.Proofs.YtceddedlfdgbhaaGreatDoor.En
namespace Go.Proofs.YtceddedlfdgbhaaGreatDoor.En
open Go.ChangeShapes Go.WideShapes Go.ChangeAt Go.RowKit
open Go.Proofs.YtceddedlfdgbhaaGreatDoor.Rc (BelowBy BelowBy.one wp_region_below calls_below calls_same)
set_option linter.unusedVariables false
/-- What a measure leaves: no more than there was, and less by how many there are. -/
structure Le2 (r l : Int) (m : Nat) : Prop where
  le : r ≤ l
  sum : 0 ≤ r → r + (m : Int) ≤ l
set_option maxRecDepth 100000 in
set_option maxHeartbeats 4000000 in
theorem to_any (x : Rw) (w : World) : Calls Tryz.prog 79 #[rv x] w fun e w' => e = .returned (rv x) ∧ Below w.heap.size w w' := by
  obtain ⟨x0, x1, x2, x3, x4⟩ := x
  go_enter Tryz.func79, Tryz.ntmps79
  go_wp2
  refine bodyPost_ret (v := rv (x0, x1, x2, x3, x4)) (by simp [results, Tryz.results79, go_sem]) rfl ⟨rfl, ?_⟩
  go_grown
set_option maxRecDepth 100000 in
set_option maxHeartbeats 4000000 in
theorem eq_same (x : Rw) (w : World) : Calls Tryz.prog 90 #[rv x, rv x] w fun e w' => e = .returned (.bool true) ∧ Below w.heap.size w w' := by
  obtain ⟨x0, x1, x2, x3, x4⟩ := x
  have hb4 : (x4 != x4) = false := by cases x4 <;> rfl
  go_enter Tryz.func90, Tryz.ntmps90
  go_wp2
  go_ret
  exact ⟨rfl, by go_grown⟩
set_option maxRecDepth 100000 in
set_option maxHeartbeats 4000000 in
theorem sz_any (x : Rw) (l : Int) (w : World) (hs0 : x.1.size ≤ 9223372036854775807) (hs1 : x.2.1.size ≤ 9223372036854775807) (h0 : 0 ≤ l) (h1 : l ≤ 1048576) : Calls Tryz.prog 74 #[rv x, .int .i64 l] w fun e w' => ∃ r : Int, e = .returned (.int .i64 r) ∧ r ≤ l ∧ -1 ≤ r ∧ (0 ≤ r → x.1.size ≤ 1048576 ∧ x.2.1.size ≤ 1048576) ∧ Below w.heap.size w w' := by
  obtain ⟨x0, x1, x2, x3, x4⟩ := x
  simp only at hs0 hs1
  have p0 : -9223372036854775808 ≤ l - (x0.size : Int) := by omega
  have q0 : l - (x0.size : Int) ≤ 9223372036854775807 := by omega
  by_cases m0 : l - (x0.size : Int) < 0
  · go_enter Tryz.func74, Tryz.ntmps74
    go_wp2
    go_ret
    exact ⟨-1, rfl, by omega, by omega, fun h => by omega, by go_grown⟩
  have p1 : -9223372036854775808 ≤ l - (x0.size : Int) - (x1.size : Int) := by omega
  have q1 : l - (x0.size : Int) - (x1.size : Int) ≤ 9223372036854775807 := by omega
  by_cases m1 : l - (x0.size : Int) - (x1.size : Int) < 0
  · go_enter Tryz.func74, Tryz.ntmps74
    go_wp2
    go_ret
    exact ⟨-1, rfl, by omega, by omega, fun h => by omega, by go_grown⟩
  go_enter Tryz.func74, Tryz.ntmps74
  go_wp2
  go_ret
  first | exact ⟨_, rfl, by omega, by omega, fun _ => ⟨by omega, by omega⟩, by go_grown⟩ | exact ⟨_, rfl, by omega, by omega, fun _ => by omega, by go_grown⟩
set_option maxRecDepth 100000 in
set_option maxHeartbeats 4000000 in
theorem szS_any (a : Option Addr) (cap : Nat) (L : List Rw) (l : Int) (w : World) (h : Rd w a L) (hl : L.length ≤ 9223372036854775807) (hs : ∀ i, i < L.length → (rat L i).1.size ≤ 9223372036854775807 ∧ (rat L i).2.1.size ≤ 9223372036854775807) (h0 : 0 ≤ l) (h1 : l ≤ 1048576) :
    Calls Tryz.prog 52 #[.slice a L.length cap, .int .i64 l] w fun e w' => ∃ r : Int, e = .returned (.int .i64 r) ∧ Le2 r l L.length ∧ (0 ≤ r → L.length ≤ 1048576 ∧ ∀ i, i < L.length → (rat L i).1.size ≤ 1048576 ∧ (rat L i).2.1.size ≤ 1048576) ∧ Below w.heap.size w w' := by
  generalize hn : L.length = m at *
  have HR := hidIt h
  have HN := hidIt hn
  have HS := hidIt hs
  clear h hn hs
  have h2 : -9223372036854775808 ≤ l - (m : Int) := by omega
  have h3 : l - (m : Int) ≤ 9223372036854775807 := by omega
  by_cases hs2 : l - (m : Int) < 0
  · go_enter Tryz.func52, Tryz.ntmps52
    go_wp2
    go_ret
    exact ⟨-1, rfl, ⟨by omega, fun h => by omega⟩, fun h => by omega, Below.refl _ _⟩
  · have hn2 : m ≤ 1048576 := by omega
    go_enter Tryz.func52, Tryz.ntmps52
    go_wp2_with (fail)
    go_loopw [1, 5] (fun z y wx => ∃ (i : Nat) (r : Int), y = .int .i64 i ∧ z = .int .i64 r ∧ 0 ≤ r ∧ r + (m : Int) ≤ l ∧ i ≤ m ∧ Hid (∀ j, j < i → (rat L j).1.size ≤ 1048576 ∧ (rat L j).2.1.size ≤ 1048576) ∧ Hid (Below w.heap.size w wx)) (fun _ y _ => (m - intOf y).toNat)
    case atStart => exact ⟨0, _, rfl, rfl, by omega, by omega, by omega, hidIt (fun j hj => by omega), hidIt (Below.refl _ _)⟩
    case round =>
      obtain ⟨i, r, rfl, rfl, r0, r1, hi, HJ, HB⟩ := hrel
      have HRx := hidIt (HR.out.kept HB.out)
      by_cases hin : i < m
      · have hin' : (i : Int) < (m : Int) := by omega
        obtain ⟨b, off, rfl, c0, c1, c2, c3, c4⟩ := HRx.out.all (i := i) (by rw [HN.out]; exact hin)
        have hC := fun W => sz_any (rat L i) r W (HS.out i hin).1 (HS.out i hin).2 r0 (by omega)
        generalize hx : rat L i = x at c0 c1 c2 c3 c4 hC
        have HX := hidIt hx
        clear hx
        obtain ⟨x0, x1, x2, x3, x4⟩ := x
        simp only [rv] at hC c0 c1 c2 c3 c4
        have HC := hidIt hC
        clear hC
        go_wp2_with (fail)
        refine (HC.out _).mono ?_
        rintro e w1 ⟨r', rfl, hr', hr0, hsz, hb1⟩
        have HB1 := hidIt (HB.out.trans (hb1.mono HB.out.size))
        have HZ := hidIt hsz
        clear hb1 HRx HB HC hsz
        by_cases hneg : r' < 0
        · go_wp2_with (fail)
          go_ret
          exact ⟨-1, rfl, ⟨by omega, fun h => by omega⟩, fun h => by omega, HB1.out⟩
        · go_wp2_with (fail)
          refine ⟨⟨i + 1, r', by simp, rfl, by omega, by omega, by omega, hidIt (fun j hj => ?_), HB1⟩, by simp [intOf]; omega⟩
          rcases Nat.lt_succ_iff_lt_or_eq.1 hj with h | h
          · exact HJ.out j h
          · subst h; rw [HX.out]; exact HZ.out (by omega)
      · have hin' : ¬ (i : Int) < (m : Int) := by omega
        have HI : Hid (i = m) := hidIt (by omega)
        go_wp2_with (fail)
        go_ret
        first | exact ⟨r, rfl, ⟨by omega, fun _ => by omega⟩, fun _ => ⟨hn2, fun j hj => HJ.out j (by have := HI.out; omega)⟩, HB.out⟩ | exact ⟨r, rfl, ⟨by omega, fun _ => by omega⟩, fun _ => fun j hj => HJ.out j (by have := HI.out; omega), HB.out⟩ | exact ⟨r, rfl, ⟨by omega, fun _ => by omega⟩, fun j hj => HJ.out j (by have := HI.out; omega), HB.out⟩
theorem rcells_zero (m : Nat) : rcells (List.replicate m (ByteArray.empty, ByteArray.empty, 0, 0, false)) = (madeCells #[.string ByteArray.empty, .string ByteArray.empty, .int .i64 0, .int .i64 0, .bool false] (m * 5)).toList := by
  apply List.ext_getElem?
  intro x
  by_cases hx : x < m * 5
  · have e : x = x / 5 * 5 + x % 5 := by omega
    have h1 := rcells_get (List.replicate m (ByteArray.empty, ByteArray.empty, 0, 0, false)) (x / 5) (x % 5) (by rw [List.length_replicate]; omega) (by omega)
    rw [← e] at h1
    have h2 : rat (List.replicate m (ByteArray.empty, ByteArray.empty, 0, 0, false)) (x / 5) = (ByteArray.empty, ByteArray.empty, 0, 0, false) := by
      rw [rat_at (by rw [List.length_replicate]; omega), List.getElem_replicate]
    rw [h1, h2]
    have h3 : x % 5 = 0 ∨ x % 5 = 1 ∨ x % 5 = 2 ∨ x % 5 = 3 ∨ x % 5 = 4 := by omega
    rcases h3 with h | h | h | h | h <;> simp [madeCells, hx, h, rcell]
  · rw [List.getElem?_eq_none (by rw [rcells_length, List.length_replicate]; omega), List.getElem?_eq_none (by simp [madeCells]; omega)]
set_option maxRecDepth 100000 in
set_option maxHeartbeats 4000000 in
theorem toS_any (a : Option Addr) (cap : Nat) (L : List Rw) (w : World) (h : Rd w a L) (hl : L.length ≤ 1048576) :
    Calls Tryz.prog 60 #[.slice a L.length cap] w fun e w' => ∃ v, e = .returned v ∧ Own w' w.heap.size v L ∧ Below w.heap.size w w' := by
  generalize hn : L.length = m at *
  obtain ⟨i0, hi, hz0, hz1, hz2⟩ := info_parts infoRw
  have HR := hidIt h
  have HN := hidIt hn
  clear h hn
  go_enter Tryz.func60, Tryz.ntmps60
  go_wp2_with (first
    | (at_make; refine wpList_make_full _ rfl _ _ 37 rfl w.heap.size 100 i0 (.agg #[.string ByteArray.empty, .string ByteArray.empty, .int .i64 0, .int .i64 0, .bool false]) 5 Tryz.underlying37 hi hz0 hz1 _ _ _ _ m rfl rfl (by omega) (by omega) (by rw [hz2]; omega) (by unfold maxLen; omega) (Nat.le_refl _) ?_)
    | fail)
  intro w1 hown hgrow
  have HO : Hid (Own w1 w.heap.size (.slice (some ⟨w.heap.size, 0, none⟩) m m) (List.replicate m (ByteArray.empty, ByteArray.empty, 0, 0, false))) := by
    refine hidIt ?_
    unfold Own
    rw [List.length_replicate, rcells_zero]
    exact hown
  have HB := hidIt ((Below.refl w.heap.size w).grown hgrow (Nat.le_refl _) (fun k hk => by cases hk))
  clear hown hgrow
  go_wp2_with (fail)
  go_loopw [4] (fun y wx => ∃ (i : Nat) (M : List Rw), y = .int .i64 i ∧ i ≤ m ∧ M.length = m ∧ Hid (∀ j, j < i → rat M j = rat L j) ∧ Hid (Own wx w.heap.size (.slice (some ⟨w.heap.size, 0, none⟩) m m) M) ∧ Hid (Below w.heap.size w wx)) (fun y _ => (m - intOf y).toNat)
  case atStart => exact ⟨0, _, rfl, by omega, by simp, hidIt (fun j hj => by omega), HO, HB⟩
  case round =>
    obtain ⟨i, M, rfl, hin0, hM, hE, HOx, HBx⟩ := hrel
    have HRx := hidIt (HR.out.kept HBx.out)
    have HM := hidIt hM
    clear HO HB hM
    by_cases hin : i < m
    · have hin' : (i : Int) < (m : Int) := by omega
      obtain ⟨b, off, rfl, c0, c1, c2, c3, c4⟩ := HRx.out.all (i := i) (by rw [HN.out]; exact hin)
      generalize hx : rat L i = x at c0 c1 c2 c3 c4
      have HX := hidIt hx
      clear hx
      obtain ⟨x0, x1, x2, x3, x4⟩ := x
      simp only at c0 c1 c2 c3 c4
      have hC := to_any (x0, x1, x2, x3, x4)
      simp only [rv] at hC
      have HC := hidIt hC
      clear hC
      go_wp2_with (fail)
      refine (HC.out _).mono ?_
      rintro e w2 ⟨rfl, hb2⟩
      have HB2 := hidIt (HBx.out.trans (hb2.mono HBx.out.size))
      have HO2 := hidIt (HOx.out.kept hb2)
      have hiM : i < M.length := by rw [HM.out]; exact hin
      have HO3 := hidIt (HO2.out.whole hiM (x0, x1, x2, x3, x4))
      have z0 := HO2.out.at hiM (j := 0) (by omega)
      have z1 := HO2.out.at hiM (j := 1) (by omega)
      have z2 := HO2.out.at hiM (j := 2) (by omega)
      have z3 := HO2.out.at hiM (j := 3) (by omega)
      have z4 := HO2.out.at hiM (j := 4) (by omega)
      have f0 := HO2.out.free (i * 5)
      have f1 := HO2.out.free (i * 5 + 1)
      have f2 := HO2.out.free (i * 5 + 2)
      have f3 := HO2.out.free (i * 5 + 3)
      have f4 := HO2.out.free (i * 5 + 4)
      simp only [rcell, Nat.add_zero] at z0 z1 z2 z3 z4
      clear hb2 HRx HBx HOx HO2 HC
      have HMi := hidIt hiM
      clear hiM
      go_wp2_with (fail)
      refine ⟨⟨i + 1, _, by simp, by omega, by rw [List.length_set]; exact HM.out, hidIt (fun j hj => ?_), HO3, hidIt (((((HB2.out.setCell (by simp) _).setCell (by simp) _).setCell (by simp) _).setCell (by simp) _).setCell (by simp) _)⟩, by simp [intOf]; omega⟩
      rw [rat_set HMi.out]
      split
      · next e => subst e; exact HX.out.symm
      · exact hE.out j (by omega)
    · have hin' : ¬ (i : Int) < (m : Int) := by omega
      have e : M = L := ext_rat (by rw [HM.out, HN.out]) (fun j hj => hE.out j (by rw [HM.out] at hj; omega))
      subst e
      go_wp2_with (fail)
      go_ret
      exact ⟨_, rfl, HOx.out, HBx.out⟩
set_option maxRecDepth 100000 in
set_option maxHeartbeats 4000000 in
theorem eqS_same (a a' : Option Addr) (cap cap' : Nat) (L : List Rw) (w : World) (h : Rd w a L) (h' : Rd w a' L) (hl : L.length ≤ 9223372036854775807) :
    Calls Tryz.prog 70 #[.slice a L.length cap, .slice a' L.length cap'] w fun e w' => e = .returned (.bool true) ∧ Below w.heap.size w w' := by
  generalize hn : L.length = m at *
  have HA := hidIt h
  have HA' := hidIt h'
  have HN := hidIt hn
  clear h h' hn
  have hmm : ((m : Int) != (m : Int)) = false := by simp
  go_enter Tryz.func70, Tryz.ntmps70
  go_wp2_with (fail)
  go_loopw [5] (fun y wx => ∃ i : Nat, y = .int .i64 i ∧ i ≤ m ∧ Hid (Below w.heap.size w wx)) (fun y _ => (m - intOf y).toNat)
  case atStart => exact ⟨0, rfl, by omega, hidIt (Below.refl _ _)⟩
  case round =>
    obtain ⟨i, rfl, hi, hB⟩ := hrel
    by_cases hin : i < m
    · have hin' : (i : Int) < (m : Int) := by omega
      obtain ⟨b, off, rfl, c0, c1, c2, c3, c4⟩ := (HA.out.kept hB.out).all (i := i) (by rw [HN.out]; exact hin)
      obtain ⟨b', off', rfl, d0, d1, d2, d3, d4⟩ := (HA'.out.kept hB.out).all (i := i) (by rw [HN.out]; exact hin)
      have hC := eq_same (rat L i)
      generalize rat L i = x at c0 c1 c2 c3 c4 d0 d1 d2 d3 d4 hC
      obtain ⟨x0, x1, x2, x3, x4⟩ := x
      simp only [rv] at hC c0 c1 c2 c3 c4 d0 d1 d2 d3 d4
      have HC := hidIt hC
      clear hC
      haveI := BelowBy.one wr
      have g0 := fun p : BelowBy wr => p.cell c0
      have g1 := fun p : BelowBy wr => p.cell c1
      have g2 := fun p : BelowBy wr => p.cell c2
      have g3 := fun p : BelowBy wr => p.cell c3
      have g4 := fun p : BelowBy wr => p.cell c4
      have k0 := fun p : BelowBy wr => p.cell d0
      have k1 := fun p : BelowBy wr => p.cell d1
      have k2 := fun p : BelowBy wr => p.cell d2
      have k3 := fun p : BelowBy wr => p.cell d3
      have k4 := fun p : BelowBy wr => p.cell d4
      go_wp2_with (fail)
      refine wp_region_below (by kernel_rfl) (by kernel_rfl) ?_
      repeat (go_big_quiet_step (first | (go_at_call 90; refine calls_below (HC.out _))))
      refine wpQuiet_nil ?_
      intro _ hw'
      obtain ⟨pq, rfl⟩ := hw'
      have hB1 := hidIt (hB.out.trans (pq.h.mono hB.out.size))
      generalize pq.world = w2 at hB1 ⊢
      clear c0 c1 c2 c3 c4 d0 d1 d2 d3 d4 g0 g1 g2 g3 g4 k0 k1 k2 k3 k4
      go_wp2_with (fail)
      exact ⟨⟨i + 1, by simp, by omega, hB1⟩, by simp [intOf]; omega⟩
    · have hin' : ¬ (i : Int) < (m : Int) := by omega
      go_wp2_with (fail)
      go_ret
      exact ⟨rfl, hB.out⟩
end Go.Proofs.YtceddedlfdgbhaaGreatDoor.En
