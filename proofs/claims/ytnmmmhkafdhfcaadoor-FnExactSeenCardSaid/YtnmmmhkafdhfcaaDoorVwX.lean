/-
  RulesOf, Seen and Lets of the landed program: a panic inside (what can't be read), made the zero values by recover at the face.
-/
import Derived.Test.YtnmmmhkafdhfcaaDoorVwI
import Derived.Test.YtnmmmhkafdhfcaaDoorVwS
import Derived.Test.YtnmmmhkafdhfcaaDoorBokI
import Derived.Test.YtnmmmhkafdhfcaaDoorRuX
namespace Go.Proofs.YtnmmmhkafdhfcaaDoor.Vw
open Go.ChangeShapes Go.WideShapes Go.ChangeAt Go.RowKit
set_option linter.unusedVariables false
theorem valT_size {L : List En.Rw} {t : ByteArray} : (valT L t).size ≤ 40 := by
  have e : (valT L t).size = (valV L t).1.length := by rw [← bs_length]; rfl
  rw [e]
  unfold valV Bk.valB
  split
  · rename_i hok
    cases hl : Bk.look (En.toB L) (En.bs (aclK t)) with
    | none => simp
    | some y =>
      simp only
      have hm := (Bk.look_some hl).1
      have := Bk.ok_all hok hm
      have h40 : y.value.length ≤ 40 := by simp only [Bk.okE, Bool.and_eq_true, decide_eq_true_eq] at this; omega
      cases y.gone <;> simp <;> omega
  · simp
theorem valV_no {L : List En.Rw} {t : ByteArray} (h : Bk.okBk (En.toB L) = false) : (valV L t).2 = false := by unfold valV; rw [Bk.val_no h]
/-- What is said of a call that gives up by a panic where there is nothing. -/
def RiP (r : Option (List Ru.Rw)) (w : World) (e : Ending) (w' : World) : Prop := Below w.heap.size w w' ∧ match r with
  | some R => ∃ v, e = .returned v ∧ Ru.Own w' w.heap.size v R
  | none => ∃ u pv, e = .panicked [{ v := .iface u pv, recovered := false }]
theorem RiP.yes {R : List Ru.Rw} {w w' : World} {e : Ending} {v : Value} (h : e = .returned v) (o : Ru.Own w' w.heap.size v R) (k : Below w.heap.size w w') : RiP (some R) w e w' := ⟨k, v, h, o⟩
theorem RiP.no {w w' : World} {e : Ending} {u : TypeId} {pv : Value} (h : e = .panicked [{ v := .iface u pv, recovered := false }]) (k : Below w.heap.size w w') : RiP none w e w' := ⟨k, u, pv, h⟩
set_option maxRecDepth 100000 in
set_option maxHeartbeats 8000000 in
theorem impl_rulesIn (a : Option Addr) (cap : Nat) (L : List En.Rw) (t : ByteArray) (eu : Addr) (w : World) (h : En.Rd w a L) (hl : L.length ≤ 9223372036854775806) (hs : En.shortR L) (ht : t.size ≤ 1048576) (hu : Se.At w 0 eu) :
    Calls Tryd.prog 25 #[.slice a L.length cap, .string t] w fun e w' => RiP (rulR L t) w e w' := by
  have CV : Hid (∀ W, En.Rd W a L → Calls Tryd.prog 41 #[.slice a L.length cap, .string (⟨#[97, 99, 108, 47]⟩ ++ t)] W fun e w' => e = .returned (.tuple #[.string (valT L t), .bool (valV L t).2]) ∧ Below W.heap.size W w') := hidIt (fun W r => (En.impl_ValueOf a cap L (aclK t) W r hl hs).mono (fun e w' ⟨u, he, hu, hw⟩ => by
    have eu := valT_is hu
    subst eu
    exact ⟨he, hw⟩))
  have HT := hidIt (fun W => impl_keyOfToken t W ht)
  have hv := valT_size (L := L) (t := t)
  have N2 : Hid (tokB t = false → rulR L t = none) := hidIt rul_no2
  have N3 : Hid ((valV L t).2 = false → rulR L t = none) := hidIt rul_no3
  have N4 : Hid (tokB t = true → (valV L t).2 = true → rulR L t = Ru.readR (valT L t)) := hidIt (fun k g => by
    cases hok : Bk.okBk (En.toB L) with
    | false => rw [valV_no hok] at g; cases g
    | true => exact rul_is hok k g)
  generalize rulR L t = r at N2 N3 N4 ⊢
  generalize valT L t = u at CV N4 hv
  generalize (valV L t).2 = g at CV N3 N4
  generalize tokB t = k at HT N2 N4
  generalize (⟨#[97, 99, 108, 47]⟩ ++ t : ByteArray) = key at CV HT
  have HR := hidIt h
  have HU := hidIt hu
  have RY := hidIt (fun s W => readS_yes s W)
  have RN := hidIt (fun s W (h : Se.At W 0 eu) => readS_no s eu W h)
  have QY := hidIt (fun a n c W => readR_yes a n c W)
  have QN := hidIt (fun a n c W (h : Se.At W 0 eu) => readR_no a n c eu W h)
  clear h hs hu
  generalize L.length = m at *
  go_enter Tryd.func25, Tryd.ntmps25
  go_wp2_with (fail)
  refine (HT.out _).mono ?_
  rintro e w1 ⟨rfl, rfl⟩
  cases k with
  | false =>
    have er := N2.out rfl
    subst er
    go_wp2_with (fail)
    refine (RN.out _ _ HU.out).mono ?_
    rintro e w2 ⟨rfl, rfl⟩
    go_wp2_with (fail)
    exact ⟨rfl, RiP.no rfl (Below.refl _ _)⟩
  | true =>
    go_wp2_with (fail)
    refine (RY.out _ _).mono ?_
    rintro e w2 ⟨rfl, rfl⟩
    go_wp2_with (fail)
    refine (CV.out _ HR.out).mono ?_
    rintro e w2 ⟨rfl, kk⟩
    have HB := hidIt kk
    have HU2 := hidIt (HU.out.kept kk)
    clear kk
    cases g with
    | false =>
      have er := N3.out rfl
      subst er
      go_wp2_with (fail)
      refine (RN.out _ _ HU2.out).mono ?_
      rintro e w3 ⟨rfl, rfl⟩
      go_wp2_with (fail)
      exact ⟨rfl, RiP.no rfl HB.out⟩
    | true =>
      have er := N4.out (by first | rfl | trivial) (by first | rfl | trivial)
      have CR := hidIt (fun W => Ru.impl_ReadRules u W (by omega))
      rw [← er] at CR
      clear er N2 N3 N4
      go_wp2_with (fail)
      refine (RY.out _ _).mono ?_
      rintro e w3 ⟨rfl, rfl⟩
      go_wp2_with (fail)
      refine (CR.out _).mono ?_
      rintro e w4 ⟨v, rfl, o, kk⟩
      obtain ⟨z1, z2, ez, _⟩ := o.form
      have HO := hidIt (o.mono HB.out.size)
      have HU4 := hidIt (HU2.out.kept kk)
      replace HB := hidIt (HB.out.trans (kk.mono HB.out.size))
      clear o kk
      subst ez
      cases r with
      | none =>
        go_wp2_with (fail)
        refine (QN.out _ _ _ _ HU4.out).mono ?_
        rintro e w5 ⟨rfl, rfl⟩
        go_wp2_with (fail)
        exact ⟨rfl, RiP.no rfl HB.out⟩
      | some R =>
        go_wp2_with (fail)
        refine (QY.out _ _ _ _).mono ?_
        rintro e w5 ⟨rfl, rfl⟩
        go_wp2_with (fail)
        go_ret
        exact RiP.yes rfl HO.out HB.out
set_option maxRecDepth 100000 in
set_option maxHeartbeats 8000000 in
theorem RulesOf_panicking (u : TypeId) (pv : Value) (w : World) :
    CallsD Tryd.prog 24 #[] (.panicking [{ v := .iface u pv, recovered := false }]) w fun e u' w' => e = .returned (.tuple #[]) ∧ u' = .panicking [{ v := .iface u pv, recovered := true }] ∧ w' = w := by
  refine callsD_of_wpS Tryd.func24 rfl fun c₀ cs hu => ?_
  apply wpS_region
  simp [wpOpsS, go_sem, recoverD, hu, Tryd.ntmps24, bodyPostS, results, Tryd.results24]
set_option maxRecDepth 100000 in
set_option maxHeartbeats 8000000 in
theorem RulesOf_idle (w : World) :
    CallsD Tryd.prog 24 #[] .returning w fun e u' w' => e = .returned (.tuple #[]) ∧ u' = .returning ∧ w' = w := by
  refine callsD_of_wpS Tryd.func24 rfl fun c₀ cs hu => ?_
  apply wpS_region
  simp [wpOpsS, go_sem, recoverD, hu, Tryd.ntmps24, bodyPostS, results, Tryd.results24]
  cases c₀
  simp_all
set_option maxRecDepth 100000 in
set_option maxHeartbeats 8000000 in
theorem Seen_panicking (u : TypeId) (pv : Value) (w : World) :
    CallsD Tryd.prog 30 #[] (.panicking [{ v := .iface u pv, recovered := false }]) w fun e u' w' => e = .returned (.tuple #[]) ∧ u' = .panicking [{ v := .iface u pv, recovered := true }] ∧ w' = w := by
  refine callsD_of_wpS Tryd.func30 rfl fun c₀ cs hu => ?_
  apply wpS_region
  simp [wpOpsS, go_sem, recoverD, hu, Tryd.ntmps30, bodyPostS, results, Tryd.results30]
set_option maxRecDepth 100000 in
set_option maxHeartbeats 8000000 in
theorem Seen_idle (w : World) :
    CallsD Tryd.prog 30 #[] .returning w fun e u' w' => e = .returned (.tuple #[]) ∧ u' = .returning ∧ w' = w := by
  refine callsD_of_wpS Tryd.func30 rfl fun c₀ cs hu => ?_
  apply wpS_region
  simp [wpOpsS, go_sem, recoverD, hu, Tryd.ntmps30, bodyPostS, results, Tryd.results30]
  cases c₀
  simp_all
set_option maxRecDepth 100000 in
set_option maxHeartbeats 8000000 in
theorem Lets_panicking (u : TypeId) (pv : Value) (w : World) :
    CallsD Tryd.prog 33 #[] (.panicking [{ v := .iface u pv, recovered := false }]) w fun e u' w' => e = .returned (.tuple #[]) ∧ u' = .panicking [{ v := .iface u pv, recovered := true }] ∧ w' = w := by
  refine callsD_of_wpS Tryd.func33 rfl fun c₀ cs hu => ?_
  apply wpS_region
  simp [wpOpsS, go_sem, recoverD, hu, Tryd.ntmps33, bodyPostS, results, Tryd.results33]
set_option maxRecDepth 100000 in
set_option maxHeartbeats 8000000 in
theorem Lets_idle (w : World) :
    CallsD Tryd.prog 33 #[] .returning w fun e u' w' => e = .returned (.tuple #[]) ∧ u' = .returning ∧ w' = w := by
  refine callsD_of_wpS Tryd.func33 rfl fun c₀ cs hu => ?_
  apply wpS_region
  simp [wpOpsS, go_sem, recoverD, hu, Tryd.ntmps33, bodyPostS, results, Tryd.results33]
  cases c₀
  simp_all
set_option maxRecDepth 100000 in
set_option maxHeartbeats 8000000 in
theorem impl_RulesOf (a : Option Addr) (cap : Nat) (L : List En.Rw) (t : ByteArray) (eu : Addr) (w : World) (h : En.Rd w a L) (hl : L.length ≤ 9223372036854775806) (hs : En.shortR L) (ht : t.size ≤ 1048576) (hu : Se.At w 0 eu) :
    Calls Tryd.prog 9 #[.slice a L.length cap, .string t] w fun e w' => ∃ v, e = .returned (.tuple #[v, .bool (rulR L t).isSome]) ∧ Ru.Own w' w.heap.size v ((rulR L t).getD []) ∧ Below w.heap.size w w' := by
  have hmf : ∀ (fn : Fn) (first cap : Array Value) (w : World), (Instr.makeFunc fn first cap).run Tryd.prog w = .ok (.func fn first cap) w := fun _ _ _ _ => rfl
  have CI := hidIt (impl_rulesIn a cap L t eu w h hl hs ht hu)
  generalize rulR L t = r at CI ⊢
  clear h hs hu
  generalize L.length = m at *
  have DI := hidIt (fun W => RulesOf_idle W)
  have DP := hidIt (fun u pv W => RulesOf_panicking u pv W)
  go_enter_defers Tryd.func9, Tryd.ntmps9
  go_wp2_with (fail)
  refine CI.out.mono ?_
  intro e w1 hz
  obtain ⟨k1, hr⟩ := hz
  have HB1 := hidIt k1
  clear k1
  cases r with
  | some R =>
    obtain ⟨v, rfl, o⟩ := hr
    obtain ⟨z1, z2, ez, _⟩ := o.form
    have HO := hidIt o
    clear o
    subst ez
    go_wp2_with (fail)
    refine leaves_cons (f := 24) (args := #[]) (by simp) (by simp [go_sem]) ?_
    refine (DI.out _).mono ?_
    rintro e u' w'' ⟨rfl, rfl, rfl⟩
    simp [Leaves, settle, results, Tryd.results9, go_sem]
    exact ⟨HO.out, HB1.out⟩
  | none =>
    obtain ⟨u, pv, rfl⟩ := hr
    go_wp2_with (fail)
    refine leaves_cons (f := 24) (args := #[]) (by simp) (by simp [go_sem]) ?_
    refine (DP.out _ _ _).mono ?_
    rintro e u' w'' ⟨rfl, rfl, rfl⟩
    simp [Leaves, settle, results, Tryd.results9, go_sem]
    exact ⟨Ru.Own.ofNil _ _, HB1.out⟩
set_option maxRecDepth 100000 in
set_option maxHeartbeats 8000000 in
theorem impl_Lets (a : Option Addr) (cap : Nat) (L : List En.Rw) (t k : ByteArray) (wr : Bool) (eu : Addr) (w : World) (h : En.Rd w a L) (hl : L.length ≤ 9223372036854775806) (hs : En.shortR L) (ht : t.size ≤ 1048576) (hk : k.size ≤ 1048576) (hu : Se.At w 0 eu) :
    Calls Tryd.prog 19 #[.slice a L.length cap, .string t, .string k, .bool wr] w fun e w' => e = .returned (.bool (letsR L t k wr)) ∧ Below w.heap.size w w' := by
  have hmf : ∀ (fn : Fn) (first cap : Array Value) (w : World), (Instr.makeFunc fn first cap).run Tryd.prog w = .ok (.func fn first cap) w := fun _ _ _ _ => rfl
  have CI := hidIt (impl_rulesIn a cap L t eu w h hl hs ht hu)
  have DI := hidIt (fun W => Lets_idle W)
  have DP := hidIt (fun u pv W => Lets_panicking u pv W)
  cases hr : rulR L t with
  | none =>
    rw [hr] at CI
    rw [letsR_none hr]
    clear h hs hu hr
    generalize L.length = m at *
    go_enter_defers Tryd.func19, Tryd.ntmps19
    go_wp2_with (fail)
    refine CI.out.mono ?_
    intro e w1 hz
    obtain ⟨k1, u, pv, rfl⟩ := hz
    have HB1 := hidIt k1
    clear k1
    go_wp2_with (fail)
    refine leaves_cons (f := 33) (args := #[]) (by simp) (by simp [go_sem]) ?_
    refine (DP.out _ _ _).mono ?_
    rintro e u' w'' ⟨rfl, rfl, rfl⟩
    simp [Leaves, settle, results, Tryd.results19, go_sem]
    exact HB1.out
  | some R =>
    rw [hr] at CI
    rw [letsR_some hr]
    have hok := (rul_ok hr).2
    have hlen := Ru.okR_len hok
    have CM := hidIt (fun b c W (r : Ru.Rd W b R) => Ru.impl_May b c R k wr W r (by omega) (okR_short hok) (by omega))
    generalize Ru.mayR R (Ru.bs k) wr = res at CM ⊢
    clear h hs hu hr hok
    generalize hn : R.length = n at *
    have HN := hidIt hn
    clear hn
    generalize L.length = m at *
    go_enter_defers Tryd.func19, Tryd.ntmps19
    go_wp2_with (fail)
    refine CI.out.mono ?_
    intro e w1 hz
    obtain ⟨kk, v, rfl, o⟩ := hz
    obtain ⟨z1, z2, ez, _, _, r1⟩ := o.formN HN.out
    have HR := hidIt r1
    have HK := hidIt kk
    clear o kk r1
    subst ez
    go_wp2_with (fail)
    refine (CM.out _ _ _ HR.out).mono ?_
    rintro e w2 ⟨rfl, kk⟩
    replace HK := hidIt (HK.out.trans (kk.mono HK.out.size))
    clear kk
    go_wp2_with (fail)
    refine leaves_cons (f := 33) (args := #[]) (by simp) (by simp [go_sem]) ?_
    refine (DI.out _).mono ?_
    rintro e u' w'' ⟨rfl, rfl, rfl⟩
    simp [Leaves, settle, results, Tryd.results19, go_sem]
    exact HK.out
/-- What is said of seenIn: what is seen, or it gives up by a panic. -/
def SiP (r : Option (List En.Rw)) (w : World) (e : Ending) (w' : World) : Prop := Below w.heap.size w w' ∧ match r with
  | some S => ∃ v, e = .returned v ∧ En.Own w' w.heap.size v S
  | none => ∃ u pv, e = .panicked [{ v := .iface u pv, recovered := false }]
theorem SiP.yes {S : List En.Rw} {w w' : World} {e : Ending} {v : Value} (h : e = .returned v) (o : En.Own w' w.heap.size v S) (k : Below w.heap.size w w') : SiP (some S) w e w' := ⟨k, v, h, o⟩
theorem SiP.no {w w' : World} {e : Ending} {u : TypeId} {pv : Value} (h : e = .panicked [{ v := .iface u pv, recovered := false }]) (k : Below w.heap.size w w') : SiP none w e w' := ⟨k, u, pv, h⟩
/-- A row of Rules and a row of Entries lie apart: their blocks bear other types. -/
theorem apartE {w : World} {b b' : Nat} {u v : Value} {W : List Ru.Rw} {M : List En.Rw} (h : Ru.Own w b u W) (g : En.Own w b' v M) : ∀ k, u.ownBlock = some k → v.ownBlock ≠ some k := by
  intro k hk hv
  rcases h.2 with ⟨e, _⟩ | ⟨g1, c1, cur1, e1, _, hg1, _⟩
  · subst e; cases hk
  rcases g.2 with ⟨e, _⟩ | ⟨g2, c2, cur2, e2, _, hg2, _⟩
  · subst e; cases hv
  subst e1 e2
  have h1 : g1 = k := by simpa [Value.ownBlock] using hk
  have h2 : g2 = k := by simpa [Value.ownBlock] using hv
  subst h1 h2
  rw [hg1] at hg2
  simp at hg2
theorem rules_grown {w w' : World} {b b' : Nat} {u v : Value} {W : List Ru.Rw} {M : List En.Rw} (h : Ru.Own w b u W) (g : En.Own w b' v M) (k : w.grownBy w' v.ownBlock) : Ru.Own w' b u W := by
  refine World.ownsRow.kept (row := v.ownBlock) h k ?_
  cases hu : u.ownBlock with
  | none => exact .inl rfl
  | some k => exact .inr (fun e => apartE h g k hu e.symm)
set_option maxRecDepth 100000 in
set_option maxHeartbeats 8000000 in
theorem impl_seenIn (a : Option Addr) (cap : Nat) (L : List En.Rw) (t : ByteArray) (eu : Addr) (w : World) (h : En.Rd w a L) (hl : L.length ≤ 9223372036854775806) (hs : En.shortR L) (ht : t.size ≤ 1048576) (hu : Se.At w 0 eu) :
    Calls Tryd.prog 31 #[.slice a L.length cap, .string t] w fun e w' => SiP ((rulR L t).map (seenL L)) w e w' := by
  obtain ⟨i0, hi0, hz0, hz1, hz2⟩ := info_parts En.infoRw
  have CR := hidIt (impl_rulesIn a cap L t eu w h hl hs ht hu)
  have HR := hidIt h
  cases hr : rulR L t with
  | none =>
    rw [hr] at CR
    rw [Option.map_none]
    clear h hs hu hr
    generalize L.length = m at *
    go_enter Tryd.func31, Tryd.ntmps31
    go_wp2_with (fail)
    refine CR.out.mono ?_
    intro e w1 hz
    obtain ⟨k1, u, pv, rfl⟩ := hz
    have HB1 := hidIt k1
    clear k1
    go_wp2_with (fail)
    exact ⟨rfl, SiP.no rfl HB1.out⟩
  | some R =>
    rw [hr] at CR
    rw [Option.map_some]
    have hok := (rul_ok hr).1
    have hokR := (rul_ok hr).2
    have hl80 : L.length ≤ 80 := by have := Bk.ok_len hok; rwa [List.length_map] at this
    have hlR := Ru.okR_len hokR
    have HKey : Hid (∀ i, i < L.length → (En.rat L i).1.size ≤ 40) := hidIt (fun i hi => by
      have hm : En.toE (En.rat L i) ∈ En.toB L := List.mem_map.2 ⟨_, En.rat_mem hi, rfl⟩
      have := Bk.ok_all hok hm
      have h40 : (En.toE (En.rat L i)).key.length ≤ 40 := by simp only [Bk.okE, Bool.and_eq_true, decide_eq_true_eq] at this; omega
      have e1 : (En.toE (En.rat L i)).key.length = (En.rat L i).1.size := En.bs_length _
      omega)
    have CN := hidIt (fun b cb xk xv xt xn xg W (r : Ru.Rd W b R) (hk : xk.size ≤ 40) => impl_isSeen xk xv xt xn xg R b cb W r hokR hk)
    have hST := hidIt (fun i hi => seen_take L R (i := i) hi)
    have hAll := hidIt (show seenL L R = seenL (L.take L.length) R by rw [List.take_length])
    have hLen := hidIt (fun i => Nat.le_trans (seenL_length (L.take i) R) (List.length_take_le' i L))
    clear h hs hr hok hokR hu
    generalize hn : L.length = n at *
    have HN := hidIt hn
    clear hn
    generalize hnr : R.length = nR at *
    have HNR := hidIt hnr
    clear hnr
    go_enter Tryd.func31, Tryd.ntmps31
    go_wp2_with (fail)
    refine CR.out.mono ?_
    intro e w1 hz
    obtain ⟨kk, v, rfl, o⟩ := hz
    obtain ⟨b, cb, ez, _, _, r1⟩ := o.formN HNR.out
    have HK := hidIt (kk.alloc kk.size (.cells #[] 41))
    have HO1 := hidIt ((En.Own.new w1).mono (b' := w.heap.size) kk.size)
    subst ez
    have HQ := hidIt (o.alloc (.cells #[] 41))
    have HG := hidIt (fun W bb (o : Ru.Own W bb (.slice b nR cb) R) => show Ru.Rd W b R by obtain ⟨a', c', e, _, _, r, _⟩ := o.form; simp only [Value.slice.injEq] at e; rw [e.1]; exact r)
    clear o kk r1 CR
    go_wp2_with (fail)
    go_loopw [6, 15] (fun v y wx => ∃ i : Nat, y = .int .i64 i ∧ i ≤ n ∧ Hid (En.Own wx w.heap.size v (seenL (L.take i) R)) ∧ Hid (Below w.heap.size w wx) ∧ Hid (∃ bb, Ru.Own wx bb (.slice b nR cb) R)) (fun _ y _ => (n - intOf y).toNat)
    case atStart => exact ⟨0, rfl, by omega, by first | exact HO1 | exact hidIt (by simpa [seenL] using HO1.out), HK, hidIt ⟨_, HQ.out⟩⟩
    case round =>
      obtain ⟨i, rfl, hi, HO2, HB, HQe⟩ := hrel
      obtain ⟨bb, hbb⟩ := HQe.out
      have HQ2 := hidIt hbb
      clear hbb HQe
      by_cases hin : i < n
      · have hin' : (i : Int) < (n : Int) := by omega
        have HRx := hidIt (HR.out.kept HB.out)
        obtain ⟨ab, off, ea, c0, c1, c2, c3, c4⟩ := HRx.out.all (i := i) (by rw [HN.out]; exact hin)
        subst ea
        have hk40 := HKey.out i hin
        have HS := hidIt (hST.out i hin)
        have CNx := hidIt (fun xk xv xt xn xg (e : En.rat L i = (xk, xv, xt, xn, xg)) W r hk => (show seeB R (xk, xv, xt, xn, xg) = seeB R (En.rat L i) by rw [e]) ▸ CN.out b cb xk xv xt xn xg W r hk)
        generalize hsee : seeB R (En.rat L i) = my at CNx HS
        clear hsee
        generalize En.rat L i = x at c0 c1 c2 c3 c4 HS hk40 CNx
        obtain ⟨xk, xv, xt, xn, xg⟩ := x
        simp only at c0 c1 c2 c3 c4 HS hk40
        have CNk := hidIt (fun W r => CNx.out xk xv xt xn xg rfl W r hk40)
        clear CNx
        have BX := hidIt (Bo.Box.new wr #[.string xk, .string xv, .int .i64 xt, .int .i64 xn, .bool xg] 41)
        have HBz := hidIt (HB.out.alloc HB.out.size (.cells #[.string xk, .string xv, .int .i64 xt, .int .i64 xn, .bool xg] 41))
        have HOz := hidIt (HO2.out.alloc (.cells #[.string xk, .string xv, .int .i64 xt, .int .i64 xn, .bool xg] 41))
        have HQz := hidIt (HQ2.out.alloc (.cells #[.string xk, .string xv, .int .i64 xt, .int .i64 xn, .bool xg] 41))
        have hlt : wr.heap.size < (wr.alloc (.cells #[.string xk, .string xv, .int .i64 xt, .int .i64 xn, .bool xg] 41)).heap.size := by simp
        have d0 := BX.out.c 0 rfl
        have d1 := BX.out.c 1 rfl
        have d2 := BX.out.c 2 rfl
        have d3 := BX.out.c 3 rfl
        have d4 := BX.out.c 4 rfl
        go_wp2_with (fail)
        generalize wr.alloc (.cells #[.string xk, .string xv, .int .i64 xt, .int .i64 xn, .bool xg] 41) = wz at BX HBz HOz HQz hlt d0 d1 d2 d3 d4 ⊢
        refine (CNk.out _ (HG.out _ _ HQz.out)).mono ?_
        rintro e w4 ⟨rfl, kk⟩
        have HB4 := hidIt (HBz.out.trans (kk.mono HBz.out.size))
        have HO4 := hidIt (HOz.out.kept kk)
        have HQ4 := hidIt (HQz.out.kept kk)
        have BX4 := hidIt (BX.out.kept kk)
        clear kk c0 c1 c2 c3 c4 HRx hlt HO2 HB HOz HBz HQz BX d0 d1 d2 d3 d4
        have f0 := BX4.out.c 0 rfl
        have f1 := BX4.out.c 1 rfl
        have f2 := BX4.out.c 2 rfl
        have f3 := BX4.out.c 3 rfl
        have f4 := BX4.out.c 4 rfl
        cases my with
        | false =>
          go_wp2_with (fail)
          refine ⟨⟨i + 1, by simp, by omega, hidIt ?_, HB4, hidIt ⟨_, HQ4.out⟩⟩, by simp [intOf]; omega⟩
          rw [HS.out]
          exact HO4.out
        | true =>
          have hM := hLen.out i
          go_wp2_with (first | (at_builtin; refine wpList_append_own _ rfl _ _ 27 rfl w.heap.size 41 i0 (.agg #[.string ByteArray.empty, .string ByteArray.empty, .int .i64 0, .int .i64 0, .bool false]) 5 56 Tryd.underlying27 hi0 hz0 hz1 hz2 rfl (by decide) _ _ _ rfl (World.ownsRow.alloc HO4.out _) ⟨w4.heap.size, 0, none⟩ 1 1 [.string xk, .string xv, .int .i64 xt, .int .i64 xn, .bool xg] rfl rfl (En.fresh w4 (xk, xv, xt, xn, xg) 41) (En.rcells_one [(xk, xv, xt, xn, xg)]) ?c3 ?c4 ?c5 ?_) | fail)
          case c3 => unfold maxLen; omega
          case c4 => omega
          case c5 => have := HB4.out.size; simp; omega
          intro v' w5 hown hgrow _
          have kq := En.grown_below (HO4.out.alloc _) hgrow (Nat.le_refl _) (by have := HB4.out.size; simp; omega)
          have HB5 := hidIt ((HB4.out.alloc HB4.out.size _).trans kq)
          have HO5 := hidIt (En.Own.more (M := [(xk, xv, xt, xn, xg)]) hown)
          have HQ5 := hidIt (rules_grown (HQ4.out.alloc _) (HO4.out.alloc _) hgrow)
          clear hown hgrow kq
          go_wp2_with (fail)
          refine ⟨⟨i + 1, by simp, by omega, hidIt ?_, HB5, hidIt ⟨_, HQ5.out⟩⟩, by simp [intOf]; omega⟩
          rw [HS.out]
          exact HO5.out
      · have hin' : ¬ (i : Int) < (n : Int) := by omega
        obtain rfl : i = n := by omega
        go_wp2_with (fail)
        go_ret
        rw [hAll.out]
        exact SiP.yes rfl HO2.out HB.out
theorem seenR_is (L : List En.Rw) (t : ByteArray) : seenR L t = ((rulR L t).map (seenL L)).getD [] := by
  unfold seenR
  cases rulR L t <;> rfl
set_option maxRecDepth 100000 in
set_option maxHeartbeats 8000000 in
theorem impl_Seen (a : Option Addr) (cap : Nat) (L : List En.Rw) (t : ByteArray) (eu : Addr) (w : World) (h : En.Rd w a L) (hl : L.length ≤ 9223372036854775806) (hs : En.shortR L) (ht : t.size ≤ 1048576) (hu : Se.At w 0 eu) :
    Calls Tryd.prog 16 #[.slice a L.length cap, .string t] w fun e w' => ∃ v, e = .returned v ∧ En.Own w' w.heap.size v (seenR L t) ∧ Below w.heap.size w w' := by
  have hmf : ∀ (fn : Fn) (first cap : Array Value) (w : World), (Instr.makeFunc fn first cap).run Tryd.prog w = .ok (.func fn first cap) w := fun _ _ _ _ => rfl
  have CI := hidIt (impl_seenIn a cap L t eu w h hl hs ht hu)
  rw [seenR_is]
  generalize (rulR L t).map (seenL L) = r at CI ⊢
  clear h hs hu
  generalize L.length = m at *
  have DI := hidIt (fun W => Seen_idle W)
  have DP := hidIt (fun u pv W => Seen_panicking u pv W)
  go_enter_defers Tryd.func16, Tryd.ntmps16
  go_wp2_with (fail)
  refine CI.out.mono ?_
  intro e w1 hz
  obtain ⟨k1, hr⟩ := hz
  have HB1 := hidIt k1
  clear k1
  cases r with
  | some R =>
    obtain ⟨v, rfl, o⟩ := hr
    obtain ⟨z1, z2, ez, _⟩ := o.form
    have HO := hidIt o
    clear o
    subst ez
    go_wp2_with (fail)
    refine leaves_cons (f := 30) (args := #[]) (by simp) (by simp [go_sem]) ?_
    refine (DI.out _).mono ?_
    rintro e u' w'' ⟨rfl, rfl, rfl⟩
    simp [Leaves, settle, results, Tryd.results16, go_sem]
    exact ⟨HO.out, HB1.out⟩
  | none =>
    obtain ⟨u, pv, rfl⟩ := hr
    go_wp2_with (fail)
    refine leaves_cons (f := 30) (args := #[]) (by simp) (by simp [go_sem]) ?_
    refine (DP.out _ _ _).mono ?_
    rintro e u' w'' ⟨rfl, rfl, rfl⟩
    simp [Leaves, settle, results, Tryd.results16, go_sem]
    exact ⟨En.Own.ofNil _ _, HB1.out⟩
end Go.Proofs.YtnmmmhkafdhfcaaDoor.Vw
