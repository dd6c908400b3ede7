/-
  RulesOf, Seen and Lets of the specification.
-/
import Derived.Test.YtnmmmhkafdhfcaaDoorVwP
namespace Go.Proofs.YtnmmmhkafdhfcaaDoor.Vw
open Go.ChangeShapes Go.WideShapes Go.ChangeAt Go.RowKit
open Go.Proofs.YtnmmmhkafdhfcaaDoor.Rc (BelowBy BelowBy.one wp_region_below calls_below calls_same)
set_option linter.unusedVariables false
set_option maxRecDepth 100000 in
set_option maxHeartbeats 8000000 in
theorem spec_l16Token (x : ByteArray) (w : World) (hs : x.size ≤ 9223372036854775806) :
    Calls Tryd.prog 37 #[.string x] w fun e w' => e = .returned (.bool (tokB x)) ∧ w' = w := by
  have HX1 : Hid (∀ j, (hj : j < x.size) → letB x[j] = false → tokB x = false) := hidIt (fun j hj g => tok_bad hj g)
  have HX2 : Hid ((∀ j, (hj : j < x.size) → letB x[j] = true) → tokB x = (decide (1 ≤ (x.size : Int)) && decide ((x.size : Int) ≤ 12))) := hidIt tok_all
  generalize tokB x = r at HX1 HX2 ⊢
  go_enter Tryd.func37, Tryd.ntmps37
  go_wp2_with (fail)
  go_loopw [3] (fun y wx => ∃ q : Nat, y = .int .i64 q ∧ q ≤ x.size ∧ Hid (∀ j, (hj : j < x.size) → j < q → letB x[j] = true) ∧ wx = w) (fun y _ => (x.size - intOf y).toNat)
  case atStart => exact ⟨0, rfl, by omega, hidIt (fun j _ hj => by omega), rfl⟩
  case round =>
    obtain ⟨q, rfl, hq, HG, rfl⟩ := hrel
    by_cases hqn : q < x.size
    · have hqn' : (q : Int) < (x.size : Int) := by omega
      obtain ⟨n, hb⟩ : ∃ n, (x[q]).toNat = n := ⟨_, rfl⟩
      rcases let_arms n with a1 | a2 | a3
      · have q1 : decide (((x[q]).toNat : Int) < 97) = false := by rw [hb]; simp; omega
        have q2 : decide ((122 : Int) < ((x[q]).toNat : Int)) = false := by rw [hb]; simp; omega
        have HOK : Hid (letB x[q] = true) := hidIt (letB_yes (by omega) (by omega))
        clear hb
        go_wp2_with (fail)
        refine ⟨⟨q + 1, by simp, by omega, hidIt (fun j hj hj' => ?_), trivial⟩, by simp [intOf]; omega⟩
        rcases Nat.lt_or_ge j q with h' | h'
        · exact HG.out j hj h'
        · have : j = q := by omega
          subst this
          exact HOK.out
      · have q1 : decide (((x[q]).toNat : Int) < 97) = true := by rw [hb]; simp; omega
        have er := HX1.out q hqn (letB_no (Or.inl (by omega)))
        clear hb
        subst er
        go_wp2_with (fail)
        go_ret
        exact ⟨rfl, rfl⟩
      · have q1 : decide (((x[q]).toNat : Int) < 97) = false := by rw [hb]; simp; omega
        have q2 : decide ((122 : Int) < ((x[q]).toNat : Int)) = true := by rw [hb]; simp; omega
        have er := HX1.out q hqn (letB_no (Or.inr (by omega)))
        clear hb
        subst er
        go_wp2_with (fail)
        go_ret
        exact ⟨rfl, rfl⟩
    · have hqn' : ¬ (q : Int) < (x.size : Int) := by omega
      have er := HX2.out (fun j hj => HG.out j hj (by omega))
      by_cases h1 : 1 ≤ (x.size : Int)
      · have e1 : decide (1 ≤ (x.size : Int)) = true := decide_eq_true h1
        rw [e1, Bool.true_and] at er
        subst er
        go_wp2_with (fail)
        go_ret
        exact ⟨rfl, rfl⟩
      · have e1 : decide (1 ≤ (x.size : Int)) = false := decide_eq_false h1
        rw [e1, Bool.false_and] at er
        subst er
        go_wp2_with (fail)
        go_ret
        exact ⟨rfl, rfl⟩
set_option maxRecDepth 100000 in
set_option maxHeartbeats 8000000 in
theorem spec_l16Rules (a : Option Addr) (cap : Nat) (L : List En.Rw) (t : ByteArray) (w : World) (h : En.Rd w a L) (hok : Bk.okBk (En.toB L) = true) (ht : t.size ≤ 1048576) :
    Calls Tryd.prog 22 #[.slice a L.length cap, .string t] w fun e w' => ∃ v, e = .returned (.tuple #[v, .bool (rulR L t).isSome]) ∧ Ru.Own w' w.heap.size v ((rulR L t).getD []) ∧ Below w.heap.size w w' := by
  have hl : L.length ≤ 80 := by have := Bk.ok_len hok; rwa [List.length_map] at this
  have CV : Hid (Calls Tryd.prog 36 #[.slice a L.length cap, .string (⟨#[97, 99, 108, 47]⟩ ++ t)] w fun e w' => e = .returned (.tuple #[.string (valT L t), .bool (valV L t).2]) ∧ (valT L t).size ≤ 1048576 ∧ w' = w) := hidIt ((En.spec_l11Value a cap L (aclK t) w h (by omega) hok).mono (fun e w' ⟨u, he, hu, hx, hw⟩ => by
    have eu := valT_is hu
    subst eu
    refine ⟨he, ?_, hw⟩
    rcases hx with e0 | ⟨i, hi, e0⟩
    · rw [e0]; decide
    · rw [e0]
      have hm : En.toE (En.rat L i) ∈ En.toB L := List.mem_map.2 ⟨_, En.rat_mem hi, rfl⟩
      have := Bk.ok_all hok hm
      have h40 : (En.toE (En.rat L i)).value.length ≤ 40 := by simp only [Bk.okE, Bool.and_eq_true, decide_eq_true_eq] at this; omega
      have e1 : (En.toE (En.rat L i)).value.length = (En.rat L i).2.1.size := En.bs_length _
      omega))
  have CT := hidIt (fun W => spec_l16Token t W (by omega))
  have N2 : Hid (tokB t = false → rulR L t = none) := hidIt rul_no2
  have N3 : Hid ((valV L t).2 = false → rulR L t = none) := hidIt rul_no3
  have N4 : Hid (tokB t = true → (valV L t).2 = true → rulR L t = Ru.readR (valT L t)) := hidIt (fun k g => rul_is hok k g)
  generalize rulR L t = r at N2 N3 N4 ⊢
  generalize valT L t = u at CV N4
  generalize (valV L t).2 = g at CV N3 N4
  generalize tokB t = k at CT N2 N4
  clear h hok
  generalize L.length = m at *
  have HN : ∀ w1 : World, Ru.Own (w1.alloc (.cells #[] 46)) w1.heap.size (.slice (some ⟨w1.heap.size, 0, none⟩) 0 0) [] := fun w1 => Ru.Own.new w1
  go_enter Tryd.func22, Tryd.ntmps22
  go_wp2_with (fail)
  refine CV.out.mono ?_
  rintro e w1 ⟨rfl, hu, rfl⟩
  cases k with
  | false =>
    have er := N2.out rfl
    subst er
    go_wp2_with (fail)
    refine (CT.out _).mono ?_
    rintro e w2 ⟨rfl, rfl⟩
    go_wp2_with (fail)
    go_ret2
    exact ⟨_, rfl, HN _, (Below.refl _ _).alloc (Nat.le_refl _) _⟩
  | true =>
    cases g with
    | false =>
      have er := N3.out rfl
      subst er
      go_wp2_with (fail)
      refine (CT.out _).mono ?_
      rintro e w2 ⟨rfl, rfl⟩
      go_wp2_with (fail)
      go_ret2
      exact ⟨_, rfl, HN _, (Below.refl _ _).alloc (Nat.le_refl _) _⟩
    | true =>
      have er := N4.out rfl rfl
      have CR := hidIt (fun W => Ru.spec_ReadRules u W (by omega))
      rw [← er] at CR
      clear er N2 N3 N4
      go_wp2_with (fail)
      refine (CT.out _).mono ?_
      rintro e w2 ⟨rfl, rfl⟩
      go_wp2_with (fail)
      refine (CR.out _).mono ?_
      rintro e w3 ⟨v, rfl, o, kk⟩
      obtain ⟨z1, z2, ez, _⟩ := o.form
      have HO := hidIt o
      have HK := hidIt kk
      clear o kk
      subst ez
      go_wp2_with (fail)
      go_ret2
      exact ⟨_, rfl, HO.out, HK.out⟩
set_option maxRecDepth 100000 in
set_option maxHeartbeats 8000000 in
theorem spec_RulesOf (a : Option Addr) (cap : Nat) (L : List En.Rw) (t : ByteArray) (w : World) (h : En.Rd w a L) (hl : L.length ≤ 9223372036854775806) (hs : En.shortR L) (ht : t.size ≤ 1048576) :
    Calls Tryd.prog 7 #[.slice a L.length cap, .string t] w fun e w' => ∃ v, e = .returned (.tuple #[v, .bool (rulR L t).isSome]) ∧ Ru.Own w' w.heap.size v ((rulR L t).getD []) ∧ Below w.heap.size w w' := by
  have CB := hidIt (En.spec_BookOk a cap L w h (by omega) hs)
  have HR := hidIt h
  cases hok : Bk.okBk (En.toB L) with
  | false =>
    rw [hok] at CB
    rw [rul_no1 hok]
    clear h hok hs
    generalize L.length = m at *
    go_enter Tryd.func7, Tryd.ntmps7
    go_wp2_with (fail)
    refine CB.out.mono ?_
    rintro e w1 ⟨rfl, k1⟩
    have HB := hidIt k1
    clear k1
    go_wp2_with (fail)
    go_ret2
    exact ⟨_, rfl, (Ru.Own.new w1).mono HB.out.size, HB.out.alloc HB.out.size _⟩
  | true =>
    rw [hok] at CB
    have CV := hidIt (fun W (r : En.Rd W a L) => spec_l16Rules a cap L t W r hok ht)
    generalize rulR L t = r at CV ⊢
    clear h hok hs
    generalize L.length = m at *
    go_enter Tryd.func7, Tryd.ntmps7
    go_wp2_with (fail)
    refine CB.out.mono ?_
    rintro e w1 ⟨rfl, k1⟩
    have HB := hidIt k1
    clear k1
    go_wp2_with (fail)
    refine (CV.out _ (HR.out.kept HB.out)).mono ?_
    rintro e w3 ⟨v, rfl, o, kk⟩
    obtain ⟨z1, z2, ez, _⟩ := o.form
    have HO := hidIt (o.mono HB.out.size)
    have HK := hidIt (HB.out.trans (kk.mono HB.out.size))
    clear o kk
    subst ez
    go_wp2_with (fail)
    go_ret2
    exact ⟨_, rfl, HO.out, HK.out⟩
set_option maxRecDepth 100000 in
set_option maxHeartbeats 8000000 in
theorem spec_Lets (a : Option Addr) (cap : Nat) (L : List En.Rw) (t k : ByteArray) (wr : Bool) (w : World) (h : En.Rd w a L) (hl : L.length ≤ 9223372036854775806) (hs : En.shortR L) (ht : t.size ≤ 1048576) (hk : k.size ≤ 1048576) :
    Calls Tryd.prog 18 #[.slice a L.length cap, .string t, .string k, .bool wr] w fun e w' => e = .returned (.bool (letsR L t k wr)) ∧ Below w.heap.size w w' := by
  have CR := hidIt (spec_RulesOf a cap L t w h hl hs ht)
  cases hr : rulR L t with
  | none =>
    rw [hr] at CR
    rw [letsR_none hr]
    clear h hs hr
    generalize L.length = m at *
    go_enter Tryd.func18, Tryd.ntmps18
    go_wp2_with (fail)
    refine CR.out.mono ?_
    rintro e w1 ⟨v, rfl, o, kk⟩
    obtain ⟨z1, z2, ez, _⟩ := o.form
    have HK := hidIt kk
    clear o kk
    subst ez
    go_wp2_with (fail)
    go_ret
    exact ⟨rfl, HK.out⟩
  | some R =>
    rw [hr] at CR
    rw [letsR_some hr]
    have hok := (rul_ok hr).2
    have hlen := Ru.okR_len hok
    have CM := hidIt (fun b c W (r : Ru.Rd W b R) => Ru.spec_May b c R k wr W r (by omega) (okR_short hok) (by omega))
    simp only [Option.getD_some, Option.isSome_some] at CR
    generalize Ru.mayR R (Ru.bs k) wr = res at CM ⊢
    clear h hs hr hok
    generalize hn : R.length = n at *
    have HN := hidIt hn
    clear hn
    generalize L.length = m at *
    go_enter Tryd.func18, Tryd.ntmps18
    go_wp2_with (fail)
    refine CR.out.mono ?_
    rintro e w1 ⟨v, rfl, o, kk⟩
    obtain ⟨z1, z2, ez, _, _, r1⟩ := o.formN HN.out
    have HR := hidIt r1
    have HK := hidIt kk
    clear o kk r1
    subst ez
    go_wp2_with (fail)
    refine (CM.out _ _ _ HR.out).mono ?_
    rintro e w2 ⟨rfl, kk⟩
    replace HK := hidIt (HK.out.trans (kk.mono HK.out.size))
    clear kk
    go_wp2_with (fail)
    go_ret
    exact ⟨rfl, HK.out⟩
theorem svcB_short {k : ByteArray} (h : k.size < 5) : svcB k = false := by unfold svcB; rw [decide_eq_false (by omega), Bool.false_and]
theorem svcN_short {k : ByteArray} (h : k.size < 5) : svcN k = ⟨#[]⟩ := by unfold svcN; rw [decide_eq_false (by omega), Bool.false_and]; rfl
theorem svcB_other {k : ByteArray} (h : ¬ bs (k.extract 0 4) = [115, 118, 99, 47]) : svcB k = false := by unfold svcB; rw [decide_eq_false h, Bool.false_and, Bool.and_false]
theorem svcN_other {k : ByteArray} (h : ¬ bs (k.extract 0 4) = [115, 118, 99, 47]) : svcN k = ⟨#[]⟩ := by unfold svcN; rw [decide_eq_false h, Bool.and_false]; rfl
theorem svcB_is {k : ByteArray} (h : ¬ k.size < 5) (g : bs (k.extract 0 4) = [115, 118, 99, 47]) : svcB k = Nm.okB (bs (k.extract 4 k.size)) := by unfold svcB; rw [decide_eq_true (by omega), decide_eq_true g]; simp
theorem svcN_is {k : ByteArray} (h : ¬ k.size < 5) (g : bs (k.extract 0 4) = [115, 118, 99, 47]) : svcN k = k.extract 4 k.size := by unfold svcN; rw [decide_eq_true (by omega), decide_eq_true g]; rfl
set_option maxRecDepth 100000 in
set_option maxHeartbeats 8000000 in
theorem spec_l16Name (k : ByteArray) (w : World) (hk : k.size ≤ 9223372036854775807) :
    Calls Tryd.prog 44 #[.string k] w fun e w' => e = .returned (.tuple #[.string (svcN k), .bool (svcB k)]) ∧ Below w.heap.size w w' := by
  by_cases h5 : k.size < 5
  · have h5' : (k.size : Int) < 5 := by omega
    rw [svcB_short h5, svcN_short h5]
    go_enter Tryd.func44, Tryd.ntmps44
    go_wp2_with (fail)
    refine bodyPost_ret (v := .tuple #[.string ⟨#[]⟩, .bool false]) (by simp [results, Tryd.results44, go_sem]) rfl ⟨rfl, Below.refl _ _⟩
  · have h5' : ¬ (k.size : Int) < 5 := by omega
    have h4 : (4 : Int) ≤ (k.size : Int) := by omega
    have heq : ((k.extract 0 4).toList == [115, 118, 99, 47]) = decide (bs (k.extract 0 4) = [115, 118, 99, 47]) := by
      rw [Go.Lib.toList_data, Bool.eq_iff_iff, beq_iff_eq, decide_eq_true_eq]
    by_cases hp : bs (k.extract 0 4) = [115, 118, 99, 47]
    · rw [decide_eq_true hp] at heq
      have CN := hidIt (fun W => Nm.spec_NameOk (k.extract 4 k.size) W)
      rw [svcB_is h5 hp, svcN_is h5 hp]
      generalize Nm.okB (bs (k.extract 4 k.size)) = r at CN ⊢
      clear hp
      have HB0 := hidIt (Below.refl w.heap.size w)
      go_enter Tryd.func44, Tryd.ntmps44
      go_wp2_with (fail)
      haveI := BelowBy.one w
      refine wp_region_below (by kernel_rfl) (by kernel_rfl) ?_
      repeat (go_big_quiet_step (first | (go_at_call 58; refine calls_below (CN.out _))))
      refine wpQuiet_nil ?_
      intro _ hw'
      obtain ⟨pq, rfl⟩ := hw'
      have HB1 := hidIt pq.h
      generalize pq.world = w2 at HB1 ⊢
      go_wp2_with (fail)
      go_ret2
      exact ⟨rfl, HB1.out⟩
    · rw [decide_eq_false hp] at heq
      rw [svcB_other hp, svcN_other hp]
      clear hp
      go_enter Tryd.func44, Tryd.ntmps44
      go_wp2_with (fail)
      refine bodyPost_ret (v := .tuple #[.string ⟨#[]⟩, .bool false]) (by simp [results, Tryd.results44, go_sem]) rfl ⟨rfl, Below.refl _ _⟩
set_option maxRecDepth 100000 in
set_option maxHeartbeats 8000000 in
theorem spec_l16Seen (a : Option Addr) (cap : Nat) (L : List En.Rw) (b : Option Addr) (cb : Nat) (R : List Ru.Rw) (w : World) (h : En.Rd w a L) (hok : Bk.okBk (En.toB L) = true) (hR : Ru.Rd w b R) (hokR : Ru.okR R = true) :
    Calls Tryd.prog 29 #[.slice a L.length cap, .slice b R.length cb] w fun e w' => ∃ v, e = .returned v ∧ En.Own w' w.heap.size v (seenL L R) ∧ Below w.heap.size w w' := by
  obtain ⟨i0, hi0, hz0, hz1, hz2⟩ := info_parts En.infoRw
  have hl : L.length ≤ 80 := by have := Bk.ok_len hok; rwa [List.length_map] at this
  have hlR := Ru.okR_len hokR
  have HKey : Hid (∀ i, i < L.length → (En.rat L i).1.size ≤ 40) := hidIt (fun i hi => by
    have hm : En.toE (En.rat L i) ∈ En.toB L := List.mem_map.2 ⟨_, En.rat_mem hi, rfl⟩
    have := Bk.ok_all hok hm
    have h40 : (En.toE (En.rat L i)).key.length ≤ 40 := by simp only [Bk.okE, Bool.and_eq_true, decide_eq_true_eq] at this; omega
    have e1 : (En.toE (En.rat L i)).key.length = (En.rat L i).1.size := En.bs_length _
    omega)
  have CM := hidIt (fun k W (r : Ru.Rd W b R) (hk : k.size ≤ 40) => Ru.spec_May b cb R k false W r (by omega) (okR_short hokR) (by omega))
  have CN := hidIt (fun k W (hk : k.size ≤ 40) => spec_l16Name k W (by omega))
  have HR := hidIt h
  have HQ := hidIt hR
  have hST := hidIt (fun i hi => seen_take L R (i := i) hi)
  have hAll := hidIt (show seenL L R = seenL (L.take L.length) R by rw [List.take_length])
  have hLen := hidIt (fun i => Nat.le_trans (seenL_length (L.take i) R) (List.length_take_le' i L))
  have hSee : Hid (∀ x, seeB R x = (svcB x.1 && (!x.2.2.2.2 && Ru.mayR R (Ru.bs x.1) false))) := hidIt (fun x => rfl)
  clear h hR hok hokR
  generalize hn : L.length = n at *
  have HN := hidIt hn
  clear hn
  generalize R.length = nR at *
  go_enter Tryd.func29, Tryd.ntmps29
  go_wp2_with (fail)
  have HB1 := hidIt ((Below.refl _ w).alloc (Nat.le_refl _) (.cells #[] 41))
  have HO1 := hidIt (En.Own.new w)
  go_loopw [5, 6] (fun v y wx => ∃ i : Nat, y = .int .i64 i ∧ i ≤ n ∧ Hid (En.Own wx w.heap.size v (seenL (L.take i) R)) ∧ Hid (Below w.heap.size w wx)) (fun _ y _ => (n - intOf y).toNat)
  case atStart => exact ⟨0, rfl, by omega, by first | exact HO1 | exact hidIt (by simpa [seenL] using HO1.out), HB1⟩
  case round =>
    obtain ⟨i, rfl, hi, HO2, HB⟩ := hrel
    by_cases hin : i < n
    · have hin' : (i : Int) < (n : Int) := by omega
      have HRx := hidIt (HR.out.kept HB.out)
      obtain ⟨ab, off, ea, c0, c1, c2, c3, c4⟩ := HRx.out.all (i := i) (by rw [HN.out]; exact hin)
      subst ea
      have hk40 := HKey.out i hin
      have HS := hidIt (hST.out i hin)
      rw [hSee.out] at HS
      generalize En.rat L i = x at c0 c1 c2 c3 c4 HS hk40
      obtain ⟨xk, xv, xt, xn, xg⟩ := x
      simp only at c0 c1 c2 c3 c4 HS hk40
      have CNk := hidIt (fun W => CN.out xk W hk40)
      have CMk := hidIt (fun W r => CM.out xk W r hk40)
      generalize svcN xk = nm at CNk
      generalize svcB xk = s at CNk HS
      generalize Ru.mayR R (Ru.bs xk) false = my at CMk HS
      go_wp2_with (fail)
      refine (CNk.out _).mono ?_
      rintro e w1 ⟨rfl, kk⟩
      have hlt := World.block_lt_of_cell? _ _ c0
      have d0 := (kk.cell (p := ⟨ab, off + i * 5, none⟩) (by simpa using hlt)).trans c0
      have d1 := (kk.cell (p := ⟨ab, off + i * 5 + 1, none⟩) (by simpa using hlt)).trans c1
      have d2 := (kk.cell (p := ⟨ab, off + i * 5 + 2, none⟩) (by simpa using hlt)).trans c2
      have d3 := (kk.cell (p := ⟨ab, off + i * 5 + 3, none⟩) (by simpa using hlt)).trans c3
      have d4 := (kk.cell (p := ⟨ab, off + i * 5 + 4, none⟩) (by simpa using hlt)).trans c4
      have HO3 := hidIt (HO2.out.kept kk)
      have HB3 := hidIt (HB.out.trans (kk.mono HB.out.size))
      clear kk c0 c1 c2 c3 c4 HRx hlt HO2 HB
      cases s with
      | false =>
        go_wp2_with (fail)
        refine ⟨⟨i + 1, by simp, by omega, hidIt ?_, HB3⟩, by simp [intOf]; omega⟩
        rw [HS.out]
        exact HO3.out
      | true =>
        cases xg with
        | true =>
          go_wp2_with (fail)
          refine ⟨⟨i + 1, by simp, by omega, hidIt ?_, HB3⟩, by simp [intOf]; omega⟩
          rw [HS.out]
          exact HO3.out
        | false =>
          go_wp2_with (fail)
          refine (CMk.out _ (HQ.out.kept HB3.out)).mono ?_
          rintro e w2 ⟨rfl, kk⟩
          have hlt := World.block_lt_of_cell? _ _ d0
          have f0 := (kk.cell (p := ⟨ab, off + i * 5, none⟩) (by simpa using hlt)).trans d0
          have f1 := (kk.cell (p := ⟨ab, off + i * 5 + 1, none⟩) (by simpa using hlt)).trans d1
          have f2 := (kk.cell (p := ⟨ab, off + i * 5 + 2, none⟩) (by simpa using hlt)).trans d2
          have f3 := (kk.cell (p := ⟨ab, off + i * 5 + 3, none⟩) (by simpa using hlt)).trans d3
          have f4 := (kk.cell (p := ⟨ab, off + i * 5 + 4, none⟩) (by simpa using hlt)).trans d4
          have HO4 := hidIt (HO3.out.kept kk)
          have HB4 := hidIt (HB3.out.trans (kk.mono HB3.out.size))
          clear kk d0 d1 d2 d3 d4 hlt HO3 HB3
          cases my with
          | false =>
            go_wp2_with (fail)
            refine ⟨⟨i + 1, by simp, by omega, hidIt ?_, HB4⟩, by simp [intOf]; omega⟩
            rw [HS.out]
            exact HO4.out
          | true =>
            have hM := hLen.out i
            go_wp2_with (first | (at_builtin; refine wpList_append_own _ rfl _ _ 27 rfl w.heap.size 41 i0 (.agg #[.string ByteArray.empty, .string ByteArray.empty, .int .i64 0, .int .i64 0, .bool false]) 5 56 Tryd.underlying27 hi0 hz0 hz1 hz2 rfl (by decide) _ _ _ rfl (World.ownsRow.alloc HO4.out _) ⟨w2.heap.size, 0, none⟩ 1 1 [.string xk, .string xv, .int .i64 xt, .int .i64 xn, .bool false] rfl rfl (En.fresh w2 (xk, xv, xt, xn, false) 41) (En.rcells_one [(xk, xv, xt, xn, false)]) ?c3 ?c4 ?c5 ?_) | fail)
            case c3 => unfold maxLen; omega
            case c4 => omega
            case c5 => have := HB4.out.size; simp; omega
            intro v' w3 hown hgrow _
            have HB5 := hidIt ((HB4.out.alloc HB4.out.size _).trans (En.grown_below (HO4.out.alloc _) hgrow (Nat.le_refl _) (by have := HB4.out.size; simp; omega)))
            have HO5 := hidIt (En.Own.more (M := [(xk, xv, xt, xn, false)]) hown)
            clear hown hgrow
            go_wp2_with (fail)
            refine ⟨⟨i + 1, by simp, by omega, hidIt ?_, HB5⟩, by simp [intOf]; omega⟩
            rw [HS.out]
            exact HO5.out
    · have hin' : ¬ (i : Int) < (n : Int) := by omega
      obtain rfl : i = n := by omega
      go_wp2_with (fail)
      go_ret
      rw [hAll.out]
      exact ⟨_, rfl, HO2.out, HB.out⟩
set_option maxRecDepth 100000 in
set_option maxHeartbeats 8000000 in
theorem spec_Seen (a : Option Addr) (cap : Nat) (L : List En.Rw) (t : ByteArray) (w : World) (h : En.Rd w a L) (hl : L.length ≤ 9223372036854775806) (hs : En.shortR L) (ht : t.size ≤ 1048576) :
    Calls Tryd.prog 15 #[.slice a L.length cap, .string t] w fun e w' => ∃ v, e = .returned v ∧ En.Own w' w.heap.size v (seenR L t) ∧ Below w.heap.size w w' := by
  have CR := hidIt (spec_RulesOf a cap L t w h hl hs ht)
  cases hr : rulR L t with
  | none =>
    rw [hr] at CR
    rw [seenR_none hr]
    clear h hs hr
    generalize L.length = m at *
    go_enter Tryd.func15, Tryd.ntmps15
    go_wp2_with (fail)
    refine CR.out.mono ?_
    rintro e w1 ⟨v, rfl, o, kk⟩
    obtain ⟨z1, z2, ez, _⟩ := o.form
    have HK := hidIt kk
    clear o kk
    subst ez
    go_wp2_with (fail)
    go_ret
    exact ⟨_, rfl, (En.Own.new w1).mono HK.out.size, HK.out.alloc HK.out.size _⟩
  | some R =>
    rw [hr] at CR
    rw [seenR_some hr]
    have hok := rul_ok hr
    have CM := hidIt (fun W b c (r : En.Rd W a L) (rr : Ru.Rd W b R) => spec_l16Seen a cap L b c R W r hok.1 rr hok.2)
    simp only [Option.getD_some, Option.isSome_some] at CR
    generalize seenL L R = res at CM ⊢
    have HL := hidIt h
    clear h hs hr hok
    generalize hn : R.length = n at *
    have HN := hidIt hn
    clear hn
    generalize L.length = m at *
    go_enter Tryd.func15, Tryd.ntmps15
    go_wp2_with (fail)
    refine CR.out.mono ?_
    rintro e w1 ⟨v, rfl, o, kk⟩
    obtain ⟨z1, z2, ez, _, _, r1⟩ := o.formN HN.out
    have HR := hidIt r1
    have HK := hidIt kk
    clear o kk r1
    subst ez
    go_wp2_with (fail)
    refine (CM.out _ _ _ (HL.out.kept HK.out) HR.out).mono ?_
    rintro e w2 ⟨v, rfl, o, kk⟩
    have HO := hidIt (o.mono HK.out.size)
    replace HK := hidIt (HK.out.trans (kk.mono HK.out.size))
    clear kk o
    go_wp2_with (fail)
    go_ret
    exact ⟨_, rfl, HO.out, HK.out⟩
end Go.Proofs.YtnmmmhkafdhfcaaDoor.Vw
