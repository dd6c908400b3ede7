/-
  FnExactTrusted answers true at every two numbers, every Deed, every Seal and every text and leaves them as they were: Trusted of the program answers as the specification's. No condition but that the library's table of powers of ten and its handle of the type error, and the program's four errors, lie as their text lays them.
-/
import Derived.Test.YtmdlgogpgedgnaaGreatDoorRows
import Derived.Test.YtmdlgogpgedgnaaGreatDoorBun4
import Derived.WalkKit
import Derived.ProofKit
import Derived.OpenShut
import Derived.ShutString
import Derived.ChangeOld
import Derived.Below
import Derived.Lib.SmallJoins
import Derived.Test.YtmdlgogpgedgnaaGreatDoorDoorMet
import Derived.Test.YtmdlgogpgedgnaaGreatDoorTie
import Derived.Test.YtmdlgogpgedgnaaGreatDoorCards
import Derived.LaidMore
import Derived.Stop.Joined
import Derived.SevenTiedAt
import Derived.Test.YtmdlgogpgedgnaaGreatDoorBun3
import Derived.Test.YtmdlgogpgedgnaaGreatDoorBun5
import Derived.Deep.RegionHeld3
namespace Go.Proofs.YtmdlgogpgedgnaaGreatDoor.fnExactTrusted
open Go.ChangeShapes Go.WideShapes Go.ChangeAt Go.RowKit Go.Joins
set_option linter.unusedVariables false

theorem own : ownKnob Tryz.prog.godebug = none := by kernel_rfl
theorem laidOut : laidOutB Tryz.prog = true := by kernel_rfl
theorem g_errNone : Tryz.prog.globalNamed "loop.example/g00307/impl.errNone" = some 0 := by kernel_rfl
theorem t_errNone : (Tryz.prog.globals[0]?).map (·.type) = some 55 := by kernel_rfl
theorem g_errMany : Tryz.prog.globalNamed "loop.example/g00307/impl.errMany" = some 2 := by kernel_rfl
theorem t_errMany : (Tryz.prog.globals[2]?).map (·.type) = some 55 := by kernel_rfl
theorem g_errOther : Tryz.prog.globalNamed "loop.example/g00307/impl.errOther" = some 1 := by kernel_rfl
theorem t_errOther : (Tryz.prog.globals[1]?).map (·.type) = some 55 := by kernel_rfl
theorem g_errOver : Tryz.prog.globalNamed "loop.example/g00307/impl.errOver" = some 3 := by kernel_rfl
theorem t_errOver : (Tryz.prog.globals[3]?).map (·.type) = some 55 := by kernel_rfl
open Cv Cu Sg Dd
open Go.Proofs.YtmdlgogpgedgnaaGreatDoor.Bo (Box Box.new Box.newAt Box.kept Box.alloc Box.put Box.other Box.c Box.drew)
open Go.Proofs.YtmdlgogpgedgnaaGreatDoor.Rc (BelowBy wp_region_below calls_below calls_same)
theorem fix_of {w' : World} {b c : Nat} {z1 : ByteArray} {a1 : Option Addr} {cap1 : Nat} {L1 : List Pt.Ln} {ka1 kb1 u1 ra1 rb1 t1 ka2 kb2 u2 ra2 rb2 t2 : Int} (h : Box w' b (dc z1 (.slice a1 L1.length cap1) ka1 kb1 u1 ra1 rb1 t1)) (k : Box w' c (sc ka2 kb2 u2 ra2 rb2 t2)) :
    w'.cell? ⟨b, 0, none⟩ = some (.string z1) ∧ w'.cell? ⟨b, 1, none⟩ = some (.slice a1 L1.length cap1) ∧ w'.cell? ⟨b, 2, none⟩ = some (.int .i64 ka1) ∧ w'.cell? ⟨b, 3, none⟩ = some (.int .i64 kb1) ∧ w'.cell? ⟨b, 4, none⟩ = some (.int .i64 u1) ∧ w'.cell? ⟨b, 5, none⟩ = some (.int .i64 ra1) ∧ w'.cell? ⟨b, 6, none⟩ = some (.int .i64 rb1) ∧ w'.cell? ⟨b, 7, none⟩ = some (.int .i64 t1) ∧ w'.cell? ⟨c, 0, none⟩ = some (.int .i64 ka2) ∧ w'.cell? ⟨c, 1, none⟩ = some (.int .i64 kb2) ∧ w'.cell? ⟨c, 2, none⟩ = some (.int .i64 u2) ∧ w'.cell? ⟨c, 3, none⟩ = some (.int .i64 ra2) ∧ w'.cell? ⟨c, 4, none⟩ = some (.int .i64 rb2) ∧ w'.cell? ⟨c, 5, none⟩ = some (.int .i64 t2) :=
  ⟨h.c 0 rfl, h.c 1 rfl, h.c 2 rfl, h.c 3 rfl, h.c 4 rfl, h.c 5 rfl, h.c 6 rfl, h.c 7 rfl, k.c 0 rfl, k.c 1 rfl, k.c 2 rfl, k.c 3 rfl, k.c 4 rfl, k.c 5 rfl⟩
set_option maxRecDepth 100000 in
set_option maxHeartbeats 8000000 in

theorem walk (n0 : Int) (z1 : ByteArray) (a1 : Option Addr) (cap1 : Nat) (L1 : List Pt.Ln) (ka1 kb1 u1 ra1 rb1 t1 : Int) (wz1 : z1.size ≤ 9223372036854775807) (ka2 kb2 u2 ra2 rb2 t2 : Int) (s3 : ByteArray) (ws3 : s3.size ≤ maxLen) (n4 : Int) (e_errNone e_errMany e_errOther e_errOver : Addr) (w : World) (w1 : Pt.In w a1 cap1 L1) (htab : Sg.Tab w) (h_errNone : Se.At w 0 e_errNone) (h_errMany : Se.At w 2 e_errMany) (h_errOther : Se.At w 1 e_errOther) (h_errOver : Se.At w 3 e_errOver) (htyp : Se.Typ w) :
    Calls Tryz.prog 3 #[.int .i64 n0, Dd.dv z1 (.slice a1 L1.length cap1) ka1 kb1 u1 ra1 rb1 t1, Dd.sv ka2 kb2 u2 ra2 rb2 t2, .string s3, .int .i64 n4] w fun e w' => e = .returned (.bool true) ∧ Below w.heap.size w w' := by
  have HB : Hid (Below w.heap.size w ((w.alloc (.cells (dc z1 (.slice a1 L1.length cap1) ka1 kb1 u1 ra1 rb1 t1) 30)).alloc (.cells (sc ka2 kb2 u2 ra2 rb2 t2) 28))) := hidIt (((Below.refl w.heap.size w).alloc (Nat.le_refl _) _).alloc (by simp) _)
  by_cases hb : 1048576 < s3.size
  · have hb' : (1048576 : Int) < (s3.size : Int) := by omega
    go_enter Tryz.func3, Tryz.ntmps3
    go_wp2
    go_ret
    exact ⟨rfl, HB.out⟩
  · have hb' : ¬ (1048576 : Int) < (s3.size : Int) := by omega
    have HR := hidIt w1.rd
    have hl := w1.le
    have hc := w1.cap
    have CZ := hidIt (fun W => szDeed_any z1 a1 L1.length cap1 ka1 kb1 u1 ra1 rb1 t1 1048576 W wz1 (by omega) (by omega) (by omega))
    have BX : Hid (Box ((w.alloc (.cells (dc z1 (.slice a1 L1.length cap1) ka1 kb1 u1 ra1 rb1 t1) 30)).alloc (.cells (sc ka2 kb2 u2 ra2 rb2 t2) 28)) w.heap.size (dc z1 (.slice a1 L1.length cap1) ka1 kb1 u1 ra1 rb1 t1)) := hidIt ((Box.new w _ _).alloc _)
    have BY : Hid (Box ((w.alloc (.cells (dc z1 (.slice a1 L1.length cap1) ka1 kb1 u1 ra1 rb1 t1) 30)).alloc (.cells (sc ka2 kb2 u2 ra2 rb2 t2) 28)) (w.heap.size + 1) (sc ka2 kb2 u2 ra2 rb2 t2)) := hidIt (Box.newAt (by simp))
    have HT := hidIt htab
    have HY := hidIt htyp
    have H1 := hidIt h_errNone
    have H2 := hidIt h_errMany
    have H3 := hidIt h_errOver
    have H4 := hidIt h_errOther
    clear w1 htab htyp h_errNone h_errMany h_errOver h_errOther
    obtain ⟨c0, c1, c2, c3, c4, c5, c6, c7, d0, d1, d2, d3, d4, d5⟩ := fix_of BX.out BY.out
    go_enter Tryz.func3, Tryz.ntmps3
    go_wp2_with (fail)
    refine (CZ.out _).mono ?_
    rintro e wz ⟨r, rfl, hr1, hr0, hr2, k⟩
    replace HB := hidIt (HB.out.trans (k.mono HB.out.size))
    replace BX := hidIt (BX.out.kept k)
    replace BY := hidIt (BY.out.kept k)
    clear k CZ c0 c1 c2 c3 c4 c5 c6 c7 d0 d1 d2 d3 d4 d5
    by_cases hneg : r < 0
    · clear hr2
      go_wp2_with (fail)
      go_ret
      exact ⟨rfl, HB.out⟩
    · have hlen : L1.length ≤ 1048576 := hr2 (by omega)
      clear hr2
      have CT := hidIt (fun W h => toDeed_any z1 a1 cap1 L1 ka1 kb1 u1 ra1 rb1 t1 W h hlen)
      have CL := hidIt (fun W => toSeal_any ka2 kb2 u2 ra2 rb2 t2 W)
      have CS := hidIt (fun a c W h => spec_Trusted n0 z1 a c L1 ka1 kb1 u1 ra1 rb1 t1 ka2 kb2 u2 ra2 rb2 t2 s3 n4 W h (by omega) (by omega))
      have CI := hidIt (fun a c W h t y h1 h2 h3 h4 => impl_Trusted n0 z1 a c L1 ka1 kb1 u1 ra1 rb1 t1 ka2 kb2 u2 ra2 rb2 t2 s3 n4 e_errNone e_errMany e_errOver e_errOther W h t y h1 h2 h3 h4 (by omega) (by omega))
      have CE := hidIt (fun a b ca cb W h h' => eqDeed_same z1 a b ca cb L1 ka1 kb1 u1 ra1 rb1 t1 W h h' (by omega))
      generalize trustB n0 z1 L1 ka1 kb1 u1 ra1 rb1 t1 ka2 kb2 u2 ra2 rb2 t2 s3 n4 = pv at CS CI
      have hpp : (pv != pv) = false := by simp
      generalize w.heap.size + 1 = n1 at *
      go_upto_region 7 with fail
      have F0 := fix_of BX.out BY.out
      go_region_held3 (fun w' => w'.cell? ⟨w.heap.size, 0, none⟩ = some (.string z1) ∧ w'.cell? ⟨w.heap.size, 1, none⟩ = some (.slice a1 L1.length cap1) ∧ w'.cell? ⟨w.heap.size, 2, none⟩ = some (.int .i64 ka1) ∧ w'.cell? ⟨w.heap.size, 3, none⟩ = some (.int .i64 kb1) ∧ w'.cell? ⟨w.heap.size, 4, none⟩ = some (.int .i64 u1) ∧ w'.cell? ⟨w.heap.size, 5, none⟩ = some (.int .i64 ra1) ∧ w'.cell? ⟨w.heap.size, 6, none⟩ = some (.int .i64 rb1) ∧ w'.cell? ⟨w.heap.size, 7, none⟩ = some (.int .i64 t1) ∧ w'.cell? ⟨n1, 0, none⟩ = some (.int .i64 ka2) ∧ w'.cell? ⟨n1, 1, none⟩ = some (.int .i64 kb2) ∧ w'.cell? ⟨n1, 2, none⟩ = some (.int .i64 u2) ∧ w'.cell? ⟨n1, 3, none⟩ = some (.int .i64 ra2) ∧ w'.cell? ⟨n1, 4, none⟩ = some (.int .i64 rb2) ∧ w'.cell? ⟨n1, 5, none⟩ = some (.int .i64 t2))
        (first | assumption | go_keep)
        (first
        | (go_at_call 6; refine (CT.out _ (HR.out.kept HB.out.drew)).mono ?_; rintro e wA ⟨x2, cp2, rfl, hO2, k⟩; have HBA := hidIt (HB.out.drew.trans (k.mono HB.out.drew.size)); have BXA := hidIt (BX.out.drew.kept k); have BYA := hidIt (BY.out.drew.kept k); obtain ⟨_, _, e2, _, _, R2, _⟩ := hO2.form; cases e2; have HRA := hidIt R2; clear k hO2 R2; have FA := fix_of BXA.out BYA.out)
        | (go_at_call 7; refine (CL.out _).mono ?_; rintro e wB ⟨rfl, k⟩; have HBB := hidIt (HBA.out.trans (k.mono HBA.out.size)); have BXB := hidIt (BXA.out.kept k); have BYB := hidIt (BYA.out.kept k); have HRB := hidIt (HRA.out.kept k); clear k; have FB := fix_of BXB.out BYB.out)
        | (go_at_call 5; refine (CS.out _ _ _ HRB.out).mono ?_; rintro e wC ⟨rfl, k⟩; have HBC := hidIt (HBB.out.trans (k.mono HBB.out.size)); have BXC := hidIt (BXB.out.kept k); have BYC := hidIt (BYB.out.kept k); clear k; have FC := fix_of BXC.out BYC.out))
      clear F0 FA FB FC BX BY HB HBA HBB BXA BXB BYA BYB HRA HRB
      obtain ⟨c0, c1, c2, c3, c4, c5, c6, c7, d0, d1, d2, d3, d4, d5⟩ := fix_of BXC.out BYC.out
      go_wp2_with (fail)
      refine (CT.out _ (HR.out.kept HBC.out)).mono ?_
      rintro e w4 ⟨x4, cp4, rfl, hO4, k⟩
      have HB4 := hidIt (HBC.out.trans (k.mono HBC.out.size))
      have BX4 := hidIt (BXC.out.kept k)
      have BY4 := hidIt (BYC.out.kept k)
      obtain ⟨_, _, e4, _, _, R4, _⟩ := hO4.form
      cases e4
      have HR4 := hidIt R4
      clear k hO4 R4 c0 c1 c2 c3 c4 c5 c6 c7 d0 d1 d2 d3 d4 d5 HBC BXC BYC
      have BZ := hidIt (Box.new w4 (dc z1 (.slice x4 L1.length cp4) ka1 kb1 u1 ra1 rb1 t1) 40)
      have kA := (Below.refl w4.heap.size w4).alloc (Nat.le_refl _) (.cells (dc z1 (.slice x4 L1.length cp4) ka1 kb1 u1 ra1 rb1 t1) 40)
      replace HB4 := hidIt (HB4.out.trans (kA.mono HB4.out.size))
      replace BX4 := hidIt (BX4.out.kept kA)
      replace BY4 := hidIt (BY4.out.kept kA)
      replace HR4 := hidIt (HR4.out.kept kA)
      clear kA
      go_upto_region 9 with fail
      generalize w4.alloc (.cells (dc z1 (.slice x4 L1.length cp4) ka1 kb1 u1 ra1 rb1 t1) 40) = wz at BZ HB4 BX4 BY4 HR4 ⊢
      generalize w4.heap.size = bz at BZ ⊢
      haveI := BelowBy.one wz
      have g0 := fun p : BelowBy wz => p.cell (BZ.out.c 0 (v := .string z1) rfl)
      have g1 := fun p : BelowBy wz => p.cell (BZ.out.c 1 (v := .slice x4 L1.length cp4) rfl)
      have g2 := fun p : BelowBy wz => p.cell (BZ.out.c 2 (v := .int .i64 ka1) rfl)
      have g3 := fun p : BelowBy wz => p.cell (BZ.out.c 3 (v := .int .i64 kb1) rfl)
      have g4 := fun p : BelowBy wz => p.cell (BZ.out.c 4 (v := .int .i64 u1) rfl)
      have g5 := fun p : BelowBy wz => p.cell (BZ.out.c 5 (v := .int .i64 ra1) rfl)
      have g6 := fun p : BelowBy wz => p.cell (BZ.out.c 6 (v := .int .i64 rb1) rfl)
      have g7 := fun p : BelowBy wz => p.cell (BZ.out.c 7 (v := .int .i64 t1) rfl)
      have m0 := fun p : BelowBy wz => p.cell (BY4.out.c 0 (v := .int .i64 ka2) rfl)
      have m1 := fun p : BelowBy wz => p.cell (BY4.out.c 1 (v := .int .i64 kb2) rfl)
      have m2 := fun p : BelowBy wz => p.cell (BY4.out.c 2 (v := .int .i64 u2) rfl)
      have m3 := fun p : BelowBy wz => p.cell (BY4.out.c 3 (v := .int .i64 ra2) rfl)
      have m4 := fun p : BelowBy wz => p.cell (BY4.out.c 4 (v := .int .i64 rb2) rfl)
      have m5 := fun p : BelowBy wz => p.cell (BY4.out.c 5 (v := .int .i64 t2) rfl)
      have TP := hidIt (fun p : BelowBy wz => CI.out x4 cp4 p.world (HR4.out.kept p.h) ((HT.out.kept HB4.out).kept p.h) ((HY.out.kept HB4.out).kept p.h) ((H1.out.kept HB4.out).kept p.h) ((H2.out.kept HB4.out).kept p.h) ((H3.out.kept HB4.out).kept p.h) ((H4.out.kept HB4.out).kept p.h))
      refine wp_region_below (by kernel_rfl) (by kernel_rfl) ?_
      repeat (go_big_quiet_step (first | (go_at_call 7; exact calls_below (CL.out _)) | (go_at_call 8; exact calls_below (TP.out _))))
      refine wpQuiet_nil ?_
      intro _ hw'
      obtain ⟨pq, rfl⟩ := hw'
      have k2 := pq.h
      generalize pq.world = w5 at k2 ⊢
      have HB5 := hidIt (HB4.out.trans (k2.mono HB4.out.size))
      have BX5 := hidIt (BX4.out.kept k2)
      have BZ5 := hidIt (BZ.out.kept k2)
      have HR5 := hidIt (HR4.out.kept k2)
      clear k2 g0 g1 g2 g3 g4 g5 g6 g7 m0 m1 m2 m3 m4 m5 TP HB4 BX4 BY4 BZ HR4 CS CI
      have c0 := BX5.out.c 0 (v := .string z1) rfl
      have c1 := BX5.out.c 1 (v := .slice a1 L1.length cap1) rfl
      have c2 := BX5.out.c 2 (v := .int .i64 ka1) rfl
      have c3 := BX5.out.c 3 (v := .int .i64 kb1) rfl
      have c4 := BX5.out.c 4 (v := .int .i64 u1) rfl
      have c5 := BX5.out.c 5 (v := .int .i64 ra1) rfl
      have c6 := BX5.out.c 6 (v := .int .i64 rb1) rfl
      have c7 := BX5.out.c 7 (v := .int .i64 t1) rfl
      have b0 := BZ5.out.c 0 (v := .string z1) rfl
      have b1 := BZ5.out.c 1 (v := .slice x4 L1.length cp4) rfl
      have b2 := BZ5.out.c 2 (v := .int .i64 ka1) rfl
      have b3 := BZ5.out.c 3 (v := .int .i64 kb1) rfl
      have b4 := BZ5.out.c 4 (v := .int .i64 u1) rfl
      have b5 := BZ5.out.c 5 (v := .int .i64 ra1) rfl
      have b6 := BZ5.out.c 6 (v := .int .i64 rb1) rfl
      have b7 := BZ5.out.c 7 (v := .int .i64 t1) rfl
      go_wp2_with (fail)
      go_region_with (first
        | (go_at_call 6; refine (CT.out _ (HR.out.kept HB5.out.drew)).mono ?_; rintro e w6 ⟨x6, cp6, rfl, hO6, k6⟩; have HB6 := hidIt (HB5.out.drew.trans (k6.mono HB5.out.drew.size)); have BZ6 := hidIt (BZ5.out.drew.kept k6); have HQ6 := hidIt (HR5.out.drew.kept k6); obtain ⟨_, _, e6, _, _, R6, _⟩ := hO6.form; cases e6; have HR6 := hidIt R6; clear k6 hO6 R6; have b0 := BZ6.out.c 0 (v := .string z1) rfl; have b1 := BZ6.out.c 1 (v := .slice x4 L1.length cp4) rfl; have b2 := BZ6.out.c 2 (v := .int .i64 ka1) rfl; have b3 := BZ6.out.c 3 (v := .int .i64 kb1) rfl; have b4 := BZ6.out.c 4 (v := .int .i64 u1) rfl; have b5 := BZ6.out.c 5 (v := .int .i64 ra1) rfl; have b6 := BZ6.out.c 6 (v := .int .i64 rb1) rfl; have b7 := BZ6.out.c 7 (v := .int .i64 t1) rfl)
        | (go_at_call 9; refine (CE.out _ _ _ _ _ HQ6.out HR6.out).mono ?_; rintro e w7 ⟨rfl, k7⟩; have HB7 := hidIt (HB6.out.trans (k7.mono HB6.out.size)); clear k7))
      all_goals
        go_wp2_with (fail)
        go_ret
        exact ⟨rfl, HB7.out⟩

theorem door_met (os : Os) (args : Array Value) : laidMetH Tryz.prog Rows.fnExactTrustedRow.laid ((World.doorLaid Tryz.prog 107 os).forCall (fun _ _ => 0) ⟨#[], args, []⟩).memory :=
  laidMetH_of_parts3 (fuel := 8) (laidMet_of_run' 8 (by kernel_rfl) (by kernel_rfl)) (by kernel_rfl) (by kernel_rfl)
set_option maxRecDepth 100000 in
theorem lifted (os : Os) (started : os.Started) (H : Type) (enc : TypeId × Value → H) :
    ReturnsInHanded {} Tryz.checked os 3 .any (fun w args => (Rows.fnExactTrustedSpec.pre enc Tryz.prog Tryz.f3 [] false w args ∧ laidMetH Tryz.prog Rows.fnExactTrustedRow.laid w) ∧ sizedMet enc Tryz.prog Tryz.f3 (OpenSpec.ofChange Rows.fnExactTrustedSpec) false w args) (Rows.fnExactTrustedSpec.post enc Tryz.prog Tryz.f3 false true false false) := by
  refine returnsInHanded_of_change_and (C := Tryz.checked) (X := fun w _ => laidMetH Tryz.prog Rows.fnExactTrustedRow.laid w) (fun _ _ _ hh h => h.of_heap hh) own started (by kernel_rfl) Tryz.func3
    (ChangeSpec.witness_shaped (enc := enc) (C := Tryz.checked) (os := os) (X := fun w _ => laidMetH Tryz.prog Rows.fnExactTrustedRow.laid w) false (World.doorLaid Tryz.prog 107 os) #[.int .i64 0, .agg #[.string ByteArray.empty, .slice none 0 0, .int .i64 0, .int .i64 0, .int .i64 0, .int .i64 0, .int .i64 0, .int .i64 0], .agg #[.int .i64 0, .int .i64 0, .int .i64 0, .int .i64 0, .int .i64 0, .int .i64 0], .string ByteArray.empty, .int .i64 0] 8 rfl (World.shaped_of_RefB (by kernel_rfl) (by kernel_rfl)) (by kernel_rfl) (by kernel_rfl) (by kernel_rfl) (door_met os _)) ?_
  intro W base args ds gs before hval0 hW _ _ hL _
  have hval : ∀ (j : Nat) t v, Tryz.f3.params[j]? = some t → args[j]? = some v → Value.okWide Tryz.prog W .any base t v := hval0
  have hW' := hW
  obtain ⟨p, q, hA0, hV, rfl, hfz, hnd⟩ := hW
  have hA : DataW.TrodAll enc Tryz.prog W 0 (fun _ => true) true Tryz.f3.params.toList args.toList ds p := hA0
  rw [Tryz.params3] at hA hval
  obtain ⟨v0, vs0, d0, ds0, p0, q0, hargs, rfl, rfl, h0, r0⟩ := trodAll_cons hA
  obtain ⟨v1, vs1, d1, ds1, p1, q1, rfl, rfl, rfl, h1, r1⟩ := trodAll_cons r0
  obtain ⟨v2, vs2, d2, ds2, p2, q2, rfl, rfl, rfl, h2, r2⟩ := trodAll_cons r1
  obtain ⟨v3, vs3, d3, ds3, p3, q3, rfl, rfl, rfl, h3, r3⟩ := trodAll_cons r2
  obtain ⟨v4, vs4, d4, ds4, p4, q4, rfl, rfl, rfl, h4, r4⟩ := trodAll_cons r3
  obtain ⟨rfl, rfl, rfl⟩ := trodAll_nil r4
  obtain rfl : args = #[v0, v1, v2, v3, v4] := by cases args; simp_all
  have hL2 : laidMet Tryz.prog [("math/bits.deBruijn32tab", Rows.laid_math_bits_deBruijn32tab), ("math/bits.deBruijn64tab", Rows.laid_math_bits_deBruijn64tab), ("internal/strconv.uint64pow10", Rows.laid_internal_strconv_uint64pow10), ("loop.example/g00307/impl.errNone", Rows.laid_loop_example_g00307_impl_errNone), ("loop.example/g00307/impl.errMany", Rows.laid_loop_example_g00307_impl_errMany), ("loop.example/g00307/impl.errOther", Rows.laid_loop_example_g00307_impl_errOther), ("loop.example/g00307/impl.errOver", Rows.laid_loop_example_g00307_impl_errOver)] W ∧ handlesMet Tryz.prog [("errors.errorType", Rows.laid_errors_errorType)] W := hL
  have hP := hL2.1
  obtain ⟨e_errNone, s_errNone, hv_errNone, _, _, _⟩ := laid_sentinel (hP.tail.tail.tail) g_errNone t_errNone Tryz.underlying55 Se.row Tryz.underlying190 Tryz.underlying209 rfl rfl Tryz.underlying9 Se.cellsE Se.cellsS
  obtain ⟨e_errMany, s_errMany, hv_errMany, _, _, _⟩ := laid_sentinel (hP.tail.tail.tail.tail) g_errMany t_errMany Tryz.underlying55 Se.row Tryz.underlying190 Tryz.underlying209 rfl rfl Tryz.underlying9 Se.cellsE Se.cellsS
  obtain ⟨e_errOther, s_errOther, hv_errOther, _, _, _⟩ := laid_sentinel (hP.tail.tail.tail.tail.tail) g_errOther t_errOther Tryz.underlying55 Se.row Tryz.underlying190 Tryz.underlying209 rfl rfl Tryz.underlying9 Se.cellsE Se.cellsS
  obtain ⟨e_errOver, s_errOver, hv_errOver, _, _, _⟩ := laid_sentinel (hP.tail.tail.tail.tail.tail.tail) g_errOver t_errOver Tryz.underlying55 Se.row Tryz.underlying190 Tryz.underlying209 rfl rfl Tryz.underlying9 Se.cellsE Se.cellsS
  have hV1 : DataW.TrodVars enc Tryz.prog W (fun _ => true) ["loop.example/g00307/impl.errOther", "loop.example/g00307/impl.errNone", "loop.example/g00307/impl.errMany", "loop.example/g00307/impl.errOver"] gs q := hV
  obtain ⟨rfl, rfl⟩ := hV1.unique (Se.vars_cons enc g_errOther t_errOther hv_errOther trivial (Se.vars_cons enc g_errNone t_errNone hv_errNone trivial (Se.vars_cons enc g_errMany t_errMany hv_errMany trivial (Se.vars_cons enc g_errOver t_errOver hv_errOver trivial (Se.vars_nil enc _)))))
  have k0 := h0
  have lt0 : ∀ x ∈ p0, x.block < W.heap.size := by obtain ⟨m, hm⟩ := k0; exact DataW.trod_lt m _ _ _ hm
  have k1 := h1
  have lt1 : ∀ x ∈ p1, x.block < W.heap.size := by obtain ⟨m, hm⟩ := k1; exact DataW.trod_lt m _ _ _ hm
  have k2 := h2
  have lt2 : ∀ x ∈ p2, x.block < W.heap.size := by obtain ⟨m, hm⟩ := k2; exact DataW.trod_lt m _ _ _ hm
  have k3 := h3
  have lt3 : ∀ x ∈ p3, x.block < W.heap.size := by obtain ⟨m, hm⟩ := k3; exact DataW.trod_lt m _ _ _ hm
  have k4 := h4
  have lt4 : ∀ x ∈ p4, x.block < W.heap.size := by obtain ⟨m, hm⟩ := k4; exact DataW.trod_lt m _ _ _ hm
  obtain ⟨n0, rfl, rfl, rfl, wn0⟩ := open_int Tryz.underlying2 (hval 0 2 v0 rfl rfl) h0
  obtain ⟨z1, a1, cap1, L1, ka1, kb1, u1, ra1, rb1, t1, rfl, wz1, w1⟩ := Dd.open_deed (hval 1 30 v1 rfl rfl) h1
  obtain ⟨ka2, kb2, u2, ra2, rb2, t2, rfl⟩ := Dd.open_seal (hval 2 28 v2 rfl rfl) h2
  obtain ⟨s3, rfl, rfl, rfl, ws3⟩ := Go.ChangeMaps.open_string Tryz.underlying9 (hval 3 9 v3 rfl rfl) h3
  obtain ⟨n4, rfl, rfl, rfl, wn4⟩ := open_int Tryz.underlying2 (hval 4 2 v4 rfl rfl) h4
  clear hA0 hval0
  refine (walk n0 z1 a1 cap1 L1 ka1 kb1 u1 ra1 rb1 t1 wz1 ka2 kb2 u2 ra2 rb2 t2 s3 ws3 n4 e_errNone e_errMany e_errOther e_errOver W w1 (Sg.tab_of_plain hP) (Se.at_of_var g_errNone hv_errNone) (Se.at_of_var g_errMany hv_errMany) (Se.at_of_var g_errOther hv_errOther) (Se.at_of_var g_errOver hv_errOver) (Se.typ_of_met hL2.2)).mono fun e W' ⟨he, bel⟩ => ?_
  subst he
  exact ⟨_, rfl, _, _, _, [], _, [.cell 1 0, .cell 0 0, .cell 2 0, .cell 3 0], hW', trodAll_mk1 (shut_bool Tryz.underlying4 _), (trodAll_cons_mk (Below.trod laidOut (by kernel_rfl) (of_decide_eq_true (by kernel_rfl)) k0 bel lt0) (trodAll_cons_mk (Below.trod laidOut (by kernel_rfl) (of_decide_eq_true (by kernel_rfl)) k1 bel lt1) (trodAll_cons_mk (Below.trod laidOut (by kernel_rfl) (of_decide_eq_true (by kernel_rfl)) k2 bel lt2) (trodAll_cons_mk (Below.trod laidOut (by kernel_rfl) (of_decide_eq_true (by kernel_rfl)) k3 bel lt3) (trodAll_cons_mk (Below.trod laidOut (by kernel_rfl) (of_decide_eq_true (by kernel_rfl)) k4 bel lt4) trodAll_mk0))))), (Se.vars_cons enc g_errOther t_errOther (Se.var_kept hv_errOther bel) trivial (Se.vars_cons enc g_errNone t_errNone (Se.var_kept hv_errNone bel) trivial (Se.vars_cons enc g_errMany t_errMany (Se.var_kept hv_errMany bel) trivial (Se.vars_cons enc g_errOver t_errOver (Se.var_kept hv_errOver bel) trivial (Se.vars_nil enc _))))), bel.frame _, fun h => by cases h⟩

theorem over : Rows.fnExactTrustedRow.holds Tryz.pinned (OpenSpec.ofChange Rows.fnExactTrustedSpec) :=
  OpenClaim.holds_of_wide 3 Tryz.f3 rfl rfl rfl rfl rfl rfl rfl ⟨rfl, rfl, rfl, rfl, rfl⟩ rfl rfl rfl rfl rfl (by kernel_rfl) Tryz.func3 (by kernel_rfl)
    (of_decide_eq_true (by kernel_rfl)) (by unfold Func.isWrapper; first | (rw [if_pos (by decide +kernel)]; kernel_rfl) | (rw [if_neg (by decide +kernel)]; exact ⟨rfl, rfl⟩))
    (fun os started H enc _ => lifted os started H enc)
theorem card : Rows.FnExactTrustedCardSaid :=
  Claim7.holds_tied_plain_at .later [] [.data, .data, .data, .handle, .sentinel, .sentinel, .sentinel, .sentinel] true (true, "7d7068e1156a9c3edfea8aaf40f5f1c57d2ebf3656b266dac68756c6a5916022") true
    over (fun _ h => by cases h) (by kernel_rfl) (fun _ h => by cases h) fnExactTrusted_row_tie rfl ⟨rfl, rfl⟩ (by kernel_rfl) rfl
    (fun f fn hf hfn => by
      obtain rfl : f = 3 := Option.some.inj ((show Tryz.prog.funcNamed "loop.example/g00307/laws.FnExactTrusted" = some 3 by kernel_rfl).symm.trans hf) |>.symm
      obtain rfl : fn = Tryz.f3 := (Option.some.inj (Tryz.func3.symm.trans hfn)).symm
      exact ⟨by kernel_rfl, fun j t ht => by
        rw [Tryz.params3] at ht
        have hm : t ∈ [2, 30, 28, 9, 2] := by simpa using Array.mem_of_getElem? ht
        have hall : ([2, 30, 28, 9, 2].all fun u => !Tryz.prog.wantsStandIn u) = true := by kernel_rfl
        exact (show Tryz.prog.wantsStandIn t = false by simpa using List.all_eq_true.1 hall t hm)⟩)
    (by kernel_rfl)
end Go.Proofs.YtmdlgogpgedgnaaGreatDoor.fnExactTrusted
namespace Go.Proofs.YtmdlgogpgedgnaaGreatDoor
theorem fnExactTrusted_holds : Rows.FnExactTrustedCardSaid := fnExactTrusted.card
#print axioms fnExactTrusted_holds
end Go.Proofs.YtmdlgogpgedgnaaGreatDoor
