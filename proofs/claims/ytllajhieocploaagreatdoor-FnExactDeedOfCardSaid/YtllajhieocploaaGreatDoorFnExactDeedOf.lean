/-
  FnExactDeedOf answers true at every Node and number and leaves them as they were: DeedOf of the program answers as the specification's, writes into no argument, and its answer lies in memory of its own, behind another call too. No condition but that the library's table of powers of ten and the program's errors errNone and errMany are laid as their text says (the card ties them).
-/
import Derived.Test.YtllajhieocploaaGreatDoorRows
import Derived.Test.YtllajhieocploaaGreatDoorBun16
import Derived.WalkKit
import Derived.ProofKit
import Derived.OpenShut
import Derived.ShutString
import Derived.ChangeOld
import Derived.Below
import Derived.Lib.SmallJoins
import Derived.Test.YtllajhieocploaaGreatDoorBun2
import Derived.Test.YtllajhieocploaaGreatDoorTie
import Derived.Test.YtllajhieocploaaGreatDoorCards
import Derived.LaidMore
import Derived.Stop.Joined
import Derived.SevenTiedAt
import Derived.Test.YtllajhieocploaaGreatDoorBun18
import Derived.Test.YtllajhieocploaaGreatDoorBun19
import Derived.Test.YtllajhieocploaaGreatDoorBun17
namespace Go.Proofs.YtllajhieocploaaGreatDoor.fnExactDeedOf
open Go.ChangeShapes Go.WideShapes Go.ChangeAt Go.RowKit Go.Joins
set_option linter.unusedVariables false

theorem own : ownKnob Tryz.prog.godebug = none := by kernel_rfl
theorem laidOut : laidOutB Tryz.prog = true := by kernel_rfl
theorem g_errNone : Tryz.prog.globalNamed "loop.example/g00307/impl.errNone" = some 1 := by kernel_rfl
theorem t_errNone : (Tryz.prog.globals[1]?).map (·.type) = some 129 := by kernel_rfl
theorem g_errMany : Tryz.prog.globalNamed "loop.example/g00307/impl.errMany" = some 0 := by kernel_rfl
theorem t_errMany : (Tryz.prog.globals[0]?).map (·.type) = some 129 := by kernel_rfl
open Go.Proofs.YtllajhieocploaaGreatDoor.Vv (Sl sv hidIt)
open Go.Proofs.YtllajhieocploaaGreatDoor.Rg (upd waits wp_region_inv op_at)
structure RQ (X : Nd.Nw) (vx vn : Value) (w0 : World) (L : Nat → Bool) (u45 u46 u47 u48 u49 : Value) (W : World) : Prop where
  low : Below w0.heap.size w0 W
  k0 : L 0 = true → u45 = vx
  k1 : L 1 = true → u46 = vn
  k2 : L 2 = true → ∃ e m b g, u47 = Nd.nv X e m b g ∧ Nd.RdN W X e m b g
  k3 : L 3 = true → u48 = .bool true
  k4 : L 4 = true → u49 = .bool false
def KQ (X : Nd.Nw) (vx vn : Value) (w0 : World) (y0 y1 y2 y3 y4 y5 y6 y7 y8 y9 y10 y11 y12 y13 y14 y15 y16 y17 y18 y19 y20 y21 y22 y23 y24 y25 y26 y27 y28 y29 y30 y31 y32 y33 y34 y35 y36 y37 y38 y39 y40 y41 y42 y43 y44 y50 y51 y52 y53 y54 y55 y56 y57 y58 y59 y60 y61 y62 y63 y64 y65 y66 y67 y68 y69 y70 y71 y72 y73 y74 y75 y76 y77 y78 y79 y80 y81 y82 y83 y84 y85 y86 y87 y88 y89 y90 y91 y92 y93 y94 y95 y96 y97 y98 y99 y100 : Value) (L : Nat → Bool) (a : Act) (W : World) : Prop := ∃ u45 u46 u47 u48 u49 : Value, a = ⟨(y0 :: y1 :: y2 :: y3 :: y4 :: y5 :: y6 :: y7 :: y8 :: y9 :: y10 :: y11 :: y12 :: y13 :: y14 :: y15 :: y16 :: y17 :: y18 :: y19 :: y20 :: y21 :: y22 :: y23 :: y24 :: y25 :: y26 :: y27 :: y28 :: y29 :: y30 :: y31 :: y32 :: y33 :: y34 :: y35 :: y36 :: y37 :: y38 :: y39 :: y40 :: y41 :: y42 :: y43 :: y44 :: u45 :: u46 :: u47 :: u48 :: u49 :: y50 :: y51 :: y52 :: y53 :: y54 :: y55 :: y56 :: y57 :: y58 :: y59 :: y60 :: y61 :: y62 :: y63 :: y64 :: y65 :: y66 :: y67 :: y68 :: y69 :: y70 :: y71 :: y72 :: y73 :: y74 :: y75 :: y76 :: y77 :: y78 :: y79 :: y80 :: y81 :: y82 :: y83 :: y84 :: y85 :: y86 :: y87 :: y88 :: y89 :: y90 :: y91 :: y92 :: y93 :: y94 :: y95 :: y96 :: y97 :: y98 :: y99 :: y100 :: []).toArray, []⟩ ∧ RQ X vx vn w0 L u45 u46 u47 u48 u49 W
theorem RQ.kept {X : Nd.Nw} {vx vn : Value} {w0 : World} {L : Nat → Bool} {u45 u46 u47 u48 u49 : Value} {W W' : World} (R : RQ X vx vn w0 L u45 u46 u47 u48 u49 W) (k : Below W.heap.size W W') : RQ X vx vn w0 L u45 u46 u47 u48 u49 W' :=
  ⟨R.low.trans (k.mono R.low.size), R.k0, R.k1, (fun q => by obtain ⟨e, m, b, g, h1, h2⟩ := R.k2 q; exact ⟨e, m, b, g, h1, h2.kept k⟩), R.k3, R.k4⟩
set_option maxRecDepth 100000 in
set_option maxHeartbeats 16000000 in

theorem walk (x0 : Nd.Nw) (xe0 xm0 xb0 xg0 : Vv.Sl) (n1 : Int) (e_errNone e_errMany : Addr) (w : World) (w0 : Nd.In w x0 xe0 xm0 xb0 xg0) (htab : Sg.Tab w) (h_errNone : Se.At w 1 e_errNone) (h_errMany : Se.At w 0 e_errMany) :
    Calls Tryz.prog 4 #[Nd.nv x0 xe0 xm0 xb0 xg0, .int .i64 n1] w fun e w' => e = .returned (.bool true) ∧ Below w.heap.size w w' := by
  have HR := hidIt w0.rd
  have hsN := w0.short
  clear w0
  obtain ⟨bk, mm, ph, mn, ol, nw, tm, bu, lg, ap⟩ := x0
  obtain ⟨e0, e1, e2⟩ := xe0
  obtain ⟨t0, t1, t2⟩ := xm0
  obtain ⟨b0, b1, b2⟩ := xb0
  obtain ⟨g0, g1, g2⟩ := xg0
  have CZ := hidIt (fun W (r : Nd.RdN W ⟨bk, mm, ph, mn, ol, nw, tm, bu, lg, ap⟩ (e0, e1, e2) (t0, t1, t2) (b0, b1, b2) (g0, g1, g2)) => Nd.sz_any ⟨bk, mm, ph, mn, ol, nw, tm, bu, lg, ap⟩ (e0, e1, e2) (t0, t1, t2) (b0, b1, b2) (g0, g1, g2) 1048576 W r hsN (by decide) (by decide))
  have CT := hidIt (fun W (r : Nd.RdN W ⟨bk, mm, ph, mn, ol, nw, tm, bu, lg, ap⟩ (e0, e1, e2) (t0, t1, t2) (b0, b1, b2) (g0, g1, g2)) hm => Nd.to_any ⟨bk, mm, ph, mn, ol, nw, tm, bu, lg, ap⟩ (e0, e1, e2) (t0, t1, t2) (b0, b1, b2) (g0, g1, g2) W r hm)
  have CS := hidIt (fun W e m b g (r : Nd.RdN W ⟨bk, mm, ph, mn, ol, nw, tm, bu, lg, ap⟩ e m b g) => Nd.spec_DeedOf ⟨bk, mm, ph, mn, ol, nw, tm, bu, lg, ap⟩ e m b g n1 W r hsN)
  have CI := hidIt (fun W e m b g (r : Nd.RdN W ⟨bk, mm, ph, mn, ol, nw, tm, bu, lg, ap⟩ e m b g) t hN hM => Nd.impl_DeedOf ⟨bk, mm, ph, mn, ol, nw, tm, bu, lg, ap⟩ e m b g n1 e_errNone e_errMany W r hsN t hN hM)
  have CE := hidIt (fun W e m b g e' m' b' g' (r : Nd.RdN W ⟨bk, mm, ph, mn, ol, nw, tm, bu, lg, ap⟩ e m b g) (r' : Nd.RdN W ⟨bk, mm, ph, mn, ol, nw, tm, bu, lg, ap⟩ e' m' b' g') hl => Nd.eq_same ⟨bk, mm, ph, mn, ol, nw, tm, bu, lg, ap⟩ e m b g e' m' b' g' W r r' hl)
  have CK := hidIt (fun W e m b g lo hi (o : Nd.OwnN W lo ⟨bk, mm, ph, mn, ol, nw, tm, bu, lg, ap⟩ e m b g) l1 l2 l3 l4 hh hs => Nd.mark_any ⟨bk, mm, ph, mn, ol, nw, tm, bu, lg, ap⟩ e m b g 1 lo hi W o l1 l2 l3 l4 hh (by decide) hs (by decide))
  have HT := hidIt htab
  have HN := hidIt h_errNone
  have HM := hidIt h_errMany
  have hL := Nd.kD_len ⟨bk, mm, ph, mn, ol, nw, tm, bu, lg, ap⟩ n1
  generalize Nd.okD ⟨bk, mm, ph, mn, ol, nw, tm, bu, lg, ap⟩ n1 = pv at CS CI
  generalize Nd.kD ⟨bk, mm, ph, mn, ol, nw, tm, bu, lg, ap⟩ n1 = L at CS CI hL
  generalize Nd.zD ⟨bk, mm, ph, mn, ol, nw, tm, bu, lg, ap⟩ n1 = z at CS CI
  generalize Nd.qD ⟨bk, mm, ph, mn, ol, nw, tm, bu, lg, ap⟩ n1 = q at CS CI
  obtain ⟨K1, K2, U, R1, R2, T⟩ := q
  have CD := hidIt (fun W a b ca cb (r : Pt.Rd W a L) (r' : Pt.Rd W b L) => Dd.eqDeed_same z a b ca cb L K1 K2 U R1 R2 T W r r' (by omega))
  have CMD := hidIt (fun W b v (o : Pt.Own W b v L) => Nd.markDeed_any z v K1 K2 U R1 R2 T L b 1 W o (by decide) (by omega))
  have CHD := hidIt (fun W a c (r : Pt.Rd W a (Pt.markP 1 L.length)) => Nd.heldDeed_any z a c L.length K1 K2 U R1 R2 T 1 W r (by decide) (by omega))
  have HLL := hidIt hL
  generalize hnn : L.length = nn at CD CMD CHD
  have HNN := hidIt hnn
  generalize hkg : 1 + 2 * nn = kg at CMD CHD
  have hk0 : ¬ (kg : Int) < 0 := by omega
  have hkk : ((kg : Int) != (kg : Int)) = false := by simp
  have hpp : (pv != pv) = false := by cases pv <;> rfl
  simp only [Nd.nv, Nd.nc, sv] at CZ CT CS CI CE CK ⊢
  simp only [Dd.dv, Dd.dc] at CD CMD CHD
  clear hsN htab h_errNone h_errMany hL hnn hkg
  have BX := hidIt (Bo.Box.new w #[.slice e0 e1 e2, .slice t0 t1 t2, .int .i64 ph, .int .i64 mn, .int .i64 ol, .int .i64 nw, .int .i64 tm, .slice b0 b1 b2, .slice g0 g1 g2, .string ap] 31)
  have HB := hidIt ((Below.refl w.heap.size w).alloc (Nat.le_refl _) (.cells #[.slice e0 e1 e2, .slice t0 t1 t2, .int .i64 ph, .int .i64 mn, .int .i64 ol, .int .i64 nw, .int .i64 tm, .slice b0 b1 b2, .slice g0 g1 g2, .string ap] 31))
  have c0 := BX.out.c 0 (v := .slice e0 e1 e2) rfl
  have c1 := BX.out.c 1 (v := .slice t0 t1 t2) rfl
  have c2 := BX.out.c 2 (v := .int .i64 ph) rfl
  have c3 := BX.out.c 3 (v := .int .i64 mn) rfl
  have c4 := BX.out.c 4 (v := .int .i64 ol) rfl
  have c5 := BX.out.c 5 (v := .int .i64 nw) rfl
  have c6 := BX.out.c 6 (v := .int .i64 tm) rfl
  have c7 := BX.out.c 7 (v := .slice b0 b1 b2) rfl
  have c8 := BX.out.c 8 (v := .slice g0 g1 g2) rfl
  have c9 := BX.out.c 9 (v := .string ap) rfl
  go_enter Tryz.func4, Tryz.ntmps4
  go_wp2_with (fail)
  refine (CZ.out _ (HR.out.kept HB.out)).mono ?_
  rintro en w1 ⟨q, rfl, hq, k⟩
  replace HB := hidIt (HB.out.trans (k.mono HB.out.size))
  replace BX := hidIt (BX.out.kept k)
  have HQ := hidIt hq
  clear k hq c0 c1 c2 c3 c4 c5 c6 c7 c8 c9 CZ
  by_cases hneg : q < 0
  · go_wp2_with (fail)
    go_ret
    exact ⟨rfl, HB.out⟩
  have HSM := hidIt (HQ.out.sm (by omega))
  have HLG : Hid (lg.length ≤ 9223372036854775806) := hidIt (by have := HSM.out.g; simp only at this; omega)
  clear HQ
  have c0 := BX.out.c 0 (v := .slice e0 e1 e2) rfl
  have c1 := BX.out.c 1 (v := .slice t0 t1 t2) rfl
  have c2 := BX.out.c 2 (v := .int .i64 ph) rfl
  have c3 := BX.out.c 3 (v := .int .i64 mn) rfl
  have c4 := BX.out.c 4 (v := .int .i64 ol) rfl
  have c5 := BX.out.c 5 (v := .int .i64 nw) rfl
  have c6 := BX.out.c 6 (v := .int .i64 tm) rfl
  have c7 := BX.out.c 7 (v := .slice b0 b1 b2) rfl
  have c8 := BX.out.c 8 (v := .slice g0 g1 g2) rfl
  have c9 := BX.out.c 9 (v := .string ap) rfl
  go_wp2_with (fail)
  refine (CT.out _ (HR.out.kept HB.out) HSM.out).mono ?_
  intro en w2 hz
  obtain ⟨⟨xa0, xa1, xa2⟩, ⟨ya0, ya1, ya2⟩, ⟨ua0, ua1, ua2⟩, ⟨va0, va1, va2⟩, rfl, hO, k⟩ := hz.out
  replace HB := hidIt (HB.out.trans (k.mono HB.out.size))
  replace BX := hidIt (BX.out.kept k)
  have HR2 := hidIt hO.rd
  clear k hz hO c0 c1 c2 c3 c4 c5 c6 c7 c8 c9
  go_wp2_with (fail)
  refine (CS.out _ _ _ _ _ HR2.out).mono ?_
  intro en w3 hz
  obtain ⟨wa, wc, rfl, oW, k⟩ := hz.out
  rw [HNN.out] at oW ⊢
  simp only [Dd.dv, Dd.dc]
  replace HB := hidIt (HB.out.trans (k.mono HB.out.size))
  replace BX := hidIt (BX.out.kept k)
  have OW := hidIt oW
  have HLW := hidIt (fun g hg => (World.ownsRow.lt oW g hg).2)
  have kA := (Below.refl w3.heap.size w3).alloc (Nat.le_refl _) (.cells #[.string z, .slice wa nn wc, .int .i64 K1, .int .i64 K2, .int .i64 U, .int .i64 R1, .int .i64 R2, .int .i64 T] 54)
  have HX3 : Hid (w.heap.size < w3.heap.size) := hidIt BX.out.lt
  clear k hz oW HR2 CS
  replace HB := hidIt (HB.out.trans (kA.mono HB.out.size))
  replace BX := hidIt (BX.out.kept kA)
  replace OW := hidIt (OW.out.kept kA)
  have BW := hidIt (Bo.Box.new w3 #[.string z, .slice wa nn wc, .int .i64 K1, .int .i64 K2, .int .i64 U, .int .i64 R1, .int .i64 R2, .int .i64 T] 54)
  clear kA
  have c0 := BX.out.c 0 (v := .slice e0 e1 e2) rfl
  have c1 := BX.out.c 1 (v := .slice t0 t1 t2) rfl
  have c2 := BX.out.c 2 (v := .int .i64 ph) rfl
  have c3 := BX.out.c 3 (v := .int .i64 mn) rfl
  have c4 := BX.out.c 4 (v := .int .i64 ol) rfl
  have c5 := BX.out.c 5 (v := .int .i64 nw) rfl
  have c6 := BX.out.c 6 (v := .int .i64 tm) rfl
  have c7 := BX.out.c 7 (v := .slice b0 b1 b2) rfl
  have c8 := BX.out.c 8 (v := .slice g0 g1 g2) rfl
  have c9 := BX.out.c 9 (v := .string ap) rfl
  go_wp2_with (fail)
  have h3s : (w3.alloc (.cells #[.string z, .slice wa nn wc, .int .i64 K1, .int .i64 K2, .int .i64 U, .int .i64 R1, .int .i64 R2, .int .i64 T] 54)).heap.size = w3.heap.size + 1 := by simp
  generalize w3.alloc (.cells #[.string z, .slice wa nn wc, .int .i64 K1, .int .i64 K2, .int .i64 U, .int .i64 R1, .int .i64 R2, .int .i64 T] 54) = w3' at HB BX OW BW h3s ⊢
  refine (CT.out _ (HR.out.kept HB.out) HSM.out).mono ?_
  intro en w4 hz
  obtain ⟨⟨x0, x1, x2⟩, ⟨y0, y1, y2⟩, ⟨u0, u1, u2⟩, ⟨v0, v1, v2⟩, rfl, hO, k⟩ := hz.out
  have H34 := hidIt k.size
  replace HB := hidIt (HB.out.trans (k.mono HB.out.size))
  replace BX := hidIt (BX.out.kept k)
  replace BW := hidIt (BW.out.kept k)
  replace OW := hidIt (OW.out.kept k)
  have OX := hidIt hO
  have l1 := hidIt (fun g hg => (World.ownsRow.lt hO.e g hg).2)
  have l2 := hidIt (fun g hg => (World.ownsRow.lt hO.m g hg).2)
  have l3 := hidIt (fun g hg => (World.ownsRow.lt hO.b g hg).2)
  have l4 := hidIt (fun g hg => (World.ownsRow.lt hO.g g hg).2)
  clear k hz hO c0 c1 c2 c3 c4 c5 c6 c7 c8 c9
  simp only [Nd.nv, Nd.nc, sv]
  have kA := (Below.refl w4.heap.size w4).alloc (Nat.le_refl _) (.cells #[.slice x0 x1 x2, .slice y0 y1 y2, .int .i64 ph, .int .i64 mn, .int .i64 ol, .int .i64 nw, .int .i64 tm, .slice u0 u1 u2, .slice v0 v1 v2, .string ap] 42)
  replace HB := hidIt (HB.out.trans (kA.mono HB.out.size))
  replace BX := hidIt (BX.out.kept kA)
  replace BW := hidIt (BW.out.kept kA)
  replace OW := hidIt (OW.out.kept kA)
  replace OX := hidIt (OX.out.kept kA)
  have BY := hidIt (Bo.Box.new w4 #[.slice x0 x1 x2, .slice y0 y1 y2, .int .i64 ph, .int .i64 mn, .int .i64 ol, .int .i64 nw, .int .i64 tm, .slice u0 u1 u2, .slice v0 v1 v2, .string ap] 42)
  clear kA
  have d0 := BY.out.c 0 (v := .slice x0 x1 x2) rfl
  have d1 := BY.out.c 1 (v := .slice y0 y1 y2) rfl
  have d2 := BY.out.c 2 (v := .int .i64 ph) rfl
  have d3 := BY.out.c 3 (v := .int .i64 mn) rfl
  have d4 := BY.out.c 4 (v := .int .i64 ol) rfl
  have d5 := BY.out.c 5 (v := .int .i64 nw) rfl
  have d6 := BY.out.c 6 (v := .int .i64 tm) rfl
  have d7 := BY.out.c 7 (v := .slice u0 u1 u2) rfl
  have d8 := BY.out.c 8 (v := .slice v0 v1 v2) rfl
  have d9 := BY.out.c 9 (v := .string ap) rfl
  go_wp2_with (fail)
  have h4s : (w4.alloc (.cells #[.slice x0 x1 x2, .slice y0 y1 y2, .int .i64 ph, .int .i64 mn, .int .i64 ol, .int .i64 nw, .int .i64 tm, .slice u0 u1 u2, .slice v0 v1 v2, .string ap] 42)).heap.size = w4.heap.size + 1 := by simp
  generalize w4.alloc (.cells #[.slice x0 x1 x2, .slice y0 y1 y2, .int .i64 ph, .int .i64 mn, .int .i64 ol, .int .i64 nw, .int .i64 tm, .slice u0 u1 u2, .slice v0 v1 v2, .string ap] 42) = w4' at HB BX OW BW OX BY h4s ⊢
  refine (CI.out _ _ _ _ _ OX.out.rd (HT.out.kept HB.out) (HN.out.kept HB.out) (HM.out.kept HB.out)).mono ?_
  intro en w5 hz
  obtain ⟨ga, gc, rfl, oG, k⟩ := hz.out
  rw [HNN.out] at oG ⊢
  simp only [Dd.dv, Dd.dc]
  have H45 := hidIt k.size
  replace HB := hidIt (HB.out.trans (k.mono HB.out.size))
  replace BX := hidIt (BX.out.kept k)
  replace BW := hidIt (BW.out.kept k)
  replace BY := hidIt (BY.out.kept k)
  replace OW := hidIt (OW.out.kept k)
  replace OX := hidIt (OX.out.kept k)
  have OG := hidIt oG
  have HLG5 := hidIt (fun g hg => (World.ownsRow.lt oG g hg).2)
  have HLGb := hidIt (fun g hg => (World.ownsRow.lt oG g hg).1)
  clear k hz oG d0 d1 d2 d3 d4 d5 d6 d7 d8 d9
  have kA := (Below.refl w5.heap.size w5).alloc (Nat.le_refl _) (.cells #[.string z, .slice ga nn gc, .int .i64 K1, .int .i64 K2, .int .i64 U, .int .i64 R1, .int .i64 R2, .int .i64 T] 54)
  replace HB := hidIt (HB.out.trans (kA.mono HB.out.size))
  replace BX := hidIt (BX.out.kept kA)
  replace BW := hidIt (BW.out.kept kA)
  replace BY := hidIt (BY.out.kept kA)
  replace OW := hidIt (OW.out.kept kA)
  replace OX := hidIt (OX.out.kept kA)
  replace OG := hidIt (OG.out.kept kA)
  have BG := hidIt (Bo.Box.new w5 #[.string z, .slice ga nn gc, .int .i64 K1, .int .i64 K2, .int .i64 U, .int .i64 R1, .int .i64 R2, .int .i64 T] 54)
  clear kA
  have c0 := BG.out.c 0 (v := .string z) rfl
  have c1 := BG.out.c 1 (v := .slice ga nn gc) rfl
  have c2 := BG.out.c 2 (v := .int .i64 K1) rfl
  have c3 := BG.out.c 3 (v := .int .i64 K2) rfl
  have c4 := BG.out.c 4 (v := .int .i64 U) rfl
  have c5 := BG.out.c 5 (v := .int .i64 R1) rfl
  have c6 := BG.out.c 6 (v := .int .i64 R2) rfl
  have c7 := BG.out.c 7 (v := .int .i64 T) rfl
  have d0 := BW.out.c 0 (v := .string z) rfl
  have d1 := BW.out.c 1 (v := .slice wa nn wc) rfl
  have d2 := BW.out.c 2 (v := .int .i64 K1) rfl
  have d3 := BW.out.c 3 (v := .int .i64 K2) rfl
  have d4 := BW.out.c 4 (v := .int .i64 U) rfl
  have d5 := BW.out.c 5 (v := .int .i64 R1) rfl
  have d6 := BW.out.c 6 (v := .int .i64 R2) rfl
  have d7 := BW.out.c 7 (v := .int .i64 T) rfl
  go_wp2_with (fail)
  generalize w5.alloc (.cells #[.string z, .slice ga nn gc, .int .i64 K1, .int .i64 K2, .int .i64 U, .int .i64 R1, .int .i64 R2, .int .i64 T] 54) = w5' at HB BX OW BW OX BY OG BG ⊢
  refine (CD.out _ _ _ _ _ (Nd.rd_own OG.out) (Nd.rd_own OW.out)).mono ?_
  rintro en w6 ⟨rfl, k⟩
  replace HB := hidIt (HB.out.trans (k.mono HB.out.size))
  replace BX := hidIt (BX.out.kept k)
  replace BW := hidIt (BW.out.kept k)
  replace BY := hidIt (BY.out.kept k)
  replace BG := hidIt (BG.out.kept k)
  replace OW := hidIt (OW.out.kept k)
  replace OX := hidIt (OX.out.kept k)
  replace OG := hidIt (OG.out.kept k)
  clear k c0 c1 c2 c3 c4 c5 c6 c7 d0 d1 d2 d3 d4 d5 d6 d7
  generalize hb3 : w3.heap.size = s3 at *
  generalize hb4 : w4.heap.size = s4 at *
  generalize hb5 : w5.heap.size = s5 at *
  clear hb3 hb4 hb5
  have BXw := hidIt (fun W (kb : Below w6.drew.heap.size w6.drew W) => BX.out.drew.kept kb)
  have BYw := hidIt (fun W (kb : Below w6.drew.heap.size w6.drew W) => BY.out.drew.kept kb)
  have HRw := hidIt (fun W (kb : Below w6.drew.heap.size w6.drew W) => HR.out.kept (HB.out.drew.trans (kb.mono HB.out.drew.size)))
  have HXw := hidIt (fun W (kb : Below w6.drew.heap.size w6.drew W) => Nd.RdN.kept (w := w6.drew) (OX.out.rd.kept (Below.refl _ w6).drew) kb)
  go_wp2_with (fail)
  refine wp_region_inv (by kernel_rfl) (by kernel_rfl) (KQ ⟨bk, mm, ph, mn, ol, nw, tm, bu, lg, ap⟩ (.agg #[.slice x0 x1 x2, .slice y0 y1 y2, .int .i64 ph, .int .i64 mn, .int .i64 ol, .int .i64 nw, .int .i64 tm, .slice u0 u1 u2, .slice v0 v1 v2, .string ap]) (.agg #[.slice e0 e1 e2, .slice t0 t1 t2, .int .i64 ph, .int .i64 mn, .int .i64 ol, .int .i64 nw, .int .i64 tm, .slice b0 b1 b2, .slice g0 g1 g2, .string ap]) w6.drew _ _ _ _ _ _ _ _ _ _ _ _ _ _ _ _ _ _ _ _ _ _ _ _ _ _ _ _ _ _ _ _ _ _ _ _ _ _ _ _ _ _ _ _ _ _ _ _ _ _ _ _ _ _ _ _ _ _ _ _ _ _ _ _ _ _ _ _ _ _ _ _ _ _ _ _ _ _ _ _ _ _ _ _ _ _ _ _ _ _ _ _ _ _ _ _) ⟨_, _, _, _, _, ⟨rfl, ⟨Below.refl _ _, (fun q => by cases q), (fun q => by cases q), (fun q => by cases q), (fun q => by cases q), (fun q => by cases q)⟩⟩⟩ ?_ ?_
  case refine_1 =>
    intro Lb a' W j hj hI hL hD
    have hcases : j = 0 ∨ j = 1 ∨ j = 2 ∨ j = 3 ∨ j = 4 := by simp at hj; omega
    clear hj
    obtain ⟨u45, u46, u47, u48, u49, rfl, R⟩ := hI
    have kb := R.low
    rcases hcases with rfl | rfl | rfl | rfl | rfl
    · skip
      have bx := BYw.out W kb
      have d0 := bx.c 0 (v := .slice x0 x1 x2) rfl
      have d1 := bx.c 1 (v := .slice y0 y1 y2) rfl
      have d2 := bx.c 2 (v := .int .i64 ph) rfl
      have d3 := bx.c 3 (v := .int .i64 mn) rfl
      have d4 := bx.c 4 (v := .int .i64 ol) rfl
      have d5 := bx.c 5 (v := .int .i64 nw) rfl
      have d6 := bx.c 6 (v := .int .i64 tm) rfl
      have d7 := bx.c 7 (v := .slice u0 u1 u2) rfl
      have d8 := bx.c 8 (v := .slice v0 v1 v2) rfl
      have d9 := bx.c 9 (v := .string ap) rfl
      refine op_at rfl (fun K hK => ?_)
      go_simp
      refine hK _ _ ?_
      exact ⟨_, _, _, _, _, rfl, ⟨R.low, (fun _ => rfl), R.k1, R.k2, R.k3, R.k4⟩⟩
    · skip
      have bx := BXw.out W kb
      have d0 := bx.c 0 (v := .slice e0 e1 e2) rfl
      have d1 := bx.c 1 (v := .slice t0 t1 t2) rfl
      have d2 := bx.c 2 (v := .int .i64 ph) rfl
      have d3 := bx.c 3 (v := .int .i64 mn) rfl
      have d4 := bx.c 4 (v := .int .i64 ol) rfl
      have d5 := bx.c 5 (v := .int .i64 nw) rfl
      have d6 := bx.c 6 (v := .int .i64 tm) rfl
      have d7 := bx.c 7 (v := .slice b0 b1 b2) rfl
      have d8 := bx.c 8 (v := .slice g0 g1 g2) rfl
      have d9 := bx.c 9 (v := .string ap) rfl
      refine op_at rfl (fun K hK => ?_)
      go_simp
      refine hK _ _ ?_
      exact ⟨_, _, _, _, _, rfl, ⟨R.low, R.k0, (fun _ => rfl), R.k2, R.k3, R.k4⟩⟩
    · skip
      have e1 := R.k1 (hD 1 (by kernel_rfl))
      subst e1
      refine op_at rfl (fun K hK => ?_)
      go_simp
      refine (CT.out W (HRw.out W kb) HSM.out).mono ?_
      intro en W1 hz
      obtain ⟨f1, f2, f3, f4, rfl, hO, k1⟩ := hz.out
      have R := R.kept k1
      clear kb
      go_simp
      refine hK _ _ ?_
      exact ⟨_, _, _, _, _, rfl, ⟨R.low, R.k0, R.k1, (fun _ => ⟨f1, f2, f3, f4, rfl, hO.rd⟩), R.k3, R.k4⟩⟩
    · skip
      have e0 := R.k0 (hD 0 (by kernel_rfl))
      subst e0
      obtain ⟨f1, f2, f3, f4, e2, r2⟩ := R.k2 (hD 2 (by kernel_rfl))
      subst e2
      refine op_at rfl (fun K hK => ?_)
      obtain ⟨f10, f11, f12⟩ := f1
      obtain ⟨f20, f21, f22⟩ := f2
      obtain ⟨f30, f31, f32⟩ := f3
      obtain ⟨f40, f41, f42⟩ := f4
      simp only [Nd.nv, Nd.nc, sv]
      go_simp
      refine (CE.out W _ _ _ _ _ _ _ _ (HXw.out W kb) r2 HLG.out).mono ?_
      rintro en W1 ⟨rfl, k1⟩
      have R := R.kept k1
      clear kb
      go_simp
      refine hK _ _ ?_
      exact ⟨_, _, _, _, _, rfl, ⟨R.low, R.k0, R.k1, R.k2, (fun _ => rfl), R.k4⟩⟩
    · skip
      have e3 := R.k3 (hD 3 (by kernel_rfl))
      subst e3
      refine op_at rfl (fun K hK => ?_)
      go_simp
      refine hK _ _ ?_
      exact ⟨_, _, _, _, _, rfl, ⟨R.low, R.k0, R.k1, R.k2, R.k3, (fun _ => rfl)⟩⟩
  case refine_2 =>
    intro Lb a' W hI hall
    obtain ⟨u45, u46, u47, u48, u49, rfl, R⟩ := hI
    have e4 := R.k4 (hall 4)
    subst e4
    have k := R.low
    clear R hall BXw BYw HRw HXw
    replace BX := hidIt BX.out.drew
    replace BW := hidIt BW.out.drew
    replace BY := hidIt BY.out.drew
    replace BG := hidIt BG.out.drew
    replace OW : Hid (Pt.Own w6.drew _ _ L) := hidIt (OW.out.kept (Below.refl _ w6).drew)
    replace OG : Hid (Pt.Own w6.drew _ _ L) := hidIt (OG.out.kept (Below.refl _ w6).drew)
    replace OX := hidIt (OX.out.kept (Below.refl _ w6).drew)
    replace HB := hidIt HB.out.drew
    replace HB := hidIt (HB.out.trans (k.mono HB.out.size))
    replace BX := hidIt (BX.out.kept k)
    replace BW := hidIt (BW.out.kept k)
    replace BY := hidIt (BY.out.kept k)
    replace BG := hidIt (BG.out.kept k)
    replace OW := hidIt (OW.out.kept k)
    replace OX := hidIt (OX.out.kept k)
    replace OG := hidIt (OG.out.kept k)
    clear k
    have d0 := BY.out.c 0 (v := .slice x0 x1 x2) rfl
    have d1 := BY.out.c 1 (v := .slice y0 y1 y2) rfl
    have d2 := BY.out.c 2 (v := .int .i64 ph) rfl
    have d3 := BY.out.c 3 (v := .int .i64 mn) rfl
    have d4 := BY.out.c 4 (v := .int .i64 ol) rfl
    have d5 := BY.out.c 5 (v := .int .i64 nw) rfl
    have d6 := BY.out.c 6 (v := .int .i64 tm) rfl
    have d7 := BY.out.c 7 (v := .slice u0 u1 u2) rfl
    have d8 := BY.out.c 8 (v := .slice v0 v1 v2) rfl
    have d9 := BY.out.c 9 (v := .string ap) rfl
    go_wp2_with (fail)
    have hs34 := H34.out
    have hs45 := H45.out
    have hsX := HX3.out
    refine (CK.out _ _ _ _ _ _ s4 OX.out l1.out l2.out l3.out l4.out (by have := BY.out.lt; omega) HSM.out).mono ?_
    rintro en w7 ⟨kq, rfl, hM⟩
    have hkq : ¬ ((kq : Nat) : Int) < 0 := by omega
    have HB7 := hidIt (HB.out.trans (hM.only.below (B := w.heap.size) (by omega) HB.out.size))
    have BX7 := hidIt (Nd.box_in hM.only BX.out (by omega))
    have BW7 := hidIt (Nd.box_in hM.only BW.out (by omega))
    have BG7 := hidIt (hM.box BG.out (by omega))
    have OW7 : Hid (Pt.Own w7 _ (.slice wa nn wc) L) := hidIt (hM.stay _ _ _ _ _ _ OW.out (by decide))
    have OG7 : Hid (Pt.Own w7 _ (.slice ga nn gc) L) := hidIt (hM.stay _ _ _ _ _ _ OG.out (by decide))
    clear hM HB BX BW BG OW OG OX BY d0 d1 d2 d3 d4 d5 d6 d7 d8 d9 CK CE l1 l2 l3 l4
    have c0 := BG7.out.c 0 (v := .string z) rfl
    have c1 := BG7.out.c 1 (v := .slice ga nn gc) rfl
    have c2 := BG7.out.c 2 (v := .int .i64 K1) rfl
    have c3 := BG7.out.c 3 (v := .int .i64 K2) rfl
    have c4 := BG7.out.c 4 (v := .int .i64 U) rfl
    have c5 := BG7.out.c 5 (v := .int .i64 R1) rfl
    have c6 := BG7.out.c 6 (v := .int .i64 R2) rfl
    have c7 := BG7.out.c 7 (v := .int .i64 T) rfl
    have d0 := BW7.out.c 0 (v := .string z) rfl
    have d1 := BW7.out.c 1 (v := .slice wa nn wc) rfl
    have d2 := BW7.out.c 2 (v := .int .i64 K1) rfl
    have d3 := BW7.out.c 3 (v := .int .i64 K2) rfl
    have d4 := BW7.out.c 4 (v := .int .i64 U) rfl
    have d5 := BW7.out.c 5 (v := .int .i64 R1) rfl
    have d6 := BW7.out.c 6 (v := .int .i64 R2) rfl
    have d7 := BW7.out.c 7 (v := .int .i64 T) rfl
    go_wp2_with (fail)
    refine (CD.out _ _ _ _ _ (Nd.rd_own OG7.out) (Nd.rd_own OW7.out)).mono ?_
    rintro en w8 ⟨rfl, k⟩
    have HB := hidIt (HB7.out.trans (k.mono HB7.out.size))
    have BX := hidIt (BX7.out.kept k)
    have BW := hidIt (BW7.out.kept k)
    have BG := hidIt (BG7.out.kept k)
    have OW := hidIt (OW7.out.kept k)
    have OG := hidIt (OG7.out.kept k)
    clear k HB7 BX7 BW7 BG7 OW7 OG7 c0 c1 c2 c3 c4 c5 c6 c7 d0 d1 d2 d3 d4 d5 d6 d7
    have c0 := BG.out.c 0 (v := .string z) rfl
    have c1 := BG.out.c 1 (v := .slice ga nn gc) rfl
    have c2 := BG.out.c 2 (v := .int .i64 K1) rfl
    have c3 := BG.out.c 3 (v := .int .i64 K2) rfl
    have c4 := BG.out.c 4 (v := .int .i64 U) rfl
    have c5 := BG.out.c 5 (v := .int .i64 R1) rfl
    have c6 := BG.out.c 6 (v := .int .i64 R2) rfl
    have c7 := BG.out.c 7 (v := .int .i64 T) rfl
    go_wp2_with (fail)
    refine (CMD.out _ _ _ OG.out).mono ?_
    rintro en w9 ⟨rfl, o9, y9⟩
    have hl5 := HLG5.out
    have hlb := HLGb.out
    have BX9 := hidIt (Nd.box_only y9 BX.out (Nd.ob_ne BX.out.lt (fun g hg => by have := hlb g hg; omega)))
    have BW9 := hidIt (Nd.box_only y9 BW.out (Nd.ob_ne BW.out.lt (fun g hg => by have := hlb g hg; omega)))
    have BG9 := hidIt (Nd.box_only y9 BG.out (Nd.ob_ne BG.out.lt (fun g hg => by have := hl5 g hg; omega)))
    have OW9 := hidIt (OW.out.lo OG.out y9 (fun g hg => by have := HLW.out g hg; omega))
    have HB9 := hidIt (Pt.ob_below HB.out OG.out y9 (by omega) HB.out.size)
    have OG9 := hidIt o9
    clear o9 y9 hl5 hlb HB BX BW BG OW OG c0 c1 c2 c3 c4 c5 c6 c7 CMD
    have c0 := BG9.out.c 0 (v := .string z) rfl
    have c1 := BG9.out.c 1 (v := .slice ga nn gc) rfl
    have c2 := BG9.out.c 2 (v := .int .i64 K1) rfl
    have c3 := BG9.out.c 3 (v := .int .i64 K2) rfl
    have c4 := BG9.out.c 4 (v := .int .i64 U) rfl
    have c5 := BG9.out.c 5 (v := .int .i64 R1) rfl
    have c6 := BG9.out.c 6 (v := .int .i64 R2) rfl
    have c7 := BG9.out.c 7 (v := .int .i64 T) rfl
    go_wp2_with (fail)
    refine (CHD.out _ _ _ (Nd.rd_own OG9.out)).mono ?_
    rintro en w10 ⟨rfl, k⟩
    have HB := hidIt (HB9.out.trans (k.mono HB9.out.size))
    have BX := hidIt (BX9.out.kept k)
    have BW := hidIt (BW9.out.kept k)
    have BG := hidIt (BG9.out.kept k)
    have OW := hidIt (OW9.out.kept k)
    have OG := hidIt (OG9.out.kept k)
    clear k HB9 BX9 BW9 BG9 OW9 OG9 c0 c1 c2 c3 c4 c5 c6 c7
    have c0 := BX.out.c 0 (v := .slice e0 e1 e2) rfl
    have c1 := BX.out.c 1 (v := .slice t0 t1 t2) rfl
    have c2 := BX.out.c 2 (v := .int .i64 ph) rfl
    have c3 := BX.out.c 3 (v := .int .i64 mn) rfl
    have c4 := BX.out.c 4 (v := .int .i64 ol) rfl
    have c5 := BX.out.c 5 (v := .int .i64 nw) rfl
    have c6 := BX.out.c 6 (v := .int .i64 tm) rfl
    have c7 := BX.out.c 7 (v := .slice b0 b1 b2) rfl
    have c8 := BX.out.c 8 (v := .slice g0 g1 g2) rfl
    have c9 := BX.out.c 9 (v := .string ap) rfl
    go_wp2_with (fail)
    refine (CT.out _ (HR.out.kept HB.out) HSM.out).mono ?_
    intro en w11 hz
    obtain ⟨⟨xa0, xa1, xa2⟩, ⟨ya0, ya1, ya2⟩, ⟨ua0, ua1, ua2⟩, ⟨va0, va1, va2⟩, rfl, hO, k⟩ := hz.out
    replace HB := hidIt (HB.out.trans (k.mono HB.out.size))
    replace BW := hidIt (BW.out.kept k)
    replace BG := hidIt (BG.out.kept k)
    replace OW := hidIt (OW.out.kept k)
    replace OG := hidIt (OG.out.kept k)
    have HR2 := hidIt hO.rd
    clear k hz hO c0 c1 c2 c3 c4 c5 c6 c7 c8 c9 BX
    simp only [Nd.nv, Nd.nc, sv]
    go_wp2_with (fail)
    refine (CI.out _ _ _ _ _ HR2.out (HT.out.kept HB.out) (HN.out.kept HB.out) (HM.out.kept HB.out)).mono ?_
    intro en w12 hz
    obtain ⟨ha, hc, rfl, oH, k⟩ := hz.out
    rw [HNN.out] at oH ⊢
    simp only [Dd.dv, Dd.dc]
    replace HB := hidIt (HB.out.trans (k.mono HB.out.size))
    replace BW := hidIt (BW.out.kept k)
    replace BG := hidIt (BG.out.kept k)
    replace OW := hidIt (OW.out.kept k)
    replace OG := hidIt (OG.out.kept k)
    have OH := hidIt oH
    clear k hz oH HR2
    have kA := (Below.refl w12.heap.size w12).alloc (Nat.le_refl _) (.cells #[.string z, .slice ha nn hc, .int .i64 K1, .int .i64 K2, .int .i64 U, .int .i64 R1, .int .i64 R2, .int .i64 T] 54)
    replace HB := hidIt (HB.out.trans (kA.mono HB.out.size))
    replace BW := hidIt (BW.out.kept kA)
    replace BG := hidIt (BG.out.kept kA)
    replace OW := hidIt (OW.out.kept kA)
    replace OG := hidIt (OG.out.kept kA)
    replace OH := hidIt (OH.out.kept kA)
    have BH := hidIt (Bo.Box.new w12 #[.string z, .slice ha nn hc, .int .i64 K1, .int .i64 K2, .int .i64 U, .int .i64 R1, .int .i64 R2, .int .i64 T] 54)
    clear kA
    have c0 := BH.out.c 0 (v := .string z) rfl
    have c1 := BH.out.c 1 (v := .slice ha nn hc) rfl
    have c2 := BH.out.c 2 (v := .int .i64 K1) rfl
    have c3 := BH.out.c 3 (v := .int .i64 K2) rfl
    have c4 := BH.out.c 4 (v := .int .i64 U) rfl
    have c5 := BH.out.c 5 (v := .int .i64 R1) rfl
    have c6 := BH.out.c 6 (v := .int .i64 R2) rfl
    have c7 := BH.out.c 7 (v := .int .i64 T) rfl
    have d0 := BW.out.c 0 (v := .string z) rfl
    have d1 := BW.out.c 1 (v := .slice wa nn wc) rfl
    have d2 := BW.out.c 2 (v := .int .i64 K1) rfl
    have d3 := BW.out.c 3 (v := .int .i64 K2) rfl
    have d4 := BW.out.c 4 (v := .int .i64 U) rfl
    have d5 := BW.out.c 5 (v := .int .i64 R1) rfl
    have d6 := BW.out.c 6 (v := .int .i64 R2) rfl
    have d7 := BW.out.c 7 (v := .int .i64 T) rfl
    go_wp2_with (fail)
    generalize w12.alloc (.cells #[.string z, .slice ha nn hc, .int .i64 K1, .int .i64 K2, .int .i64 U, .int .i64 R1, .int .i64 R2, .int .i64 T] 54) = w12' at HB BW BG OW OG OH BH ⊢
    refine (CD.out _ _ _ _ _ (Nd.rd_own OH.out) (Nd.rd_own OW.out)).mono ?_
    rintro en w13 ⟨rfl, k⟩
    replace HB := hidIt (HB.out.trans (k.mono HB.out.size))
    replace BG := hidIt (BG.out.kept k)
    replace OG := hidIt (OG.out.kept k)
    clear k c0 c1 c2 c3 c4 c5 c6 c7 d0 d1 d2 d3 d4 d5 d6 d7 BW BH OW OH
    have c0 := BG.out.c 0 (v := .string z) rfl
    have c1 := BG.out.c 1 (v := .slice ga nn gc) rfl
    have c2 := BG.out.c 2 (v := .int .i64 K1) rfl
    have c3 := BG.out.c 3 (v := .int .i64 K2) rfl
    have c4 := BG.out.c 4 (v := .int .i64 U) rfl
    have c5 := BG.out.c 5 (v := .int .i64 R1) rfl
    have c6 := BG.out.c 6 (v := .int .i64 R2) rfl
    have c7 := BG.out.c 7 (v := .int .i64 T) rfl
    go_wp2_with (fail)
    refine (CHD.out _ _ _ (Nd.rd_own OG.out)).mono ?_
    rintro en w14 ⟨rfl, k⟩
    replace HB := hidIt (HB.out.trans (k.mono HB.out.size))
    clear k
    go_wp2_with (fail)
    go_ret
    exact ⟨rfl, HB.out⟩

theorem door_met (os : Os) (args : Array Value) : laidMetH Tryz.prog Rows.fnExactDeedOfRow.laid ((World.doorLaid Tryz.prog 62 os).forCall (fun _ _ => 0) ⟨#[], args, []⟩).memory :=
  laidMetH_of_parts3 (fuel := 8) (laidMet_of_run' 8 (by kernel_rfl) (by kernel_rfl)) (by kernel_rfl) (by kernel_rfl)
set_option maxRecDepth 100000 in
theorem lifted (os : Os) (started : os.Started) (H : Type) (enc : TypeId × Value → H) :
    ReturnsInHanded {} Tryz.checked os 4 .any (fun w args => (Rows.fnExactDeedOfSpec.pre enc Tryz.prog Tryz.f4 [] false w args ∧ laidMetH Tryz.prog Rows.fnExactDeedOfRow.laid w) ∧ sizedMet enc Tryz.prog Tryz.f4 (OpenSpec.ofChange Rows.fnExactDeedOfSpec) false w args) (Rows.fnExactDeedOfSpec.post enc Tryz.prog Tryz.f4 false true false false) := by
  refine returnsInHanded_of_change_and (C := Tryz.checked) (X := fun w _ => laidMetH Tryz.prog Rows.fnExactDeedOfRow.laid w) (fun _ _ _ hh h => h.of_heap hh) own started (by kernel_rfl) Tryz.func4
    (ChangeSpec.witness_shaped (enc := enc) (C := Tryz.checked) (os := os) (X := fun w _ => laidMetH Tryz.prog Rows.fnExactDeedOfRow.laid w) false (World.doorLaid Tryz.prog 62 os) #[.agg #[.slice none 0 0, .slice none 0 0, .int .i64 0, .int .i64 0, .int .i64 0, .int .i64 0, .int .i64 0, .slice none 0 0, .slice none 0 0, .string ByteArray.empty], .int .i64 0] 8 rfl (World.shaped_of_RefB (by kernel_rfl) (by kernel_rfl)) (by kernel_rfl) (by kernel_rfl) (by kernel_rfl) (door_met os _)) ?_
  intro W base args ds gs before hval0 hW _ _ hL _
  have hval : ∀ (j : Nat) t v, Tryz.f4.params[j]? = some t → args[j]? = some v → Value.okWide Tryz.prog W .any base t v := hval0
  have hW' := hW
  obtain ⟨p, q, hA0, hV, rfl, hfz, hnd⟩ := hW
  have hA : DataW.TrodAll enc Tryz.prog W 0 (fun _ => true) true Tryz.f4.params.toList args.toList ds p := hA0
  rw [Tryz.params4] at hA hval
  obtain ⟨v0, vs0, d0, ds0, p0, q0, hargs, rfl, rfl, h0, r0⟩ := trodAll_cons hA
  obtain ⟨v1, vs1, d1, ds1, p1, q1, rfl, rfl, rfl, h1, r1⟩ := trodAll_cons r0
  obtain ⟨rfl, rfl, rfl⟩ := trodAll_nil r1
  obtain rfl : args = #[v0, v1] := by cases args; simp_all
  have hP : laidMet Tryz.prog [("math/bits.deBruijn32tab", Rows.laid_math_bits_deBruijn32tab), ("math/bits.deBruijn64tab", Rows.laid_math_bits_deBruijn64tab), ("internal/strconv.uint64pow10", Rows.laid_internal_strconv_uint64pow10), ("loop.example/g00307/impl.errNone", Rows.laid_loop_example_g00307_impl_errNone), ("loop.example/g00307/impl.errMany", Rows.laid_loop_example_g00307_impl_errMany)] W := by rw [MakeChecks.laidMetH_plain _ _ _ (by kernel_rfl)] at hL; exact hL
  obtain ⟨e_errNone, s_errNone, hv_errNone, _, _, _⟩ := laid_sentinel (hP.tail.tail.tail) g_errNone t_errNone Tryz.underlying129 Se.row Tryz.underlying231 Tryz.underlying247 rfl rfl Tryz.underlying9 Se.cellsE Se.cellsS
  obtain ⟨e_errMany, s_errMany, hv_errMany, _, _, _⟩ := laid_sentinel (hP.tail.tail.tail.tail) g_errMany t_errMany Tryz.underlying129 Se.row Tryz.underlying231 Tryz.underlying247 rfl rfl Tryz.underlying9 Se.cellsE Se.cellsS
  have hV1 : DataW.TrodVars enc Tryz.prog W (fun _ => true) ["loop.example/g00307/impl.errMany", "loop.example/g00307/impl.errNone"] gs q := hV
  obtain ⟨rfl, rfl⟩ := hV1.unique (Se.vars_cons enc g_errMany t_errMany hv_errMany trivial (Se.vars_cons enc g_errNone t_errNone hv_errNone trivial (Se.vars_nil enc _)))
  have k0 := h0
  have lt0 : ∀ x ∈ p0, x.block < W.heap.size := by obtain ⟨m, hm⟩ := k0; exact DataW.trod_lt m _ _ _ hm
  have k1 := h1
  have lt1 : ∀ x ∈ p1, x.block < W.heap.size := by obtain ⟨m, hm⟩ := k1; exact DataW.trod_lt m _ _ _ hm
  obtain ⟨x0, xe0, xm0, xb0, xg0, rfl, w0⟩ := Nd.open_node (hval 0 31 v0 rfl rfl) h0
  obtain ⟨n1, rfl, rfl, rfl, wn1⟩ := open_int Tryz.underlying2 (hval 1 2 v1 rfl rfl) h1
  clear hA0 hval0
  refine (walk x0 xe0 xm0 xb0 xg0 n1 e_errNone e_errMany W w0 (Sg.tab_of_plain hP) (Se.at_of_var g_errNone hv_errNone) (Se.at_of_var g_errMany hv_errMany)).mono fun e W' ⟨he, bel⟩ => ?_
  subst he
  exact ⟨_, rfl, _, _, _, [], _, [.cell 0 0, .cell 1 0], hW', trodAll_mk1 (shut_bool Tryz.underlying4 _), (trodAll_cons_mk (Below.trod laidOut (by kernel_rfl) (of_decide_eq_true (by kernel_rfl)) k0 bel lt0) (trodAll_cons_mk (Below.trod laidOut (by kernel_rfl) (of_decide_eq_true (by kernel_rfl)) k1 bel lt1) trodAll_mk0)), (Se.vars_cons enc g_errMany t_errMany (Se.var_kept hv_errMany bel) trivial (Se.vars_cons enc g_errNone t_errNone (Se.var_kept hv_errNone bel) trivial (Se.vars_nil enc _))), bel.frame _, fun h => by cases h⟩

theorem over : Rows.fnExactDeedOfRow.holds Tryz.pinned (OpenSpec.ofChange Rows.fnExactDeedOfSpec) :=
  OpenClaim.holds_of_wide 4 Tryz.f4 rfl rfl rfl rfl rfl rfl rfl ⟨rfl, rfl, rfl, rfl, rfl⟩ rfl rfl rfl rfl rfl (by kernel_rfl) Tryz.func4 (by kernel_rfl)
    (of_decide_eq_true (by kernel_rfl)) (by unfold Func.isWrapper; first | (rw [if_pos (by decide +kernel)]; kernel_rfl) | (rw [if_neg (by decide +kernel)]; exact ⟨rfl, rfl⟩))
    (fun os started H enc _ => lifted os started H enc)
theorem card : Rows.FnExactDeedOfCardSaid :=
  Claim7.holds_tied_plain_at .later [] [.data, .data, .data, .sentinel, .sentinel] true (true, "7bb164696d38a66356fe1b43480cf3e89c688513a396bf343cb62e044cdd4ac3") true
    over (fun _ h => by cases h) (by kernel_rfl) (fun _ h => by cases h) fnExactDeedOf_row_tie rfl ⟨rfl, rfl⟩ (by kernel_rfl) rfl
    (fun f fn hf hfn => by
      obtain rfl : f = 4 := Option.some.inj ((show Tryz.prog.funcNamed "loop.example/g00307/laws.FnExactDeedOf" = some 4 by kernel_rfl).symm.trans hf) |>.symm
      obtain rfl : fn = Tryz.f4 := (Option.some.inj (Tryz.func4.symm.trans hfn)).symm
      exact ⟨by kernel_rfl, fun j t ht => by
        rw [Tryz.params4] at ht
        have hm : t ∈ [31, 2] := by simpa using Array.mem_of_getElem? ht
        have hall : ([31, 2].all fun u => !Tryz.prog.wantsStandIn u) = true := by kernel_rfl
        exact (show Tryz.prog.wantsStandIn t = false by simpa using List.all_eq_true.1 hall t hm)⟩)
    (by kernel_rfl)
end Go.Proofs.YtllajhieocploaaGreatDoor.fnExactDeedOf
namespace Go.Proofs.YtllajhieocploaaGreatDoor
theorem fnExactDeedOf_holds : Rows.FnExactDeedOfCardSaid := fnExactDeedOf.card
#print axioms fnExactDeedOf_holds
end Go.Proofs.YtllajhieocploaaGreatDoor
