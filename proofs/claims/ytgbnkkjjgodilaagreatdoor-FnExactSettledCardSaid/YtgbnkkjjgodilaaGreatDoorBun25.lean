/- l13Tell of the specification: one is told by another. (Written by wip/mkTell.py.) -/
import Derived.Test.YtgbnkkjjgodilaaGreatDoorBun23
import Derived.Test.YtgbnkkjjgodilaaGreatDoorBun11
import Derived.Laws.StructEq
import Derived.WideLaws
import Derived.Test.YtgbnkkjjgodilaaGreatDoorBun24
set_option maxRecDepth 100000
set_option maxHeartbeats 32000000
set_option linter.unusedVariables false
namespace Go.Proofs.YtgbnkkjjgodilaaGreatDoor.Rp
open Go.ChangeShapes Go.WideShapes Go.ChangeAt Go.RowKit
open Vv (Sl sv hidIt)
open Rg (upd waits wp_region_inv op_at)
theorem rd_four {W : World} {s0 t0 p0 q0 : Option Addr} {s1 s2 t1 t2 p1 p2 q1 q2 : Nat} {r r' : Rep} (h1 : RdE W (s0,s1,s2) r.1) (h2 : RdM W (t0,t1,t2) r.2) (h3 : RdE W (p0,p1,p2) r'.1) (h4 : RdM W (q0,q1,q2) r'.2) :
  Rd (W.alloc (.cells #[.slice s0 s1 s2,.slice t0 t1 t2,.slice p0 p1 p2,.slice q0 q1 q2] 43)) (some ⟨W.heap.size,0,none⟩) [r,r']:=by
 have k:=(Below.refl W.heap.size W).alloc (Nat.le_refl _) (.cells #[.slice s0 s1 s2,.slice t0 t1 t2,.slice p0 p1 p2,.slice q0 q1 q2] 43)
 refine ⟨[((s0,s1,s2),(t0,t1,t2)),((p0,p1,p2),(q0,q1,q2))],rfl,⟨fun i hi=>⟨W.heap.size,0,rfl,fun j hj=>?_⟩⟩,fun i hi=>?_,fun i hi=>?_⟩
 ·
  have hi' : i = 0 ∨ i = 1:=by simp at hi; omega
  rcases hi' with rfl | rfl
  ·
   match j,hj with
   | 0,_=>simp [Vv.rcell,Vv.rat]
   | 1,_=>simp [Vv.rcell,Vv.rat]
  ·
   match j,hj with
   | 0,_=>simp [Vv.rcell,Vv.rat]
   | 1,_=>simp [Vv.rcell,Vv.rat]
 ·
  have hi' : i = 0 ∨ i = 1:=by simp at hi; omega
  rcases hi' with rfl | rfl
  ·
   exact h1.kept k
  ·
   exact h3.kept k
 ·
  have hi' : i = 0 ∨ i = 1:=by simp at hi; omega
  rcases hi' with rfl | rfl
  ·
   exact h2.kept k
  ·
   exact h4.kept k
theorem tame_two {L : List Rep} (h : Tame L) {t f : Nat} (ht : t < L.length) (hf : f < L.length) : Tame [rat L t,rat L f]:=by
 have go : ∀ {Q : Rep → Prop},(∀ i,i < L.length → Q (rat L i)) → ∀ i,i < [rat L t,rat L f].length → Q (rat [rat L t,rat L f] i):=fun hq i hi=>by
  have hi' : i = 0 ∨ i = 1:=by simp at hi; omega
  rcases hi' with rfl | rfl
  ·
   exact hq t ht
  ·
   exact hq f hf
 exact ⟨by simp,go (Q:=fun r=>r.1.length ≤ 80) h.bl,go (Q:=fun r=>r.2.length ≤ 8) h.ml,go (Q:=fun r=>Bk.Ris (En.toB r.1)) h.br,go (Q:=fun r=>Mk.Ris (Mm.toB r.2)) h.mr⟩
structure TellR (L M : List Rep) (f t : Nat) : Prop where
 len : M.length = L.length
 bk : bks M = Bk.tell (bks L) f t
 mb : mbs M = Mk.tell (mbs L) f t
theorem bks_length (L : List Rep) : (bks L).length = L.length:=List.length_map ..
theorem mbs_length (L : List Rep) : (mbs L).length = L.length:=List.length_map ..
theorem bks_at {L : List Rep} {i : Nat} (h : i < L.length) : Bk.at0 (bks L) i = En.toB (rat L i).1:=by
 rw [Bk.at0_get (by rw [bks_length]; exact h),rat_at h]
 exact List.getElem_map ..
theorem mbs_at {L : List Rep} {i : Nat} (h : i < L.length) : Mk.at0 (mbs L) i = Mm.toB (rat L i).2:=by
 rw [Mk.at0_get (by rw [mbs_length]; exact h),rat_at h]
 exact List.getElem_map ..
theorem tell_set {L : List Rep} {f t : Nat} {J : Rep} (hf : f < L.length) (ht : t < L.length) (h1 : En.toB J.1 = Bk.whole (bks [rat L t,rat L f])) (h2 : Mm.toB J.2 = Mk.whole (mbs [rat L t,rat L f])) : TellR L (L.set t J) f t:=by
 refine ⟨List.length_set ..,?_,?_⟩
 ·
  unfold Bk.tell
  rw [bks_at ht,bks_at hf]
  unfold bks
  rw [List.map_set,h1]
  congr 1
  show Bk.mergeE (Bk.mergeE [] _) _ = _
  rw [Bk.mergeE_nil]
 ·
  unfold Mk.tell
  rw [mbs_at ht,mbs_at hf]
  unfold mbs
  rw [List.map_set,h2]
  congr 1
  show Mk.mergeE (Mk.mergeE [] _) _ = _
  rw [Mk.mergeE_nil]
def TelP (lo g m cap f t : Nat) (L : List Rep) (w : World) (e : Ending) (w' : World) : Prop:=e = .returned (.tuple #[]) ∧ ∃ M,TellR L M f t ∧ Own w' lo w'.heap.size (.slice (some ⟨g,0,none⟩) m cap) M ∧ Below lo w w'
theorem TelP.of {lo g m cap f t : Nat} {L : List Rep} {w w' : World} {e : Ending} {M : List Rep} (h : e = .returned (.tuple #[])) (h1 : TellR L M f t) (h2 : Own w' lo w'.heap.size (.slice (some ⟨g,0,none⟩) m cap) M) (h3 : Below lo w w') : TelP lo g m cap f t L w e w':=⟨h,M,h1,h2,h3⟩
theorem TelP.out {lo g m cap f t : Nat} {L : List Rep} {w w' : World} {e : Ending} (h : TelP lo g m cap f t L w e w') : e = .returned (.tuple #[]) ∧ ∃ M,TellR L M f t ∧ Own w' lo w'.heap.size (.slice (some ⟨g,0,none⟩) m cap) M ∧ Below lo w w':=h
def CPTl (g m cap f t s1 s2 t1 t2 p1 p2 q1 q2 : Nat) (s0 t0 p0 q0 : Option Addr) (K : List Rep) (w0 : World) (W : World) (v : Value) : Prop:=∃ (s u : Sl) (J : Rep),v = .agg #[sv s,sv u] ∧ En.Own W (w0.alloc (.cells #[.slice s0 s1 s2,.slice t0 t1 t2,.slice p0 p1 p2,.slice q0 q1 q2] 43)).heap.size (sv s) J.1 ∧ Mm.Own W (w0.alloc (.cells #[.slice s0 s1 s2,.slice t0 t1 t2,.slice p0 p1 p2,.slice q0 q1 q2] 43)).heap.size (sv u) J.2 ∧ En.toB J.1 = Bk.whole (bks K) ∧ Mm.toB J.2 = Mk.whole (mbs K) ∧ Below (w0.alloc (.cells #[.slice s0 s1 s2,.slice t0 t1 t2,.slice p0 p1 p2,.slice q0 q1 q2] 43)).heap.size (w0.alloc (.cells #[.slice s0 s1 s2,.slice t0 t1 t2,.slice p0 p1 p2,.slice q0 q1 q2] 43)) W
def SPTl (g m cap f t s1 s2 t1 t2 p1 p2 q1 q2 : Nat) (s0 t0 p0 q0 : Option Addr) (K : List Rep) (w0 : World) (W' : World) : Prop:=∃ (W : World) (s u : Sl) (J : Rep),W' = (W.setCell ⟨g,t * 2,none⟩ (sv s)).setCell ⟨g,t * 2 + 1,none⟩ (sv u) ∧ En.Own W (w0.alloc (.cells #[.slice s0 s1 s2,.slice t0 t1 t2,.slice p0 p1 p2,.slice q0 q1 q2] 43)).heap.size (sv s) J.1 ∧ Mm.Own W (w0.alloc (.cells #[.slice s0 s1 s2,.slice t0 t1 t2,.slice p0 p1 p2,.slice q0 q1 q2] 43)).heap.size (sv u) J.2 ∧ En.toB J.1 = Bk.whole (bks K) ∧ Mm.toB J.2 = Mk.whole (mbs K) ∧ Below w0.heap.size w0 W
structure RK_Tl (g m cap f t s1 s2 t1 t2 p1 p2 q1 q2 : Nat) (s0 t0 p0 q0 : Option Addr) (K : List Rep) (w0 : World) (W0 : World) (L : Nat → Bool) (u6 u7 u8 u9 u10 u11 u12 u13 u14 u15 u16 u17 u18 : Value) (W : World) : Prop where
 st0 : L 10 = false → W = W0
 sta : L 10 = true → L 11 = false → W = W0.alloc (.cells #[.slice s0 s1 s2,.slice t0 t1 t2,.slice p0 p1 p2,.slice q0 q1 q2] 43)
 st1 : L 11 = true → L 13 = false → CPTl g m cap f t s1 s2 t1 t2 p1 p2 q1 q2 s0 t0 p0 q0 K w0 W u17
 st2 : L 13 = true → SPTl g m cap f t s1 s2 t1 t2 p1 p2 q1 q2 s0 t0 p0 q0 K w0 W
 dep : L 10 = true → L 5 = true ∧ L 9 = true
 dpa : L 11 = true → L 10 = true
 dps : L 13 = true → L 11 = true
 k0 : L 0 = true → u6 = .slice (some ⟨g,0,none⟩) m cap
 k1 : L 1 = true → u7 = .int .i64 t
 k2 : L 2 = true → u8 = .slice (some ⟨g,0,none⟩) m cap
 k3 : L 3 = true → u9 = .int .i64 t
 k4 : L 4 = true → u10 = .pointer (some ⟨g,t * 2,none⟩)
 k5 : L 5 = true → u11 = .agg #[.slice s0 s1 s2,.slice t0 t1 t2]
 k6 : L 6 = true → u12 = .slice (some ⟨g,0,none⟩) m cap
 k7 : L 7 = true → u13 = .int .i64 f
 k8 : L 8 = true → u14 = .pointer (some ⟨g,f * 2,none⟩)
 k9 : L 9 = true → u15 = .agg #[.slice p0 p1 p2,.slice q0 q1 q2]
 k10 : L 10 = true → u16 = .slice (some ⟨W0.heap.size,0,none⟩) 2 2
 k12 : L 12 = true → u18 = .pointer (some ⟨g,t * 2,none⟩)
def KK_Tl (g m cap f t s1 s2 t1 t2 p1 p2 q1 q2 : Nat) (s0 t0 p0 q0 : Option Addr) (K : List Rep) (w0 : World) (W0 : World) (y0 y1 y2 y3 y4 y5 : Value) (L : Nat → Bool) (a : Act) (W : World) : Prop:=∃ u6 u7 u8 u9 u10 u11 u12 u13 u14 u15 u16 u17 u18 : Value,a = ⟨(y0 :: y1 :: y2 :: y3 :: y4 :: y5 :: u6 :: u7 :: u8 :: u9 :: u10 :: u11 :: u12 :: u13 :: u14 :: u15 :: u16 :: u17 :: u18 :: []).toArray,[]⟩ ∧ RK_Tl g m cap f t s1 s2 t1 t2 p1 p2 q1 q2 s0 t0 p0 q0 K w0 W0 L u6 u7 u8 u9 u10 u11 u12 u13 u14 u15 u16 u17 u18 W
theorem spec_l13Tell (lo g m cap f t : Nat) (L : List Rep) (w : World) (h : Own w lo w.heap.size (.slice (some ⟨g,0,none⟩) m cap) L) (hT : Tame L) (hm : L.length = m) (hf : f < m) (ht : t < m) :
  Calls Tryz.prog 87 #[.slice (some ⟨g,0,none⟩) m cap,.int .i64 f,.int .i64 t] w fun e w'=>TelP lo g m cap f t L w e w':=by
 have htL : t < L.length:=by omega
 have hfL : f < L.length:=by omega
 obtain ⟨⟨s0,s1,s2⟩,⟨t0,t1,t2⟩,c0,c1,f0,f1,oE,oM⟩:=h.cells htL
 obtain ⟨⟨p0,p1,p2⟩,⟨q0,q1,q2⟩,d0,d1,_,_,oE',oM'⟩:=h.cells hfL
 have HTS:=hidIt (fun J=>tell_set (J:=J) hfL htL)
 obtain ⟨W0,hW0⟩ : ∃ W0,W0 = w.drew:=⟨_,rfl⟩
 have kd : Below w.heap.size w w.drew:=(Below.refl _ w).drew
 have HC0:=hidIt (spec_l13Whole (some ⟨w.drew.heap.size,0,none⟩) 2 [rat L t,rat L f] _ (rd_four ((rdE_of oE).kept kd) ((rdM_of oM).kept kd) ((rdE_of oE').kept kd) ((rdM_of oM').kept kd)) (tame_two hT htL hfL))
 simp only [List.length_cons,List.length_nil,Nat.zero_add,Nat.reduceAdd] at HC0
 have hgw : g < w.drew.heap.size:=World.block_lt_of_cell? _ _ c0
 have hgl : lo ≤ g:=by
  obtain ⟨C,hC⟩:=h
  exact (World.ownsRow.lt hC.row g rfl).1
 have HO:=hidIt h
 have c0' : w.drew.cell? ⟨g,t * 2,none⟩ = some (.slice s0 s1 s2):=c0
 have c1' : w.drew.cell? ⟨g,t * 2 + 1,none⟩ = some (.slice t0 t1 t2):=c1
 have d0' : w.drew.cell? ⟨g,f * 2,none⟩ = some (.slice p0 p1 p2):=d0
 have d1' : w.drew.cell? ⟨g,f * 2 + 1,none⟩ = some (.slice q0 q1 q2):=d1
 have f0' : w.drew.frozen? ⟨g,t * 2,none⟩ = false:=f0
 have f1' : w.drew.frozen? ⟨g,t * 2 + 1,none⟩ = false:=f1
 clear c0 c1 d0 d1 f0 f1 oE oM oE' oM' h kd
 have HBW : Hid (∀ W,Below W0.heap.size W0 W → Below w.heap.size w W):=hidIt (fun W k=>by rw [hW0] at k; exact ⟨k.os,k.tape,k.output,k.size,k.block⟩)
 rw [← hW0] at c0' c1' d0' d1' f0' f1' HC0 hgw
 have c0:=c0'
 have c1:=c1'
 have d0:=d0'
 have d1:=d1'
 have f0:=f0'
 have f1:=f1'
 have HC:=HC0
 clear c0' c1' d0' d1' f0' f1' HC0
 have hti : (t : Int) < (m : Int):=by omega
 have hfi : (f : Int) < (m : Int):=by omega
 have ht0 : (0 : Int) ≤ (t : Int):=by omega
 have hf0 : (0 : Int) ≤ (f : Int):=by omega
 have HSZ : Hid (W0.heap.size = w.heap.size):=hidIt (by rw [hW0]; rfl)
 go_enter Tryz.func87,Tryz.ntmps87
 go_wp2_with (fail)
 refine wp_region_inv (by kernel_rfl) (by kernel_rfl) (KK_Tl g m cap f t s1 s2 t1 t2 p1 p2 q1 q2 s0 t0 p0 q0 [rat L t,rat L f] W0 (W0) _ _ _ _ _ _) ⟨_,_,_,_,_,_,_,_,_,_,_,_,_,rfl,⟨fun _=>hW0.symm,(fun q=>by cases q),(fun q=>by cases q),(fun q=>by cases q),(fun q=>by cases q),(fun q=>by cases q),(fun q=>by cases q),(fun q=>by cases q),(fun q=>by cases q),(fun q=>by cases q),(fun q=>by cases q),(fun q=>by cases q),(fun q=>by cases q),(fun q=>by cases q),(fun q=>by cases q),(fun q=>by cases q),(fun q=>by cases q),(fun q=>by cases q),(fun q=>by cases q)⟩⟩ ?_ ?_
 case refine_1 =>
  clear hW0
  intro Lb a' W i hi hI hL hD
  have hcases : i = 0 ∨ i = 1 ∨ i = 2 ∨ i = 3 ∨ i = 4 ∨ i = 5 ∨ i = 6 ∨ i = 7 ∨ i = 8 ∨ i = 9 ∨ i = 10 ∨ i = 11 ∨ i = 12 ∨ i = 13:=by simp at hi; omega
  clear hi
  obtain ⟨u6,u7,u8,u9,u10,u11,u12,u13,u14,u15,u16,u17,u18,rfl,R⟩:=hI
  rcases hcases with rfl | rfl | rfl | rfl | rfl | rfl | rfl | rfl | rfl | rfl | rfl | rfl | rfl | rfl
  ·
   skip
   refine op_at rfl (fun K hK=>?_)
   go_simp
   refine hK _ _ ?_
   exact ⟨_,_,_,_,_,_,_,_,_,_,_,_,_,rfl,R.st0,R.sta,R.st1,R.st2,R.dep,R.dpa,R.dps,(fun _=>rfl),R.k1,R.k2,R.k3,R.k4,R.k5,R.k6,R.k7,R.k8,R.k9,R.k10,R.k12⟩
  ·
   skip
   refine op_at rfl (fun K hK=>?_)
   go_simp
   refine hK _ _ ?_
   exact ⟨_,_,_,_,_,_,_,_,_,_,_,_,_,rfl,R.st0,R.sta,R.st1,R.st2,R.dep,R.dpa,R.dps,R.k0,(fun _=>rfl),R.k2,R.k3,R.k4,R.k5,R.k6,R.k7,R.k8,R.k9,R.k10,R.k12⟩
  ·
   skip
   refine op_at rfl (fun K hK=>?_)
   go_simp
   refine hK _ _ ?_
   exact ⟨_,_,_,_,_,_,_,_,_,_,_,_,_,rfl,R.st0,R.sta,R.st1,R.st2,R.dep,R.dpa,R.dps,R.k0,R.k1,(fun _=>rfl),R.k3,R.k4,R.k5,R.k6,R.k7,R.k8,R.k9,R.k10,R.k12⟩
  ·
   skip
   refine op_at rfl (fun K hK=>?_)
   go_simp
   refine hK _ _ ?_
   exact ⟨_,_,_,_,_,_,_,_,_,_,_,_,_,rfl,R.st0,R.sta,R.st1,R.st2,R.dep,R.dpa,R.dps,R.k0,R.k1,R.k2,(fun _=>rfl),R.k4,R.k5,R.k6,R.k7,R.k8,R.k9,R.k10,R.k12⟩
  ·
   skip
   have e2:=R.k2 (hD 2 (by kernel_rfl))
   subst e2
   have e3:=R.k3 (hD 3 (by kernel_rfl))
   subst e3
   refine op_at rfl (fun K hK=>?_)
   go_simp
   refine hK _ _ ?_
   exact ⟨_,_,_,_,_,_,_,_,_,_,_,_,_,rfl,R.st0,R.sta,R.st1,R.st2,R.dep,R.dpa,R.dps,R.k0,R.k1,R.k2,R.k3,(fun _=>rfl),R.k5,R.k6,R.k7,R.k8,R.k9,R.k10,R.k12⟩
  ·
   skip
   have e4:=R.k4 (hD 4 (by kernel_rfl))
   subst e4
   have ha : Lb 10 = false:=by
    cases q : Lb 10 with
    | false=>rfl
    | true=>have z:=R.dep q; simp [hL] at z
   have eW:=R.st0 ha
   subst eW
   refine op_at rfl (fun K hK=>?_)
   go_simp
   refine hK _ _ ?_
   exact ⟨_,_,_,_,_,_,_,_,_,_,_,_,_,rfl,R.st0,R.sta,R.st1,R.st2,(fun q=>by have q2 : Lb 10 = true:=q; rw [ha] at q2; cases q2),R.dpa,R.dps,R.k0,R.k1,R.k2,R.k3,R.k4,(fun _=>rfl),R.k6,R.k7,R.k8,R.k9,R.k10,R.k12⟩
  ·
   skip
   refine op_at rfl (fun K hK=>?_)
   go_simp
   refine hK _ _ ?_
   exact ⟨_,_,_,_,_,_,_,_,_,_,_,_,_,rfl,R.st0,R.sta,R.st1,R.st2,R.dep,R.dpa,R.dps,R.k0,R.k1,R.k2,R.k3,R.k4,R.k5,(fun _=>rfl),R.k7,R.k8,R.k9,R.k10,R.k12⟩
  ·
   skip
   refine op_at rfl (fun K hK=>?_)
   go_simp
   refine hK _ _ ?_
   exact ⟨_,_,_,_,_,_,_,_,_,_,_,_,_,rfl,R.st0,R.sta,R.st1,R.st2,R.dep,R.dpa,R.dps,R.k0,R.k1,R.k2,R.k3,R.k4,R.k5,R.k6,(fun _=>rfl),R.k8,R.k9,R.k10,R.k12⟩
  ·
   skip
   have e6:=R.k6 (hD 6 (by kernel_rfl))
   subst e6
   have e7:=R.k7 (hD 7 (by kernel_rfl))
   subst e7
   refine op_at rfl (fun K hK=>?_)
   go_simp
   refine hK _ _ ?_
   exact ⟨_,_,_,_,_,_,_,_,_,_,_,_,_,rfl,R.st0,R.sta,R.st1,R.st2,R.dep,R.dpa,R.dps,R.k0,R.k1,R.k2,R.k3,R.k4,R.k5,R.k6,R.k7,(fun _=>rfl),R.k9,R.k10,R.k12⟩
  ·
   skip
   have e8:=R.k8 (hD 8 (by kernel_rfl))
   subst e8
   have ha : Lb 10 = false:=by
    cases q : Lb 10 with
    | false=>rfl
    | true=>have z:=R.dep q; simp [hL] at z
   have eW:=R.st0 ha
   subst eW
   refine op_at rfl (fun K hK=>?_)
   go_simp
   refine hK _ _ ?_
   exact ⟨_,_,_,_,_,_,_,_,_,_,_,_,_,rfl,R.st0,R.sta,R.st1,R.st2,(fun q=>by have q2 : Lb 10 = true:=q; rw [ha] at q2; cases q2),R.dpa,R.dps,R.k0,R.k1,R.k2,R.k3,R.k4,R.k5,R.k6,R.k7,R.k8,(fun _=>rfl),R.k10,R.k12⟩
  ·
   skip
   have e5:=R.k5 (hD 5 (by kernel_rfl))
   subst e5
   have e9:=R.k9 (hD 9 (by kernel_rfl))
   subst e9
   have eW:=R.st0 hL
   subst eW
   have hcf : Lb 11 = false:=by
    cases q : Lb 11 with
    | false=>rfl
    | true=>have z:=R.dpa q; rw [hL] at z; cases z
   refine op_at rfl (fun K hK=>?_)
   go_simp
   refine hK _ _ ?_
   exact ⟨_,_,_,_,_,_,_,_,_,_,_,_,_,rfl,(fun q=>by cases q),(fun _ _=>rfl),(fun q=>by have q2 : Lb 11 = true:=q; rw [hcf] at q2; cases q2),(fun q=>by have q2:=R.dps q; rw [hcf] at q2; cases q2),(fun _=>⟨hD 5 (by kernel_rfl),hD 9 (by kernel_rfl)⟩),(fun _=>rfl),R.dps,R.k0,R.k1,R.k2,R.k3,R.k4,R.k5,R.k6,R.k7,R.k8,R.k9,(fun _=>rfl),R.k12⟩
  ·
   skip
   have e10:=R.k10 (hD 10 (by kernel_rfl))
   subst e10
   have eW:=R.sta (hD 10 (by kernel_rfl)) hL
   subst eW
   refine op_at rfl (fun K hK=>?_)
   go_simp
   refine (HC.out).mono ?_
   intro e W1 hz
   obtain ⟨J,hz2,e1,e2⟩:=hz.out
   obtain ⟨⟨x0,x1,x2⟩,⟨y0,y1,y2⟩,rfl,oE,oM,kk⟩:=hz2.out
   simp only [sv]
   go_simp
   refine hK _ _ ?_
   exact ⟨_,_,_,_,_,_,_,_,_,_,_,_,_,rfl,(fun q=>by have q2 : Lb 10 = false:=q; rw [hD 10 (by kernel_rfl)] at q2; cases q2),(fun _ q=>by cases q),(fun _ _=>⟨(x0,x1,x2),(y0,y1,y2),J,rfl,oE,oM,e1,e2,kk⟩),(fun q=>by have q2:=R.dps q; rw [hL] at q2; cases q2),R.dep,(fun _=>hD 10 (by kernel_rfl)),(fun _=>rfl),R.k0,R.k1,R.k2,R.k3,R.k4,R.k5,R.k6,R.k7,R.k8,R.k9,R.k10,R.k12⟩
  ·
   skip
   have e0:=R.k0 (hD 0 (by kernel_rfl))
   subst e0
   have e1:=R.k1 (hD 1 (by kernel_rfl))
   subst e1
   refine op_at rfl (fun K hK=>?_)
   go_simp
   refine hK _ _ ?_
   exact ⟨_,_,_,_,_,_,_,_,_,_,_,_,_,rfl,R.st0,R.sta,R.st1,R.st2,R.dep,R.dpa,R.dps,R.k0,R.k1,R.k2,R.k3,R.k4,R.k5,R.k6,R.k7,R.k8,R.k9,R.k10,(fun _=>rfl)⟩
  ·
   skip
   have e12:=R.k12 (hD 12 (by kernel_rfl))
   subst e12
   have hcc:=hD 11 (by kernel_rfl)
   have haa:=R.dpa hcc
   have hc:=R.st1 hcc hL
   obtain ⟨⟨x0,x1,x2⟩,⟨y0,y1,y2⟩,J,rfl,oE,oM,e1,e2,kk⟩:=hc
   have kz : Below W0.heap.size W0 W:=((Below.refl W0.heap.size W0).alloc (Nat.le_refl _) _).trans (kk.mono (by simp))
   have g0 : W.cell? ⟨g,t * 2,none⟩ = some (.slice s0 s1 s2):=by rw [kz.cell hgw]; exact c0
   have g1 : W.cell? ⟨g,t * 2 + 1,none⟩ = some (.slice t0 t1 t2):=by rw [kz.cell hgw]; exact c1
   have z0 : W.frozen? ⟨g,t * 2,none⟩ = false:=by rw [kz.frozen hgw]; exact f0
   have z1 : W.frozen? ⟨g,t * 2 + 1,none⟩ = false:=by rw [kz.frozen hgw]; exact f1
   simp only [sv]
   refine op_at rfl (fun K hK=>?_)
   go_simp
   refine hK _ _ ?_
   exact ⟨_,_,_,_,_,_,_,_,_,_,_,_,_,rfl,(fun q=>by have q2 : Lb 10 = false:=q; rw [haa] at q2; cases q2),(fun _ q=>by have q2 : Lb 11 = false:=q; rw [hcc] at q2; cases q2),(fun _ q=>by cases q),(fun _=>⟨W,(x0,x1,x2),(y0,y1,y2),J,rfl,oE,oM,e1,e2,kz⟩),R.dep,R.dpa,(fun _=>hcc),R.k0,R.k1,R.k2,R.k3,R.k4,R.k5,R.k6,R.k7,R.k8,R.k9,R.k10,R.k12⟩
 case refine_2 =>
  intro Lb a' W hI hall
  obtain ⟨u6,u7,u8,u9,u10,u11,u12,u13,u14,u15,u16,u17,u18,rfl,R⟩:=hI
  have hS:=R.st2 (hall 13)
  clear R hall
  obtain ⟨W1,s,u,J,rfl,oE,oM,e1,e2,kk⟩:=hS
  have kw:=HBW.out W1 kk
  have hO:=HO.out.kept kw
  have hsz : w.heap.size ≤ (W0.alloc (.cells #[.slice s0 s1 s2,.slice t0 t1 t2,.slice p0 p1 p2,.slice q0 q1 q2] 43)).heap.size:=by have:=HSZ.out; simp; omega
  have hP:=hO.put htL (oE.mono hsz) (oM.mono hsz)
  have hG:=hP.grow
  have hB:=((kw.mono HO.out.lo_le.1).setCell (p:=⟨g,t * 2,none⟩) hgl (sv s)).setCell (p:=⟨g,t * 2 + 1,none⟩) hgl (sv u)
  refine bodyPost_end (v:=.tuple #[]) (by simp [results,Tryz.results87,go_sem]) rfl ?_
  exact TelP.of rfl (HTS.out J e1 e2) hG hB
end Go.Proofs.YtgbnkkjjgodilaaGreatDoor.Rp
namespace Go.Proofs.YtgbnkkjjgodilaaGreatDoor.Bk
structure Gok (G : List (List En)) : Prop where
 ok : ∀ b ∈ G,okBk b = true
 len : (whole G).length ≤ 80
theorem Gok.ris {G : List (List En)} (h : Gok G) : AllRis G:=fun b hb=>ok_ris (h.ok b hb)
theorem Gok.tell {G : List (List En)} (h : Gok G) {f t : Nat} (hf : f < G.length) (ht : t < G.length) : Gok (tell G f t):=by
 have hr:=h.ris
 have hw:=tell_whole hr hf ht
 refine ⟨fun b hb=>?_,by rw [hw]; exact h.len⟩
 have hl:=len_whole (tell_ris hr hf ht) hb
 rw [hw] at hl
 rcases List.mem_or_eq_of_mem_set hb with q | q
 ·
  exact h.ok b q
 ·
  subst q
  have h1:=h.ok _ (at0_mem ht)
  have h2:=h.ok _ (at0_mem hf)
  have j:=merge_join _ _ (ok_ris h1) (ok_ris h2)
  exact ok_mk (Nat.le_trans hl h.len) (fun e he=>by
   rcases j.mem he with q | q
   ·
    exact ok_all h1 q
   ·
    exact ok_all h2 q) j.ris
end Go.Proofs.YtgbnkkjjgodilaaGreatDoor.Bk
namespace Go.Proofs.YtgbnkkjjgodilaaGreatDoor.Mk
structure Gok (G : List (List En)) : Prop where
 ok : ∀ b ∈ G,okBk b = true
theorem Gok.tell {G : List (List En)} (h : Gok G) {f t : Nat} (hf : f < G.length) (ht : t < G.length) : Gok (tell G f t):=by
 refine ⟨fun b hb=>?_⟩
 rcases List.mem_or_eq_of_mem_set hb with q | q
 ·
  exact h.ok b q
 ·
  subst q
  have h1:=h.ok _ (at0_mem ht)
  have h2:=h.ok _ (at0_mem hf)
  exact merge_ok h1 h2 (merge_join _ _ (ok_ris h1) (ok_ris h2))
end Go.Proofs.YtgbnkkjjgodilaaGreatDoor.Mk
namespace Go.Proofs.YtgbnkkjjgodilaaGreatDoor.Rp
open Go.ChangeShapes Go.WideShapes Go.ChangeAt Go.RowKit
open Vv (Sl sv hidIt)
theorem okG_iff (L : List Rep) : okG L = true ↔ 1 ≤ L.length ∧ L.length ≤ 6 ∧ Bk.Gok (bks L) ∧ Mk.Gok (mbs L):=by
 constructor
 ·
  intro h
  obtain ⟨h1,h2,h3,h4⟩:=okG_all h
  refine ⟨h1,h2,⟨fun b hb=>?_,h4⟩,⟨fun b hb=>?_⟩⟩
  ·
   obtain ⟨r,hr,rfl⟩:=List.mem_map.1 hb
   obtain ⟨i,hi,rfl⟩:=List.mem_iff_getElem.1 hr
   have:=h3 i hi
   rw [rat_at hi] at this
   unfold okR at this
   rw [Bool.and_eq_true] at this
   exact this.1
  ·
   obtain ⟨r,hr,rfl⟩:=List.mem_map.1 hb
   obtain ⟨i,hi,rfl⟩:=List.mem_iff_getElem.1 hr
   have:=h3 i hi
   rw [rat_at hi] at this
   unfold okR at this
   rw [Bool.and_eq_true] at this
   exact this.2
 ·
  rintro ⟨h1,h2,h3,h4⟩
  refine okG_mk h1 h2 (fun i hi=>?_) h3.len
  unfold okR
  rw [Bool.and_eq_true]
  exact ⟨h3.ok _ (List.mem_map.2 ⟨_,rat_mem hi,rfl⟩),h4.ok _ (List.mem_map.2 ⟨_,rat_mem hi,rfl⟩)⟩
theorem okG_tell {L M : List Rep} {f t : Nat} (h : okG L = true) (hf : f < L.length) (ht : t < L.length) (k : TellR L M f t) : okG M = true:=by
 obtain ⟨h1,h2,h3,h4⟩:=(okG_iff L).1 h
 refine (okG_iff M).2 ⟨by rw [k.len]; exact h1,by rw [k.len]; exact h2,?_,?_⟩
 ·
  rw [k.bk]; exact h3.tell (by rw [bks_length]; exact hf) (by rw [bks_length]; exact ht)
 ·
  rw [k.mb]; exact h4.tell (by rw [mbs_length]; exact hf) (by rw [mbs_length]; exact ht)
theorem rows_inj {M M' : List Rep} (h1 : bks M = bks M') (h2 : mbs M = mbs M') : M = M':=by
 have hl : M.length = M'.length:=by rw [← bks_length M,h1,bks_length]
 refine ext_rat hl (fun i hi=>?_)
 have e1:=bks_at hi
 have e2:=mbs_at hi
 rw [h1,bks_at (by omega)] at e1
 rw [h2,mbs_at (by omega)] at e2
 exact Prod.ext (En.toB_inj e1).symm (Mm.toB_inj e2).symm
def inG (n : Nat) (f t : Int) : Prop:=0 ≤ f ∧ f < n ∧ 0 ≤ t ∧ t < n ∧ f ≠ t
structure ToldR (L : List Rep) (f t : Int) (M : List Rep) (b : Bool) : Prop where
 no : okG L = false → M = [] ∧ b = false
 out : okG L = true → ¬ inG L.length f t → M = L ∧ b = false
 yes : okG L = true → inG L.length f t → TellR L M f.toNat t.toNat ∧ b = true
theorem ToldR.mkNo {L : List Rep} {f t : Int} (ok : okG L = false) : ToldR L f t [] false:=⟨fun _=>⟨rfl,rfl⟩,(fun q=>by rw [ok] at q; cases q),(fun q=>by rw [ok] at q; cases q)⟩
theorem ToldR.mkOut {L : List Rep} {f t : Int} (ok : okG L = true) (h : ¬ inG L.length f t) : ToldR L f t L false:=⟨(fun q=>by rw [ok] at q; cases q),fun _ _=>⟨rfl,rfl⟩,fun _ q=>absurd q h⟩
theorem ToldR.mkYes {L M : List Rep} {f t : Int} (ok : okG L = true) (h : inG L.length f t) (k : TellR L M f.toNat t.toNat) : ToldR L f t M true:=⟨(fun q=>by rw [ok] at q; cases q),fun _ q=>absurd h q,fun _ _=>⟨k,rfl⟩⟩
def TolP (L : List Rep) (f t : Int) (w : World) (e : Ending) (w' : World) : Prop:=∃ v M b,e = .returned (.tuple #[v,.bool b]) ∧ ToldR L f t M b ∧ Own w' w.heap.size w'.heap.size v M ∧ Below w.heap.size w w'
theorem TolP.of {L M : List Rep} {f t : Int} {w w' : World} {e : Ending} {v : Value} {b : Bool} (h : e = .returned (.tuple #[v,.bool b])) (h1 : ToldR L f t M b) (h2 : Own w' w.heap.size w'.heap.size v M) (h3 : Below w.heap.size w w') : TolP L f t w e w':=⟨v,M,b,h,h1,h2,h3⟩
theorem TolP.out {L : List Rep} {f t : Int} {w w' : World} {e : Ending} (h : TolP L f t w e w') : ∃ v M b,e = .returned (.tuple #[v,.bool b]) ∧ ToldR L f t M b ∧ Own w' w.heap.size w'.heap.size v M ∧ Below w.heap.size w w':=h
theorem own_zero {w : World} {lo hi : Nat} {a : Option Addr} {m cap : Nat} {L : List Rep} (h : Own w lo hi (.slice a m cap) L) (hl : 0 < L.length) : ∃ g,a = some ⟨g,0,none⟩:=by
 obtain ⟨C,h⟩:=h
 obtain ⟨a',c',e',_,_,r,_,hs⟩:=h.row.form
 obtain ⟨rfl,_,_⟩:=Value.slice.inj e'
 obtain ⟨b,off,e,_⟩:=r.cell 0 (by rw [h.len]; exact hl)
 obtain ⟨g,eg,_⟩:=hs _ e
 rw [e,eg]
 exact ⟨g,rfl⟩
end Go.Proofs.YtgbnkkjjgodilaaGreatDoor.Rp
namespace Go.Proofs.YtgbnkkjjgodilaaGreatDoor.Rp
open Go.ChangeShapes Go.WideShapes Go.ChangeAt Go.RowKit
open Vv (Sl sv hidIt)
structure ArndR (L M : List Rep) : Prop where
 no : okG L = false → M = []
 bk : okG L = true → bks M = Bk.around (bks L)
 mb : okG L = true → mbs M = Mk.around (mbs L)
theorem ArndR.unique {L M M' : List Rep} (h : ArndR L M) (h' : ArndR L M') : M = M':=by
 cases ok : okG L with
 | false=>rw [h.no ok,h'.no ok]
 | true=>exact rows_inj ((h.bk ok).trans (h'.bk ok).symm) ((h.mb ok).trans (h'.mb ok).symm)
theorem ArndR.mkNo {L : List Rep} (ok : okG L = false) : ArndR L []:=⟨fun _=>rfl,(fun q=>by rw [ok] at q; cases q),(fun q=>by rw [ok] at q; cases q)⟩
theorem ArndR.mkYes {L M : List Rep} (ok : okG L = true) (h1 : bks M = Bk.around (bks L)) (h2 : mbs M = Mk.around (mbs L)) : ArndR L M:=⟨(fun q=>by rw [ok] at q; cases q),fun _=>h1,fun _=>h2⟩
def ArlP (lo g m cap : Nat) (L : List Rep) (w : World) (e : Ending) (w' : World) : Prop:=e = .returned (.tuple #[]) ∧ ∃ M,(bks M = Bk.around (bks L) ∧ mbs M = Mk.around (mbs L)) ∧ Own w' lo w'.heap.size (.slice (some ⟨g,0,none⟩) m cap) M ∧ Below lo w w'
theorem ArlP.of {lo g m cap : Nat} {L : List Rep} {w w' : World} {e : Ending} {M : List Rep} (h : e = .returned (.tuple #[])) (h1 : bks M = Bk.around (bks L)) (h2 : mbs M = Mk.around (mbs L)) (h3 : Own w' lo w'.heap.size (.slice (some ⟨g,0,none⟩) m cap) M) (h4 : Below lo w w') : ArlP lo g m cap L w e w':=⟨h,M,⟨h1,h2⟩,h3,h4⟩
theorem ArlP.out {lo g m cap : Nat} {L : List Rep} {w w' : World} {e : Ending} (h : ArlP lo g m cap L w e w') : e = .returned (.tuple #[]) ∧ ∃ M,(bks M = Bk.around (bks L) ∧ mbs M = Mk.around (mbs L)) ∧ Own w' lo w'.heap.size (.slice (some ⟨g,0,none⟩) m cap) M ∧ Below lo w w':=h
theorem spec_l13Around (lo g m cap : Nat) (L : List Rep) (w : World) (h : Own w lo w.heap.size (.slice (some ⟨g,0,none⟩) m cap) L) (ok : okG L = true) (hm : L.length = m) :
  Calls Tryz.prog 51 #[.slice (some ⟨g,0,none⟩) m cap] w fun e w'=>ArlP lo g m cap L w e w':=by
 have hall:=okG_all ok
 have h1 : 1 ≤ m:=by rw [← hm]; exact hall.1
 have h6 : m ≤ 6:=by rw [← hm]; exact hall.2.1
 have CT:=hidIt (fun (f t : Nat) (K : List Rep) W (o : Own W lo W.heap.size (.slice (some ⟨g,0,none⟩) m cap) K) (ok : okG K = true) (hk : K.length = m) hf ht=>spec_l13Tell lo g m cap f t K W o (okG_tame ok) hk hf ht)
 have HOT:=hidIt (fun (K M : List Rep) (f t : Nat) (ok : okG K = true) hf ht (k : TellR K M f t)=>okG_tell ok hf ht k)
 have HLB : Hid ((bks L).length = m):=hidIt (by rw [bks_length]; exact hm)
 have HLM : Hid ((mbs L).length = m):=hidIt (by rw [mbs_length]; exact hm)
 have HO:=hidIt h
 have HOK:=hidIt ok
 have HM:=hidIt hm
 clear h ok hm hall
 go_enter Tryz.func51,Tryz.ntmps51
 go_wp2_with (fail)
 go_loopw [2] (fun y wx=>∃ (i : Nat) (M : List Rep),y = .int .i64 i ∧ i + 1 ≤ m ∧ Hid (M.length = m) ∧ Hid (okG M = true) ∧ Hid (bks M = Bk.pass (bks L) i) ∧ Hid (mbs M = Mk.pass (mbs L) i) ∧ Hid (Own wx lo wx.heap.size (.slice (some ⟨g,0,none⟩) m cap) M) ∧ Hid (Below lo w wx)) (fun y _=>(m - intOf y).toNat)
 case atStart=>exact ⟨0,L,rfl,by omega,HM,HOK,hidIt rfl,hidIt rfl,HO,hidIt (Below.refl _ _)⟩
 case round =>
  obtain ⟨i,M,rfl,hi,hML,hMK,hB,hMb,HOx,HBx⟩:=hrel
  clear HO
  by_cases hin : i + 1 < m
  ·
   have hin' : (i : Int) + 1 < (m : Int):=by omega
   have C:=hidIt (CT.out i (i + 1) M wr HOx.out hMK.out hML.out (by omega) hin)
   rw [show ((i + 1 : Nat) : Int) = (i : Int) + 1 from by omega] at C
   go_wp2_with (fail)
   refine C.out.mono ?_
   intro e w1 hz
   obtain ⟨rfl,M',hM',o',k'⟩:=hz.out
   have HO1:=hidIt o'
   have HB1:=hidIt (HBx.out.trans k')
   have HK1:=hidIt (HOT.out M M' i (i + 1) hMK.out (by rw [hML.out]; omega) (by rw [hML.out]; omega) hM')
   have HL1 : Hid (M'.length = m):=hidIt (hM'.len.trans hML.out)
   have HE1 : Hid (bks M' = Bk.pass (bks L) (i + 1)):=hidIt (by rw [hM'.bk,hB.out,Bk.pass_succ])
   have HE2 : Hid (mbs M' = Mk.pass (mbs L) (i + 1)):=hidIt (by rw [hM'.mb,hMb.out,Mk.pass_succ])
   clear hz o' k' hM' C HOx HBx hB hMb hMK hML
   go_wp2_with (fail)
   exact ⟨⟨i + 1,M',by simp,by omega,HL1,HK1,HE1,HE2,HO1,HB1⟩,by simp [intOf]; omega⟩
  ·
   have hin' : ¬ (i : Int) + 1 < (m : Int):=by omega
   have him : Hid (i = m - 1):=hidIt (by omega)
   by_cases hm1 : 1 < m
   ·
    have hm1' : (1 : Int) < (m : Int):=by omega
    have C:=hidIt (CT.out (m - 1) 0 M wr HOx.out hMK.out hML.out (by omega) (by omega))
    rw [show ((m - 1 : Nat) : Int) = (m : Int) - 1 from by omega] at C
    simp only [Int.natCast_zero] at C
    go_wp2_with (fail)
    refine C.out.mono ?_
    intro e w1 hz
    obtain ⟨rfl,M',hM',o',k'⟩:=hz.out
    have HO1:=hidIt o'
    have HB1:=hidIt (HBx.out.trans k')
    have HK1:=hidIt (HOT.out M M' (m - 1) 0 hMK.out (by rw [hML.out]; omega) (by rw [hML.out]; omega) hM')
    have HL1 : Hid (M'.length = m):=hidIt (hM'.len.trans hML.out)
    have HE1 : Hid (bks M' = Bk.round1 (bks L)):=hidIt (by
     unfold Bk.round1
     rw [HLB.out,if_pos hm1,hM'.bk,hB.out,him.out])
    have HE2 : Hid (mbs M' = Mk.round1 (mbs L)):=hidIt (by
     unfold Mk.round1
     rw [HLM.out,if_pos hm1,hM'.mb,hMb.out,him.out])
    clear hz o' k' hM' C HOx HBx hB hMb hMK hML him
    go_wp2_with (fail)
    go_loopw [3] (fun y wx=>∃ (i : Nat) (K : List Rep),y = .int .i64 i ∧ i + 1 ≤ m ∧ Hid (K.length = m) ∧ Hid (okG K = true) ∧ Hid (bks K = Bk.pass (Bk.round1 (bks L)) i) ∧ Hid (mbs K = Mk.pass (Mk.round1 (mbs L)) i) ∧ Hid (Own wx lo wx.heap.size (.slice (some ⟨g,0,none⟩) m cap) K) ∧ Hid (Below lo w wx)) (fun y _=>(m - intOf y).toNat)
    case atStart=>exact ⟨0,M',rfl,by omega,HL1,HK1,HE1,HE2,HO1,HB1⟩
    case round =>
     obtain ⟨j,K,rfl,hj,hKL,hKK,hKB,hKM,HOk,HBk⟩:=hrel
     clear HO1 HB1 HK1 HL1 HE1 HE2
     by_cases hjn : j + 1 < m
     ·
      have hjn' : (j : Int) + 1 < (m : Int):=by omega
      have C:=hidIt (CT.out j (j + 1) K wr HOk.out hKK.out hKL.out (by omega) hjn)
      rw [show ((j + 1 : Nat) : Int) = (j : Int) + 1 from by omega] at C
      go_wp2_with (fail)
      refine C.out.mono ?_
      intro e w2 hz
      obtain ⟨rfl,K',hK',o',k'⟩:=hz.out
      have HO2:=hidIt o'
      have HB2:=hidIt (HBk.out.trans k')
      have HK2:=hidIt (HOT.out K K' j (j + 1) hKK.out (by rw [hKL.out]; omega) (by rw [hKL.out]; omega) hK')
      have HL2 : Hid (K'.length = m):=hidIt (hK'.len.trans hKL.out)
      have HE3 : Hid (bks K' = Bk.pass (Bk.round1 (bks L)) (j + 1)):=hidIt (by rw [hK'.bk,hKB.out,Bk.pass_succ])
      have HE4 : Hid (mbs K' = Mk.pass (Mk.round1 (mbs L)) (j + 1)):=hidIt (by rw [hK'.mb,hKM.out,Mk.pass_succ])
      clear hz o' k' hK' C HOk HBk hKB hKM hKK hKL
      go_wp2_with (fail)
      exact ⟨⟨j + 1,K',by simp,by omega,HL2,HK2,HE3,HE4,HO2,HB2⟩,by simp [intOf]; omega⟩
     ·
      have hjn' : ¬ (j : Int) + 1 < (m : Int):=by omega
      have hjm : Hid (j = m - 1):=hidIt (by omega)
      have E1 : Hid (bks K = Bk.around (bks L)):=hidIt (by unfold Bk.around; rw [HLB.out,hKB.out,hjm.out])
      have E2 : Hid (mbs K = Mk.around (mbs L)):=hidIt (by unfold Mk.around; rw [HLM.out,hKM.out,hjm.out])
      go_wp2_with (fail)
      refine bodyPost_end (v:=.tuple #[]) (by simp [results,Tryz.results51,go_sem]) rfl ?_
      exact ArlP.of rfl E1.out E2.out HOk.out HBk.out
   ·
    have hm1' : ¬ (1 : Int) < (m : Int):=by omega
    obtain rfl : m = 1:=by omega
    have hi0 : Hid (i = 0):=hidIt (by omega)
    have E1 : Hid (bks M = Bk.around (bks L)):=hidIt (by
     unfold Bk.around Bk.round1
     rw [HLB.out,if_neg (by omega),hB.out,hi0.out]
     rfl)
    have E2 : Hid (mbs M = Mk.around (mbs L)):=hidIt (by
     unfold Mk.around Mk.round1
     rw [HLM.out,if_neg (by omega),hMb.out,hi0.out]
     rfl)
    go_wp2_with (fail)
    go_loopw [3] (fun y wx=>y = .int .i64 0 ∧ Hid (Own wx lo wx.heap.size (.slice (some ⟨g,0,none⟩) 1 cap) M) ∧ Hid (Below lo w wx)) (fun y _=>(1 - intOf y).toNat)
    case atStart=>exact ⟨rfl,HOx,HBx⟩
    case round =>
     obtain ⟨rfl,HOk,HBk⟩:=hrel
     go_wp2_with (fail)
     refine bodyPost_end (v:=.tuple #[]) (by simp [results,Tryz.results51,go_sem]) rfl ?_
     exact ArlP.of rfl E1.out E2.out HOk.out HBk.out
def ArnP (L : List Rep) (w : World) (e : Ending) (w' : World) : Prop:=∃ M,ArndR L M ∧ LstP w M e w'
theorem ArnP.of {L M : List Rep} {w w' : World} {e : Ending} (h1 : ArndR L M) (h : LstP w M e w') : ArnP L w e w':=⟨M,h1,h⟩
theorem ArnP.out {L : List Rep} {w w' : World} {e : Ending} (h : ArnP L w e w') : ∃ M,ArndR L M ∧ LstP w M e w':=h
theorem arnd_ok {L M : List Rep} (ok : okG L = true) (h : ArndR L M) : okG M = true:=by
 have hT:=okG_tame ok
 obtain ⟨h1,h2,h3,h4⟩:=(okG_iff L).1 ok
 have e1:=h.bk ok
 have e2:=h.mb ok
 have hl : M.length = L.length:=by rw [← bks_length M,e1,Bk.around_length,bks_length]
 have hw : Bk.okBk (Bk.whole (bks L)) = true:=Bk.ok_mk h3.len (fun e he=>by
  obtain ⟨b,hb,q⟩:=Bk.whole_mem hT.bris he
  exact Bk.ok_all (h3.ok b hb) q) (Bk.whole_ris hT.bris)
 have hw' : Mk.okBk (Mk.whole (mbs L)) = true:=by
  have hall : ∀ e ∈ Mk.whole (mbs L),Mk.okE e = true:=fun e he=>by
   obtain ⟨b,hb,q⟩:=Mk.whole_mem hT.mris he
   exact Mk.ok_all (h4.ok b hb) q
  exact Mk.ok_mk (Mk.ris_short _ 0 (Mk.whole_ris hT.mris) (fun e he=>Mk.okE_key (hall e he))) hall (Mk.whole_ris hT.mris)
 refine (okG_iff M).2 ⟨by rw [hl]; exact h1,by rw [hl]; exact h2,?_,?_⟩
 ·
  rw [e1]
  refine ⟨fun b hb=>?_,by rw [Bk.around_whole hT.bris (by rw [bks_length]; exact h1)]; exact h3.len⟩
  rw [Bk.around_eq hT.bris] at hb
  rw [(List.mem_replicate.1 hb).2]
  exact hw
 ·
  rw [e2]
  refine ⟨fun b hb=>?_⟩
  rw [Mk.around_eq hT.mris] at hb
  rw [(List.mem_replicate.1 hb).2]
  exact hw'
end Go.Proofs.YtgbnkkjjgodilaaGreatDoor.Rp
namespace Go.Proofs.YtgbnkkjjgodilaaGreatDoor.Rp
open Go.ChangeShapes Go.WideShapes Go.ChangeAt Go.RowKit
open Vv (Sl sv hidIt)
open Rc (BelowBy BelowBy.one wp_region_below calls_below calls_same)
end Go.Proofs.YtgbnkkjjgodilaaGreatDoor.Rp
namespace Go.Proofs.YtgbnkkjjgodilaaGreatDoor.Rp
open Go.ChangeShapes Go.WideShapes Go.ChangeAt Go.RowKit
open Vv (Sl sv hidIt)
open Rc (BelowBy BelowBy.one wp_region_below calls_below calls_same)
end Go.Proofs.YtgbnkkjjgodilaaGreatDoor.Rp
