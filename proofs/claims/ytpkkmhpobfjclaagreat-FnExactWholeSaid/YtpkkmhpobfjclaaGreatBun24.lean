/- One Replica of the call's own: marked, looked at again; Whole of the specification. -/
import Derived.Test.YtpkkmhpobfjclaaGreatBun20
import Derived.Test.YtpkkmhpobfjclaaGreatBun23
import Derived.Test.YtpkkmhpobfjclaaGreatBun17
import Derived.Test.YtpkkmhpobfjclaaGreatBun16
import Derived.Test.YtpkkmhpobfjclaaGreatBun11
set_option maxRecDepth 100000
set_option maxHeartbeats 32000000
set_option linter.unusedVariables false
namespace Go.Proofs.YtpkkmhpobfjclaaGreat.Rp
open Go.ChangeShapes Go.WideShapes Go.ChangeAt Go.RowKit
open Vv (Sl sv hidIt)
structure Own1 (w : World) (lo hi : Nat) (s t : Sl) (r : Rep) : Prop where
 bk : En.Own w lo (sv s) r.1
 bb : ∀ g,(sv s).ownBlock = some g → g < hi
 mb : Mm.Own w lo (sv t) r.2
 bm : ∀ g,(sv t).ownBlock = some g → g < hi
 lo' : lo ≤ hi
 hi' : hi ≤ w.heap.size
theorem Own1.of {w w' : World} {s t : Sl} {r : Rep} (h1 : En.Own w' w.heap.size (sv s) r.1) (h2 : Mm.Own w' w.heap.size (sv t) r.2) (h3 : w.heap.size ≤ w'.heap.size) : Own1 w' w.heap.size w'.heap.size s t r :=
 ⟨h1,fun g hg=>(World.ownsRow.lt h1 g hg).2,h2,fun g hg=>(World.ownsRow.lt h2 g hg).2,h3,Nat.le_refl _⟩
theorem Own1.kept {w w' : World} {lo hi : Nat} {s t : Sl} {r : Rep} (h : Own1 w lo hi s t r) (k : Below w.heap.size w w') : Own1 w' lo hi s t r:=⟨h.bk.kept k,h.bb,h.mb.kept k,h.bm,h.lo',Nat.le_trans h.hi' k.size⟩
theorem Own1.apart {w w' : World} {lo hi lo' hi' : Nat} {s t : Sl} {r : Rep} (h : Own1 w lo hi s t r) (Y : OnlyIn lo' hi' w w') (hd : hi ≤ lo' ∨ hi' ≤ lo) : Own1 w' lo hi s t r:=by
 have go : ∀ (u : Value) (e s n : Nat) (xs : List Value),w.ownsRow lo e s u n xs → (∀ g,u.ownBlock = some g → g < hi) → w'.ownsRow lo e s u n xs:=fun u e s n xs hu hb =>
  row_in hu Y (fun g hg=>by have h1:=(World.ownsRow.lt hu g hg).1; have h2:=hb g hg; omega)
 exact ⟨go _ _ _ _ _ h.bk h.bb,h.bb,go _ _ _ _ _ h.mb h.bm,h.bm,h.lo',Nat.le_trans h.hi' Y.size⟩
theorem Own1.rE {w : World} {lo hi : Nat} {s t : Sl} {r : Rep} (h : Own1 w lo hi s t r) : RdE w s r.1:=rdE_of h.bk
theorem Own1.rM {w : World} {lo hi : Nat} {s t : Sl} {r : Rep} (h : Own1 w lo hi s t r) : RdM w t r.2:=rdM_of h.mb
theorem OnlyIn.from {lo hi : Nat} {a b c : World} (h : Below a.heap.size a b) (k : OnlyIn lo hi b c) : OnlyIn lo hi a c :=
 ⟨k.os.trans h.os,k.tape.trans h.tape,k.output.trans h.output,Nat.le_trans h.size k.size,fun i hi hn=>(k.block i (Nat.lt_of_lt_of_le hi h.size) hn).trans (h.block i hi)⟩
def Mk1 (lo hi : Nat) (s t : Sl) (r : Rep) (k : Nat) (w : World) (e : Ending) (w' : World) : Prop:=e = .returned (.int .i64 ((k + cost1 r : Nat) : Int)) ∧ Own1 w' lo hi s t (mark1 k r) ∧ OnlyIn lo hi w w'
theorem Mk1.out {lo hi : Nat} {s t : Sl} {r : Rep} {k : Nat} {w w' : World} {e : Ending} (h : Mk1 lo hi s t r k w e w') : e = .returned (.int .i64 ((k + cost1 r : Nat) : Int)) ∧ Own1 w' lo hi s t (mark1 k r) ∧ OnlyIn lo hi w w':=h
theorem mark1_any (lo hi : Nat) (s t : Sl) (r : Rep) (k : Nat) (w : World) (h : Own1 w lo hi s t r) (h1 : 1 ≤ k) (h2 : k + 5 * bulk1 r ≤ 1099511627776) :
  Calls Tryz.prog 11 #[.agg #[sv s,sv t],.int .i64 k] w fun e w'=>Mk1 lo hi s t r k w e w':=by
 have hbk : bulk1 r = r.1.length + r.2.length:=rfl
 have ka : Below w.heap.size w (w.alloc (.cells #[sv s,sv t] 27)):=(Below.refl w.heap.size w).alloc (Nat.le_refl _) _
 have BX:=Bo.Box.new w #[sv s,sv t] 27
 have hO:=h.kept ka
 have C1:=hidIt (En.markS_any lo (sv s) r.1 k (w.alloc (.cells #[sv s,sv t] 27)) hO.bk h1 (by omega))
 have C2:=hidIt (fun W (o : Mm.Own W lo (sv t) r.2)=>Mm.markS_any lo (sv t) r.2 (k + 5 * r.1.length) W o (by omega) (by omega))
 have hne : ∀ g,(sv s).ownBlock = some g → g ≠ w.heap.size:=fun g hg=>by have:=h.bb g hg; have:=h.hi'; omega
 have HF : Hid (∀ W1 W2,En.Own W1 lo (sv s) (En.markX k r.1.length) → Only (En.ob (w.alloc (.cells #[sv s,sv t] 27)) (sv s)) (w.alloc (.cells #[sv s,sv t] 27)) W1 → Mm.Own W2 lo (sv t) (Mm.markX (k + 5 * r.1.length) r.2.length) → Only (Mm.ob W1 (sv t)) W1 W2 → Mk1 lo hi s t r k w (.returned (.int .i64 ((k + 5 * r.1.length + 3 * r.2.length : Nat) : Int))) W2):=hidIt (fun W1 W2 o1 Y1 o2 Y2=>by
  have m1 : Mm.Own W1 lo (sv t) r.2:=row_other hO.mb hO.bk Y1 (own_apart hO.mb hO.bk (by decide))
  have q1:=ob_in (lo:=lo) (hi:=hi) hO.bk Y1 (Nat.le_refl _) hO.bb
  have q2:=ob_in (lo:=lo) (hi:=hi) m1 Y2 (Nat.le_refl _) hO.bm
  refine ⟨by unfold cost1; rw [Nat.add_assoc],⟨row_other o1 m1 Y2 (own_apart o1 m1 (by decide)),h.bb,o2,h.bm,h.lo',Nat.le_trans hO.hi' (Nat.le_trans Y1.size Y2.size)⟩,OnlyIn.from ka (q1.trans q2)⟩)
 have HM : Hid (∀ W1,Only (En.ob (w.alloc (.cells #[sv s,sv t] 27)) (sv s)) (w.alloc (.cells #[sv s,sv t] 27)) W1 → Mm.Own W1 lo (sv t) r.2 ∧ W1.cell? ⟨w.heap.size,1,none⟩ = some (sv t)):=hidIt (fun W1 Y1=>⟨row_other hO.mb hO.bk Y1 (own_apart hO.mb hO.bk (by decide)),by
  have hlt : w.heap.size < (w.alloc (.cells #[sv s,sv t] 27)).heap.size:=by simp
  have hc : w.heap.size ≠ En.ob (w.alloc (.cells #[sv s,sv t] 27)) (sv s):=by
   unfold En.ob
   cases hs : (sv s).ownBlock with
   | none=>simp
   | some g=>exact fun e=>hne g hs e.symm
  have e:=Y1.block w.heap.size hlt hc
  have:=BX.c 1 (v:=sv t) rfl
  unfold World.cell? at this ⊢
  rw [e]
  exact this⟩)
 have b0:=BX.c 0 (v:=sv s) rfl
 obtain ⟨s0,s1,s2⟩:=s
 obtain ⟨t0,t1,t2⟩:=t
 clear h hO ka BX hne
 simp only [sv] at *
 go_enter Tryz.func11,Tryz.ntmps11
 go_wp2_with (fail)
 refine C1.out.mono ?_
 rintro e w1 ⟨rfl,o1,Y1⟩
 obtain ⟨m1,c1⟩:=HM.out w1 Y1
 have H1:=hidIt o1
 have H2:=hidIt Y1
 clear o1 Y1 HM b0
 go_wp2_with (fail)
 refine (C2.out _ m1).mono ?_
 rintro e w2 ⟨rfl,o2,Y2⟩
 have H3:=hidIt (HF.out w1 w2 H1.out H2.out o2 Y2)
 clear o2 Y2
 go_wp2_with (fail)
 go_ret
 exact H3.out
theorem held1_any (s t : Sl) (r : Rep) (k : Nat) (w : World) (hE : RdE w s (mark1 k r).1) (hM : RdM w t (mark1 k r).2) (h1 : 1 ≤ k) (h2 : k + 5 * bulk1 r ≤ 1099511627776) :
  Calls Tryz.prog 12 #[.agg #[sv s,sv t],.int .i64 k] w fun e w'=>e = .returned (.int .i64 ((k + cost1 r : Nat) : Int)) ∧ Below w.heap.size w w':=by
 have hbk : bulk1 r = r.1.length + r.2.length:=rfl
 obtain ⟨s0,s1,s2⟩:=s
 obtain ⟨t0,t1,t2⟩:=t
 have ka : Below w.heap.size w (w.alloc (.cells #[sv (s0,s1,s2),sv (t0,t1,t2)] 27)):=(Below.refl w.heap.size w).alloc (Nat.le_refl _) _
 have BX:=hidIt (Bo.Box.new w #[sv (s0,s1,s2),sv (t0,t1,t2)] 27)
 have e1 : s1 = r.1.length:=hE.len.trans (En.markX_length _ _)
 have e2 : t1 = r.2.length:=hM.len.trans (Mm.markX_length _ _)
 have C1:=hidIt (fun W (h : En.Rd W s0 (En.markX k r.1.length))=>En.heldS_any s0 s2 r.1.length k W h h1 (by omega))
 have C2:=hidIt (fun W (h : Mm.Rd W t0 (Mm.markX (k + 5 * r.1.length) r.2.length))=>Mm.heldS_any t0 t2 r.2.length (k + 5 * r.1.length) W h (by omega) (by omega))
 have H1 : Hid (En.Rd w s0 (En.markX k r.1.length)):=hidIt hE.rd
 have H2 : Hid (Mm.Rd w t0 (Mm.markX (k + 5 * r.1.length) r.2.length)):=hidIt hM.rd
 have HB:=hidIt ka
 have HC : Hid (k + 5 * r.1.length + 3 * r.2.length = k + cost1 r):=hidIt (by unfold cost1; omega)
 clear hE hM ka hbk
 subst e1 e2
 generalize r.1.length = m1 at *
 generalize r.2.length = m2 at *
 generalize cost1 r = ck at *
 simp only [sv] at *
 have n1 : ¬ ((k + 5 * m1 : Nat) : Int) < 0:=by omega
 have n2 : ¬ ((k + 5 * m1 + 3 * m2 : Nat) : Int) < 0:=by omega
 go_enter Tryz.func12,Tryz.ntmps12
 go_wp2_with (fail)
 refine (C1.out _ (H1.out.kept HB.out)).mono ?_
 rintro e w1 ⟨rfl,k1⟩
 have c1:=(BX.out.kept k1).c 1 (v:=.slice t0 m2 t2) rfl
 have HB1:=hidIt (on HB.out k1)
 clear k1
 go_wp2_with (fail)
 refine (C2.out _ (H2.out.kept HB1.out)).mono ?_
 rintro e w2 ⟨rfl,k2⟩
 have HB2:=hidIt (on HB1.out k2)
 clear k2
 go_wp2_with (fail)
 go_ret
 have e : (k : Int) + 5 * m1 + 3 * m2 = ((k + ck : Nat) : Int):=by have:=HC.out; omega
 refine ⟨?_,HB2.out⟩
 show Ending.returned (.int .i64 ((k : Int) + 5 * m1 + 3 * m2)) = _
 rw [e]
def WhlP (L : List Rep) (w : World) (e : Ending) (w' : World) : Prop:=∃ J : Rep,TwoP w J e w' ∧ WhlR L J
theorem WhlP.out {L : List Rep} {w w' : World} {e : Ending} (h : WhlP L w e w') : ∃ J : Rep,TwoP w J e w' ∧ WhlR L J:=h
theorem spec_Whole (a : Option Addr) (cap : Nat) (L : List Rep) (w : World) (h : Rd w a L) (hs : Short L) (hl : L.length ≤ 9223372036854775807) (hlb : ∀ i,i < L.length → (rat L i).1.length ≤ 9223372036854775807 ∧ (rat L i).2.length ≤ 9223372036854775807) :
  Calls Tryz.prog 5 #[.slice a L.length cap] w fun e w'=>WhlP L w e w':=by
 have ka : Below w.heap.size w (w.alloc (.cells #[.slice none 0 0,.slice none 0 0] 27)):=(Below.refl w.heap.size w).alloc (Nat.le_refl _) _
 have BX:=hidIt (Bo.Box.new w #[.slice none 0 0,.slice none 0 0] 27)
 have CG:=hidIt (spec_GroupOk a cap L (w.alloc (.cells #[.slice none 0 0,.slice none 0 0] 27)) (h.kept ka) hs hl hlb)
 have HB:=hidIt ka
 have HR:=hidIt h
 clear ka h
 cases ok : okG L with
 | false =>
  rw [ok] at CG
  have HE : Hid (WhlR L ([],[])):=hidIt ⟨fun _=>rfl,(fun q=>by rw [ok] at q; cases q),(fun q=>by rw [ok] at q; cases q)⟩
  go_enter Tryz.func5,Tryz.ntmps5
  go_wp2_with (fail)
  refine CG.out.mono ?_
  rintro e w1 ⟨rfl,k1⟩
  have HB1:=hidIt (on HB.out k1)
  have b1:=BX.out.kept k1
  have c0:=b1.c 0 rfl
  have f0:=b1.fr 0
  have b2:=b1.put 0 (.slice none 0 0) (by simp) rfl
  have c1:=b2.c 1 rfl
  have f1:=b2.fr 1
  have b3:=b2.put 1 (.slice none 0 0) (by simp) rfl
  have r0:=b3.c 0 rfl
  have r1:=b3.c 1 rfl
  clear k1 b1 b2 b3
  go_wp2_with (fail)
  refine bodyPost_ret (v:=.agg #[.slice none 0 0,.slice none 0 0]) (by simp [results,Tryz.results5,go_sem,r0,r1]) rfl ?_
  exact ⟨([],[]),⟨(none,0,0),(none,0,0),rfl,⟨rfl,.inl ⟨rfl,rfl⟩⟩,⟨rfl,.inl ⟨rfl,rfl⟩⟩,(HB1.out.setCell (p:=⟨w.heap.size,0,none⟩) (Nat.le_refl _) _).setCell (p:=⟨w.heap.size,1,none⟩) (Nat.le_refl _) _⟩,HE.out⟩
 | true =>
  rw [ok] at CG
  have CW:=hidIt (fun W (h : Rd W a L)=>spec_l13Whole a cap L W h (okG_tame ok))
  have HE : Hid (∀ J : Rep,En.toB J.1 = Bk.whole (bks L) → Mm.toB J.2 = Mk.whole (mbs L) → WhlR L J):=hidIt (fun J h1 h2=>⟨(fun q=>by rw [ok] at q; cases q),fun _=>h1,fun _=>h2⟩)
  go_enter Tryz.func5,Tryz.ntmps5
  go_wp2_with (fail)
  refine CG.out.mono ?_
  rintro e w1 ⟨rfl,k1⟩
  have HB1:=hidIt (on HB.out k1)
  have BX1:=hidIt (BX.out.kept k1)
  clear k1
  go_wp2_with (fail)
  refine (CW.out _ (HR.out.kept HB1.out)).mono ?_
  intro e w2 hz
  obtain ⟨J,ht,h1,h2⟩:=hz.out
  obtain ⟨⟨x0,x1,x2⟩,⟨y0,y1,y2⟩,rfl,oE,oM,k2⟩:=ht.out
  clear hz ht
  have HB2:=hidIt (on HB1.out k2)
  have b1:=BX1.out.kept k2
  have c0:=b1.c 0 rfl
  have f0:=b1.fr 0
  have b2:=b1.put 0 (.slice x0 x1 x2) (by simp) rfl
  have c1:=b2.c 1 rfl
  have f1:=b2.fr 1
  have b3:=b2.put 1 (.slice y0 y1 y2) (by simp) rfl
  have r0:=b3.c 0 rfl
  have r1:=b3.c 1 rfl
  have HO1:=hidIt oE
  have HO2:=hidIt oM
  have HJ:=hidIt (HE.out J h1 h2)
  have hsz:=HB1.out.size
  have hsz0 : w.heap.size + 1 ≤ w1.heap.size:=by have:=BX1.out.lt; omega
  clear k2 b1 b2 b3 oE oM h1 h2 HE
  simp only [sv]
  go_wp2_with (fail)
  refine bodyPost_ret (v:=.agg #[.slice x0 x1 x2,.slice y0 y1 y2]) (by simp [results,Tryz.results5,go_sem,r0,r1]) rfl ?_
  have k : Only w.heap.size w2 ((w2.setCell ⟨w.heap.size,0,none⟩ (.slice x0 x1 x2)).setCell ⟨w.heap.size,1,none⟩ (.slice y0 y1 y2)):=((Only.refl w.heap.size w2).setCell 0 _).setCell 1 _
  exact ⟨J,⟨(x0,x1,x2),(y0,y1,y2),rfl,(HO1.out.only k (.inl (by omega))).mono (by omega),(HO2.out.only k (.inl (by omega))).mono (by omega),(HB2.out.setCell (p:=⟨w.heap.size,0,none⟩) (Nat.le_refl _) _).setCell (p:=⟨w.heap.size,1,none⟩) (Nat.le_refl _) _⟩,HJ.out⟩
end Go.Proofs.YtpkkmhpobfjclaaGreat.Rp
namespace Go.Proofs.YtpkkmhpobfjclaaGreat.Bk
end Go.Proofs.YtpkkmhpobfjclaaGreat.Bk
namespace Go.Proofs.YtpkkmhpobfjclaaGreat.Mk
end Go.Proofs.YtpkkmhpobfjclaaGreat.Mk
namespace Go.Proofs.YtpkkmhpobfjclaaGreat.Rp
open Go.ChangeShapes Go.WideShapes Go.ChangeAt Go.RowKit
open Vv (Sl sv hidIt)
theorem okR_short {r : Rep} (h : okR r = true) : ∀ j,j < r.1.length → (En.rat r.1 j).1.size ≤ 9223372036854775807 ∧ (En.rat r.1 j).2.1.size ≤ 9223372036854775807:=by
 intro j hj
 unfold okR at h
 rw [Bool.and_eq_true] at h
 have hm : En.toE (En.rat r.1 j) ∈ En.toB r.1:=List.mem_map.2 ⟨_,En.rat_mem hj,rfl⟩
 have ho:=Bk.ok_all h.1 hm
 unfold Bk.okE at ho
 simp only [Bool.and_eq_true,decide_eq_true_eq] at ho
 have e1 : (En.toE (En.rat r.1 j)).key.length = (En.rat r.1 j).1.size:=En.bs_length _
 have e2 : (En.toE (En.rat r.1 j)).value.length = (En.rat r.1 j).2.1.size:=En.bs_length _
 omega
end Go.Proofs.YtpkkmhpobfjclaaGreat.Rp
namespace Go.Proofs.YtpkkmhpobfjclaaGreat.Rp
open Go.ChangeShapes Go.WideShapes Go.ChangeAt Go.RowKit
open Vv (Sl sv hidIt)
section
variable {w : World} {t : Go.Proofs.YtpkkmhpobfjclaaGreat.Nf.Tp} {d : Nat}
theorem RdE.tape {s : Sl} {L : List En.Rw} (h : RdE w s L) : RdE (Go.Proofs.YtpkkmhpobfjclaaGreat.Nf.on w t d) s L:=⟨h.len,⟨h.rd.cell⟩,h.na,h.le,h.cap⟩
theorem RdM.tape {s : Sl} {L : List Mm.Rw} (h : RdM w s L) : RdM (Go.Proofs.YtpkkmhpobfjclaaGreat.Nf.on w t d) s L:=⟨h.len,⟨h.rd.cell⟩,h.na,h.le,h.cap⟩
theorem Rd.tape {a : Option Addr} {L : List Rep} (h : Rd w a L) : Rd (Go.Proofs.YtpkkmhpobfjclaaGreat.Nf.on w t d) a L:=by
 obtain ⟨C,h⟩:=h
 exact ⟨C,h.len,⟨h.row.cell⟩,fun i hi=>(h.bk i hi).tape,fun i hi=>(h.mb i hi).tape⟩
theorem ownE_tape {n : Nat} {v : Value} {L : List En.Rw} (h : En.Own w n v L) : En.Own (Go.Proofs.YtpkkmhpobfjclaaGreat.Nf.on w t d) n v L:=h
theorem ownM_tape {n : Nat} {v : Value} {L : List Mm.Rw} (h : Mm.Own w n v L) : Mm.Own (Go.Proofs.YtpkkmhpobfjclaaGreat.Nf.on w t d) n v L:=h
theorem Own.tape {lo hi : Nat} {v : Value} {L : List Rep} (h : Own w lo hi v L) : Own (Go.Proofs.YtpkkmhpobfjclaaGreat.Nf.on w t d) lo hi v L:=by
 obtain ⟨C,h⟩:=h
 exact ⟨C,h.len,h.row,h.blk,h.bk,h.bb,h.mb,h.bm,h.db,h.dm,h.hi',h.lo'⟩
variable {x : World}
theorem Rd.bel {a : Option Addr} {L : List Rep} (h : Rd w a L) (k : Go.Proofs.YtpkkmhpobfjclaaGreat.Nf.Bel w.heap.size w x) : Rd x a L:=(h.tape (t:=x.tape) (d:=0)).kept (k.below x.tape 0 x.drawn)
theorem RdC.bel {a : Option Addr} {C : List Vv.Rw} {L : List Rep} (h : RdC w a C L) (k : Go.Proofs.YtpkkmhpobfjclaaGreat.Nf.Bel w.heap.size w x) : RdC x a C L :=
 (show RdC (Go.Proofs.YtpkkmhpobfjclaaGreat.Nf.on w x.tape 0) a C L from ⟨h.len,⟨h.row.cell⟩,fun i hi=>(h.bk i hi).tape,fun i hi=>(h.mb i hi).tape⟩).kept (k.below x.tape 0 x.drawn)
theorem ownE_bel {n : Nat} {v : Value} {L : List En.Rw} (h : En.Own w n v L) (k : Go.Proofs.YtpkkmhpobfjclaaGreat.Nf.Bel w.heap.size w x) : En.Own x n v L:=(ownE_tape (t:=x.tape) (d:=0) h).kept (k.below x.tape 0 x.drawn)
theorem ownM_bel {n : Nat} {v : Value} {L : List Mm.Rw} (h : Mm.Own w n v L) (k : Go.Proofs.YtpkkmhpobfjclaaGreat.Nf.Bel w.heap.size w x) : Mm.Own x n v L:=(ownM_tape (t:=x.tape) (d:=0) h).kept (k.below x.tape 0 x.drawn)
theorem Own.bel {lo hi : Nat} {v : Value} {L : List Rep} (h : Own w lo hi v L) (k : Go.Proofs.YtpkkmhpobfjclaaGreat.Nf.Bel w.heap.size w x) : Own x lo hi v L:=(h.tape (t:=x.tape) (d:=0)).kept (k.below x.tape 0 x.drawn)
theorem box_tape {b : Nat} {c : Array Value} (h : Bo.Box w b c) : Bo.Box (Go.Proofs.YtpkkmhpobfjclaaGreat.Nf.on w t d) b c:=⟨h.lt,h.at',h.fr⟩
theorem box_bel {b : Nat} {c : Array Value} (h : Bo.Box w b c) (k : Go.Proofs.YtpkkmhpobfjclaaGreat.Nf.Bel w.heap.size w x) : Bo.Box x b c:=(box_tape (t:=x.tape) (d:=0) h).kept (k.below x.tape 0 x.drawn)
theorem bel_from {n : Nat} (h : Below n (Go.Proofs.YtpkkmhpobfjclaaGreat.Nf.on w t d) x) : Go.Proofs.YtpkkmhpobfjclaaGreat.Nf.Bel n w x:=⟨h.os,h.output,h.size,h.block⟩
end
end Go.Proofs.YtpkkmhpobfjclaaGreat.Rp
namespace Go.Proofs.YtpkkmhpobfjclaaGreat.Sd
open Go Go.Conc Go.RowKit
open Nf (Stand Bel Here Pz cutN restN EndQ HasEnd)
section
variable {a : Act} {o : Oper} {w : World}
theorem run_load {x : Operand} (hop : o.op = .load 27 x) {c q : Nat} {u v : Value} (hx : a.eval x = .pointer (some ⟨c,q,none⟩)) (h0 : w.cell? ⟨c,q,none⟩ = some u) (h1 : w.cell? ⟨c,q + 1,none⟩ = some v) : (execOp a.eval o).run Tryz.prog w = .ok (.value (.agg #[u,v])) w:=by
 unfold execOp
 simp only [hop,hx]
 simp [go_sem,h0,h1]
theorem run_store {x y : Operand} (hop : o.op = .store 27 x y) {c : Nat} {u v : Value} {C : Array Value} (hx : a.eval x = .pointer (some ⟨c,0,none⟩)) (hy : a.eval y = .agg #[u,v]) (hu : ∃ p l q,u = .slice p l q) (hv : ∃ p l q,v = .slice p l q) (hb : Bo.Box w c C) (hC : C.size = 2) :
  (execOp a.eval o).run Tryz.prog w = .ok .skip ((w.setCell ⟨c,0,none⟩ u).setCell ⟨c,1,none⟩ v):=by
 obtain ⟨p,l,q,rfl⟩:=hu
 obtain ⟨p',l',q',rfl⟩:=hv
 have h0:=hb.c 0 (Array.getElem?_eq_getElem (show 0 < C.size by omega))
 have hb2:=hb.put 0 (.slice p l q) (by omega) rfl
 have h2:=hb2.c 1 (Array.getElem?_eq_getElem (show 1 < (C.setIfInBounds 0 (.slice p l q)).size by simp; omega))
 have f0:=hb.fr 0
 have f2:=hb2.fr 1
 unfold execOp
 simp only [hop,hx,hy]
 simp [go_sem,stored,h0,f0,h2,f2]
end
theorem enter_said (lb lo n cap : Nat) : Frame.enter Tryz.prog 18 #[.slice (some ⟨lb,lo,none⟩) n cap] .normal = b18.at ⟨sl0 lb lo n cap,[]⟩ [.code body18]:=by
 rw [enter_at (fn:=Tryz.f18) (c:=body18) _ Tryz.func18 rfl]
 unfold sl0
 simp only [Tryz.ntmps18,List.size_toArray,List.length_cons,List.length_nil,Nat.reduceAdd,Nat.reduceSub,Array.replicate_succ,Array.replicate_zero,List.push_toArray,List.append_toArray,List.nil_append,List.cons_append]
theorem stand_said [Go.ConcR.Payload] {m0 : Machine} {B : Nat → Prop} {lb lo n cap : Nat} {xs ys : Nat → Value} {b₀ : Frame} {a₀ : Act} {ops : Array Oper} {i : Nat} {rest : List Nat} {k : List Item} {cs : List Frame} {v : World} (hn : n < 1000000) (h0 : 0 < n)
  (h : Stand Tryz.prog m0 B (G (Frame.enter Tryz.prog 18 #[.slice (some ⟨lb,lo,none⟩) n cap] .normal) (b₀.at a₀ (.inRegion ops (i :: rest) :: k) :: cs)) v)
  (hx : ∀ j,j < n → v.cell? ⟨lb,lo + j * 2,none⟩ = some (xs j)) (hy : ∀ j,j < n → v.cell? ⟨lb,lo + j * 2 + 1,none⟩ = some (ys j))
  (hxs : ∀ j,j < n → ∃ p l q,xs j = .slice p l q) (hys : ∀ j,j < n → ∃ p l q,ys j = .slice p l q) :
  ∃ (v' : World) (B' : Nat → Prop) (l : List Nat) (tm : Bool),Stand Tryz.prog m0 B' (G (b₀.at (a₀.put ((ops[i]?).bind (·.dst)) (.chan (some v.heap.size))) (.inRegion ops rest :: k)) cs) v' ∧
   v'.heap[v.heap.size]? = some (.chan n (l.map fun j=>rep (xs j) (ys j)).toArray true l.length 0 tm) ∧ l.Perm (List.range n) ∧ Bel v.heap.size v v' ∧ ∀ b,B' b → B b ∨ v.heap.size ≤ b:=by
 obtain ⟨w,h,hz⟩:=h
 rw [enter_said] at h
 obtain ⟨w',v',B',l,tm,h1,h2,h3,h4,h5,h6⟩:=here_said hn h0 h hz hx hy hxs hys
 exact ⟨v',B',l,tm,⟨w',h1,h2⟩,h3,h4,h5,h6⟩
end Go.Proofs.YtpkkmhpobfjclaaGreat.Sd
namespace Go.Proofs.YtpkkmhpobfjclaaGreat.Bk
theorem part_ris {G G' : List (List En)} (h : AllRis G) (hs : ∀ b ∈ G',b ∈ G) : AllRis G':=fun b hb=>h b (hs b hb)
theorem part_len {G G' : List (List En)} (h : AllRis G) (hs : ∀ b ∈ G',b ∈ G) : (whole G').length ≤ (whole G).length :=
 sub_len _ _ (whole_ris (part_ris h hs)) (whole_ris h) (fun k hk=>by
  have t:=whole_top h k
  rw [hk] at t
  rcases (whole_top (part_ris h hs) k).mem with q | ⟨b,hb,q⟩
  ·
   exact q
  ·
   rw [← q]; exact t.none_of (hs b hb))
theorem perm_whole {G G' : List (List En)} (h : AllRis G) (hs : ∀ b,b ∈ G' ↔ b ∈ G) : whole G' = whole G :=
 whole_of (part_ris h (fun b hb=>(hs b).1 hb)) (whole_ris h) (fun k=>⟨(whole_top h k).key,fun b hb=>(whole_top h k).ub b ((hs b).1 hb),(whole_top h k).mem.imp id (fun ⟨b,hb,q⟩=>⟨b,(hs b).2 hb,q⟩)⟩)
theorem part_ok {G G' : List (List En)} (h : Gok G) (hs : ∀ b ∈ G',b ∈ G) : okBk (whole G') = true :=
 ok_mk (Nat.le_trans (part_len h.ris hs) h.len) (fun e he=>by
  obtain ⟨b,hb,hm⟩:=whole_mem (part_ris h.ris hs) he
  exact ok_all (h.ok b (hs b hb)) hm) (whole_ris (part_ris h.ris hs))
end Go.Proofs.YtpkkmhpobfjclaaGreat.Bk
namespace Go.Proofs.YtpkkmhpobfjclaaGreat.Mk
theorem part_ris {G G' : List (List En)} (h : AllRis G) (hs : ∀ b ∈ G',b ∈ G) : AllRis G':=fun b hb=>h b (hs b hb)
theorem perm_whole {G G' : List (List En)} (h : AllRis G) (hs : ∀ b,b ∈ G' ↔ b ∈ G) : whole G' = whole G :=
 whole_of (part_ris h (fun b hb=>(hs b).1 hb)) (whole_ris h) (fun k=>⟨(whole_top h k).key,fun b hb=>(whole_top h k).ub b ((hs b).1 hb),(whole_top h k).mem.imp id (fun ⟨b,hb,q⟩=>⟨b,(hs b).2 hb,q⟩)⟩)
theorem fold_ok : ∀ (G : List (List En)) (A : List En),okBk A = true → (∀ b ∈ G,okBk b = true) → okBk (G.foldl mergeE A) = true
 | [],A,hA,_=>hA
 | b :: G,A,hA,hG=>by
  have hb:=hG b (List.mem_cons_self ..)
  exact fold_ok G (mergeE A b) (merge_ok hA hb (merge_join _ _ (ok_ris hA) (ok_ris hb))) (fun c hc=>hG c (List.mem_cons_of_mem _ hc))
theorem part_ok {G G' : List (List En)} (h : Gok G) (hs : ∀ b ∈ G',b ∈ G) : okBk (whole G') = true:=fold_ok G' [] (by decide) (fun b hb=>h.ok b (hs b hb))
end Go.Proofs.YtpkkmhpobfjclaaGreat.Mk
namespace Go.Proofs.YtpkkmhpobfjclaaGreat.Rp
def taken (L : List Rep) (l : List Nat) : List Rep:=l.map (rat L)
structure Acc (L : List Rep) (l : List Nat) (J : Rep) : Prop where
 bk : En.toB J.1 = Bk.whole (bks (taken L l))
 mb : Mm.toB J.2 = Mk.whole (mbs (taken L l))
theorem Acc.nil (L : List Rep) : Acc L [] ([],[]):=⟨rfl,rfl⟩
theorem taken_bks {L : List Rep} {l : List Nat} (hl : ∀ i ∈ l,i < L.length) : ∀ b ∈ bks (taken L l),b ∈ bks L:=by
 intro b hb
 obtain ⟨r,hr,rfl⟩:=List.mem_map.1 hb
 obtain ⟨i,hi,rfl⟩:=List.mem_map.1 hr
 exact List.mem_map.2 ⟨_,rat_mem (hl i hi),rfl⟩
theorem taken_mbs {L : List Rep} {l : List Nat} (hl : ∀ i ∈ l,i < L.length) : ∀ b ∈ mbs (taken L l),b ∈ mbs L:=by
 intro b hb
 obtain ⟨r,hr,rfl⟩:=List.mem_map.1 hb
 obtain ⟨i,hi,rfl⟩:=List.mem_map.1 hr
 exact List.mem_map.2 ⟨_,rat_mem (hl i hi),rfl⟩
theorem Acc.ok {L : List Rep} {l : List Nat} {J : Rep} (h : Acc L l J) (ok : okG L = true) (hl : ∀ i ∈ l,i < L.length) : okR J = true:=by
 obtain ⟨_,_,h3,h4⟩:=(okG_iff L).1 ok
 unfold okR
 rw [h.bk,h.mb,Bk.part_ok h3 (taken_bks hl),Mk.part_ok h4 (taken_mbs hl)]
 rfl
theorem taken_snoc (L : List Rep) (l : List Nat) (i : Nat) : taken L (l ++ [i]) = taken L l ++ [rat L i]:=by simp [taken]
theorem Acc.step {L : List Rep} {l : List Nat} {J J' : Rep} {i : Nat} (h : Acc L l J) (h1 : En.toB J'.1 = Bk.mergeE (En.toB J.1) (En.toB (rat L i).1)) (h2 : Mm.toB J'.2 = Mk.mergeE (Mm.toB J.2) (Mm.toB (rat L i).2)) : Acc L (l ++ [i]) J':=by
 refine ⟨?_,?_⟩
 ·
  rw [taken_snoc,h1,h.bk]
  unfold bks
  rw [List.map_append,List.map_singleton,Bk.whole_snoc]
 ·
  rw [taken_snoc,h2,h.mb]
  unfold mbs
  rw [List.map_append,List.map_singleton,Mk.whole_snoc]
theorem Acc.len {L : List Rep} {l : List Nat} {J : Rep} {i : Nat} (h : Acc L l J) (ok : okG L = true) (hl : ∀ i ∈ l,i < L.length) (hi : i < L.length) : (Bk.mergeE (En.toB J.1) (En.toB (rat L i).1)).length ≤ 80:=by
 obtain ⟨_,_,h3,h4⟩:=(okG_iff L).1 ok
 have e : Bk.mergeE (En.toB J.1) (En.toB (rat L i).1) = Bk.whole (bks (taken L (l ++ [i]))):=by
  rw [taken_snoc,h.bk]
  unfold bks
  rw [List.map_append,List.map_singleton,Bk.whole_snoc]
 rw [e]
 exact Nat.le_trans (Bk.part_len h3.ris (taken_bks (fun j hj=>by
  rcases List.mem_append.1 hj with q | q
  ·
   exact hl j q
  ·
   rw [List.mem_singleton.1 q]; exact hi))) h3.len
theorem Acc.whl {L : List Rep} {l : List Nat} {J : Rep} (h : Acc L l J) (ok : okG L = true) (hp : l.Perm (List.range L.length)) : WhlR L J:=by
 obtain ⟨_,_,h3,h4⟩:=(okG_iff L).1 ok
 have hm : ∀ i,i ∈ l ↔ i < L.length:=fun i=>by rw [hp.mem_iff,List.mem_range]
 have hr : ∀ r,r ∈ taken L l ↔ r ∈ L:=fun r=>by
  constructor
  ·
   intro q
   obtain ⟨i,hi,rfl⟩:=List.mem_map.1 q
   exact rat_mem ((hm i).1 hi)
  ·
   intro q
   obtain ⟨i,hi,rfl⟩:=List.mem_iff_getElem.1 q
   exact List.mem_map.2 ⟨i,(hm i).2 hi,rat_at hi⟩
 refine ⟨(fun q=>by rw [ok] at q; cases q),fun _=>?_,fun _=>?_⟩
 ·
  rw [h.bk]
  refine Bk.perm_whole h3.ris (fun b=>?_)
  unfold bks
  simp only [List.mem_map]
  exact exists_congr (fun r=>and_congr (hr r) Iff.rfl)
 ·
  rw [h.mb]
  refine Mk.perm_whole h4.ris (fun b=>?_)
  unfold mbs
  simp only [List.mem_map]
  exact exists_congr (fun r=>and_congr (hr r) Iff.rfl)
end Go.Proofs.YtpkkmhpobfjclaaGreat.Rp
namespace Go.Proofs.YtpkkmhpobfjclaaGreat.Sd
open Go Go.Conc Go.ChangeShapes Go.WideShapes Go.ChangeAt Go.RowKit
open Nf (Stand Bel Pz cutN restN EndQ HasEnd on)
open Bo (Box)
open Vv (Sl sv hidIt)
def body7 (fz : Func:=Tryz.f7) : Code:=fz.body.getD .skip
def nil2 : Array Value:=#[.slice none 0 0,.slice none 0 0]
def W0F (a : Option Addr) (m cap : Nat) (v : World) (T : Array Value) (x : World) : Prop :=
 ∃ u : Nat → Value,T = #[.slice a m cap,u 1,.pointer (some ⟨v.heap.size,0,none⟩),.pointer (some ⟨v.heap.size + 1,0,none⟩),u 4,u 5,u 6,u 7,u 8,u 9,u 10,u 11,u 12,u 13,u 14,u 15,u 16,u 17,u 18] ∧ Bel v.heap.size v x ∧ x.heap.size = v.heap.size + 2 ∧ Box x v.heap.size nil2 ∧ Box x (v.heap.size + 1) nil2
theorem W0F.tape {a : Option Addr} {m cap : Nat} {v : World} : ∀ (T : Array Value) (x : World) (t : Go.Proofs.YtpkkmhpobfjclaaGreat.Nf.Tp) (d : Nat),W0F a m cap v T x → W0F a m cap v T (on x t d) :=
 fun T x t d ⟨u,h1,h2,h3,h4,h5⟩=>⟨u,h1,h2.on v.tape t v.drawn d,h3,Rp.box_tape h4,Rp.box_tape h5⟩
theorem whole_p0 (a : Option Addr) (m cap : Nat) (v : World) (t : Go.Proofs.YtpkkmhpobfjclaaGreat.Nf.Tp) (d : Nat) : (cutN 2 body7).wp Tryz.prog (EndQ false (W0F a m cap v)) ⟨#[.slice a m cap,undef,undef,undef,undef,undef,undef,undef,undef,undef,undef,undef,undef,undef,undef,undef,undef,undef,undef],[]⟩ (on v t d):=by
 simp only [body7,cutN,Tryz.f7,Option.getD_some]
 go_wp2_with (fail)
 exact ⟨rfl,rfl,fun i=>if i = 5 then .agg nil2 else undef,rfl,(Bel.of (((Below.refl v.heap.size v).alloc (Nat.le_refl _) _).alloc (by simp) _)).on v.tape t v.drawn d,by simp [on],Rp.box_tape (w:=(v.alloc (.cells nil2 27)).alloc (.cells nil2 27)) ((Box.new v nil2 _).alloc _),Rp.box_tape (w:=(v.alloc (.cells nil2 27)).alloc (.cells nil2 27)) (Box.newAt (by simp))⟩
theorem enter_whole (a : Option Addr) (m cap : Nat) : Frame.enter Tryz.prog 7 #[.slice a m cap] .normal = (base 7).at ⟨#[.slice a m cap,undef,undef,undef,undef,undef,undef,undef,undef,undef,undef,undef,undef,undef,undef,undef,undef,undef,undef],[]⟩ [.code body7]:=by
 rw [enter_at (fn:=Tryz.f7) (c:=body7) _ Tryz.func7 rfl]
 simp only [Tryz.ntmps7,List.size_toArray,List.length_cons,List.length_nil,Nat.reduceAdd,Nat.reduceSub,Array.replicate_succ,Array.replicate_zero,List.push_toArray,List.append_toArray,List.nil_append,List.cons_append]
theorem init7 : Tryz.prog.inits.idxOf? 7 = none:=by kernel_rfl
theorem code7a : Go.Proofs.YtpkkmhpobfjclaaGreat.Nf.codeB K Tryz.prog 7 (cutN 2 body7) = true:=by kernel_rfl
end Go.Proofs.YtpkkmhpobfjclaaGreat.Sd
