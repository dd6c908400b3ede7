/- Around of the program, and all that the laws of chapter 13 take of it. (Written by wip/mkArnd.py.) -/
import Derived.Test.YtkeapmmochpcfaaGreatBun24
import Derived.Test.YtkeapmmochpcfaaGreatBokD
import Derived.Test.YtkeapmmochpcfaaGreatBun16
import Derived.Test.YtkeapmmochpcfaaGreatBun3
import Derived.Test.YtkeapmmochpcfaaGreatBun18
import Derived.Test.YtkeapmmochpcfaaGreatBun17
import Derived.Test.YtkeapmmochpcfaaGreatBun12
set_option maxRecDepth 100000
set_option maxHeartbeats 32000000
set_option linter.unusedVariables false
namespace Go.Proofs.YtkeapmmochpcfaaGreat.Bk
def st (G : List (List En)) (k : Nat) : List (List En):=if k < G.length then pass G k else pass (round1 G) (k - G.length)
theorem st_zero {G : List (List En)} (h : 0 < G.length) : st G 0 = G:=by unfold st; rw [if_pos h]; rfl
theorem st_last {G : List (List En)} (h : 0 < G.length) : st G (2 * G.length - 1) = around G:=by
 unfold st around
 by_cases q : 2 * G.length - 1 < G.length
 ·
  omega
 ·
  rw [if_neg q,show 2 * G.length - 1 - G.length = G.length - 1 by omega]
theorem st_one {G : List (List En)} (h : G.length = 1) : st G 1 = G:=by
 unfold st
 rw [if_neg (by omega),h]
 show pass (round1 G) 0 = G
 show round1 G = G
 unfold round1
 rw [if_neg (by omega),h]
 rfl
theorem st_step {G : List (List En)} {k n : Nat} (hn : G.length = n) (h1 : 1 < n) (hk : k + 1 < 2 * n) : st G (k + 1) = tell (st G k) (k % n) ((k + 1) % n):=by
 subst hn
 unfold st
 by_cases q : k + 1 < G.length
 ·
  rw [if_pos q,if_pos (by omega),pass_succ,Nat.mod_eq_of_lt (by omega),Nat.mod_eq_of_lt q]
 ·
  by_cases q2 : k + 1 = G.length
  ·
   rw [if_neg q,if_pos (by omega),q2,Nat.mod_self,Nat.sub_self,Nat.mod_eq_of_lt (by omega)]
   show round1 G = _
   unfold round1
   rw [if_pos h1,show G.length - 1 = k by omega]
  ·
   rw [if_neg q,if_neg (by omega),show k + 1 - G.length = (k - G.length) + 1 by omega,pass_succ,Nat.mod_eq_sub_mod (a:=k) (by omega),Nat.mod_eq_sub_mod (a:=k + 1) (by omega),Nat.mod_eq_of_lt (a:=k - G.length) (by omega),Nat.mod_eq_of_lt (a:=k + 1 - G.length) (by omega),show k + 1 - G.length = (k - G.length) + 1 by omega]
end Go.Proofs.YtkeapmmochpcfaaGreat.Bk
namespace Go.Proofs.YtkeapmmochpcfaaGreat.Mk
def st (G : List (List En)) (k : Nat) : List (List En):=if k < G.length then pass G k else pass (round1 G) (k - G.length)
theorem st_zero {G : List (List En)} (h : 0 < G.length) : st G 0 = G:=by unfold st; rw [if_pos h]; rfl
theorem st_last {G : List (List En)} (h : 0 < G.length) : st G (2 * G.length - 1) = around G:=by
 unfold st around
 by_cases q : 2 * G.length - 1 < G.length
 ·
  omega
 ·
  rw [if_neg q,show 2 * G.length - 1 - G.length = G.length - 1 by omega]
theorem st_one {G : List (List En)} (h : G.length = 1) : st G 1 = G:=by
 unfold st
 rw [if_neg (by omega),h]
 show pass (round1 G) 0 = G
 show round1 G = G
 unfold round1
 rw [if_neg (by omega),h]
 rfl
theorem st_step {G : List (List En)} {k n : Nat} (hn : G.length = n) (h1 : 1 < n) (hk : k + 1 < 2 * n) : st G (k + 1) = tell (st G k) (k % n) ((k + 1) % n):=by
 subst hn
 unfold st
 by_cases q : k + 1 < G.length
 ·
  rw [if_pos q,if_pos (by omega),pass_succ,Nat.mod_eq_of_lt (by omega),Nat.mod_eq_of_lt q]
 ·
  by_cases q2 : k + 1 = G.length
  ·
   rw [if_neg q,if_pos (by omega),q2,Nat.mod_self,Nat.sub_self,Nat.mod_eq_of_lt (by omega)]
   show round1 G = _
   unfold round1
   rw [if_pos h1,show G.length - 1 = k by omega]
  ·
   rw [if_neg q,if_neg (by omega),show k + 1 - G.length = (k - G.length) + 1 by omega,pass_succ,Nat.mod_eq_sub_mod (a:=k) (by omega),Nat.mod_eq_sub_mod (a:=k + 1) (by omega),Nat.mod_eq_of_lt (a:=k - G.length) (by omega),Nat.mod_eq_of_lt (a:=k + 1 - G.length) (by omega),show k + 1 - G.length = (k - G.length) + 1 by omega]
end Go.Proofs.YtkeapmmochpcfaaGreat.Mk
namespace Go.Proofs.YtkeapmmochpcfaaGreat.Rp
open Go.ChangeShapes Go.WideShapes Go.ChangeAt Go.RowKit
open Vv (Sl sv hidIt)
theorem mod_ne {k n : Nat} (h1 : 1 < n) : k % n ≠ (k + 1) % n:=by
 intro e
 have h:=Nat.mod_add_mod k n 1
 rw [← h] at e
 have hl : k % n < n:=Nat.mod_lt _ (by omega)
 by_cases q : k % n + 1 < n
 ·
  rw [Nat.mod_eq_of_lt q] at e
  omega
 ·
  rw [show k % n + 1 = n by omega,Nat.mod_self] at e
  omega
theorem okR_short {r : Rep} (h : okR r = true) : ∀ j,j < r.1.length → (En.rat r.1 j).1.size ≤ 9223372036854775807 ∧ (En.rat r.1 j).2.1.size ≤ 9223372036854775807:=by
 intro j hj
 unfold okR at h
 rw [Bool.and_eq_true] at h
 have hm : En.toE (En.rat r.1 j) ∈ En.toB r.1:=List.mem_map.2 ⟨_,En.rat_mem hj,rfl⟩
 have ho:=Bk.ok_all h.1 hm
 unfold Bk.okE at ho
 simp only [Bool.and_eq_true,decide_eq_true_eq] at ho
 have e1 : (En.toE (En.rat r.1 j)).key.length = (En.rat r.1 j).1.size:=En.bs_length _
 have e2 : (En.toE (En.rat r.1 j)).value.length = (En.rat r.1 j).2.1.size:=En.bs_length _
 omega
theorem okG_short {L : List Rep} (h : okG L = true) : Short L:=fun i hi j hj=>okR_short ((okG_all h).2.2.1 i hi) j hj
def ArS (w wx : World) (L : List Rep) (k : Nat) (v : Value) : Prop:=∃ M,bks M = Bk.st (bks L) k ∧ mbs M = Mk.st (mbs L) k ∧ okG M = true ∧ M.length = L.length ∧ Own wx w.heap.size wx.heap.size v M ∧ Below w.heap.size w wx
theorem ars_step {L M : List Rep} {k : Nat} (hb : bks M = Bk.st (bks L) k) (hm : mbs M = Mk.st (mbs L) k) (ok : okG M = true) (hl : M.length = L.length) (hk : k + 1 < 2 * L.length) {M' : List Rep} {b : Bool} (t : ToldR M ((k % L.length : Nat) : Int) (((k + 1) % L.length : Nat) : Int) M' b) : bks M' = Bk.st (bks L) (k + 1) ∧ mbs M' = Mk.st (mbs L) (k + 1) ∧ okG M' = true ∧ M'.length = L.length:=by
 have h1:=(okG_all ok).1
 by_cases hn : 1 < L.length
 ·
  have hr : inG M.length ((k % L.length : Nat) : Int) (((k + 1) % L.length : Nat) : Int):=by
   have a1 : k % L.length < L.length:=Nat.mod_lt _ (by omega)
   have a2 : (k + 1) % L.length < L.length:=Nat.mod_lt _ (by omega)
   have a3:=mod_ne (k:=k) hn
   unfold inG
   rw [hl]
   omega
  obtain ⟨r,_⟩:=t.yes ok hr
  have a1 : k % L.length < M.length:=by rw [hl]; exact Nat.mod_lt _ (by omega)
  have a2 : (k + 1) % L.length < M.length:=by rw [hl]; exact Nat.mod_lt _ (by omega)
  simp only [Int.toNat_natCast] at r
  refine ⟨?_,?_,okG_tell ok a1 a2 r,by rw [r.len,hl]⟩
  ·
   rw [r.bk,hb,Bk.st_step (bks_length L) hn hk]
  ·
   rw [r.mb,hm,Mk.st_step (mbs_length L) hn hk]
 ·
  have e1 : L.length = 1:=by omega
  have e0 : k = 0:=by omega
  subst e0
  have hr : ¬ inG M.length ((0 % L.length : Nat) : Int) (((0 + 1) % L.length : Nat) : Int):=by
   rw [e1]
   unfold inG
   simp
  obtain ⟨rfl,_⟩:=t.out ok hr
  refine ⟨?_,?_,ok,hl⟩
  ·
   rw [hb,Bk.st_zero (by rw [bks_length]; omega),Bk.st_one (by rw [bks_length]; exact e1)]
  ·
   rw [hm,Mk.st_zero (by rw [mbs_length]; omega),Mk.st_one (by rw [mbs_length]; exact e1)]
theorem impl_Around (a : Option Addr) (cap : Nat) (L : List Rep) (w : World) (h : Rd w a L) (hs : Short L) (hl : L.length ≤ 9223372036854775807) (hlb : ∀ i,i < L.length → (rat L i).1.length ≤ 9223372036854775807 ∧ (rat L i).2.length ≤ 9223372036854775807) :
  Calls Tryz.prog 20 #[.slice a L.length cap] w fun e w'=>ArnP L w e w':=by
 have CG:=hidIt (fun W (r : Rd W a L)=>impl_GroupOk a cap L W r hs hl hlb)
 have HR:=hidIt h
 clear h hs hlb
 cases ok : okG L with
 | false =>
  rw [ok] at CG
  have HT:=hidIt (ArndR.mkNo ok)
  clear ok
  generalize L.length = m at *
  go_enter Tryz.func20,Tryz.ntmps20
  go_wp2_with (fail)
  refine (CG.out _ HR.out).mono ?_
  rintro e w1 ⟨rfl,k⟩
  have HB1:=hidIt k
  clear k
  go_wp2_with (fail)
  go_ret
  exact ArnP.of HT.out (LstP.of rfl ((Own.new w1).mono HB1.out.size (by simp) (Nat.le_refl _)) (HB1.out.alloc HB1.out.size _))
 | true =>
  rw [ok] at CG
  have hT:=okG_tame ok
  have h1:=(okG_all ok).1
  have h6:=(okG_all ok).2.1
  have CC:=hidIt (fun W (r : Rd W a L)=>impl_copiedReplicas a cap L W r hT)
  have HTY:=hidIt (fun M h1 h2=>ArndR.mkYes (M:=M) ok h1 h2)
  have HA0 : Hid (∀ W v,Own W w.heap.size W.heap.size v L → Below w.heap.size w W → ArS w W L 0 v):=hidIt (fun W v o k=>⟨L,(Bk.st_zero (by rw [bks_length]; omega)).symm,(Mk.st_zero (by rw [mbs_length]; omega)).symm,ok,rfl,o,k⟩)
  have HA1 : Hid (∀ W v k,ArS w W L k v → k + 1 < 2 * L.length → ∀ (f t : Int),f = ((k % L.length : Nat) : Int) → t = (((k + 1) % L.length : Nat) : Int) → Calls Tryz.prog 7 #[v,.int .i64 f,.int .i64 t] W fun e w'=>∃ g c b,e = .returned (.tuple #[.slice g L.length c,.bool b]) ∧ ArS w w' L (k + 1) (.slice g L.length c)):=hidIt (fun W v k hA hk f t ef et=>by
   subst ef et
   obtain ⟨M,e1,e2,okM,hlM,o,kb⟩:=hA
   obtain ⟨va,vc,ev,hvc,hvm,hvn⟩:=o.formN hlM
   subst ev
   have hTM:=okG_tame okM
   have C:=impl_Told va vc M ((k % L.length : Nat) : Int) (((k + 1) % L.length : Nat) : Int) W o.rd (okG_short okM) (by rw [hlM]; omega) (fun i hi=>⟨by have:=hTM.bl i hi; omega,by have:=hTM.ml i hi; omega⟩)
   rw [hlM] at C
   refine C.mono ?_
   intro e w' hz
   obtain ⟨v',M',b,rfl,tR,o',k'⟩:=hz.out
   obtain ⟨q1,q2,q3,q4⟩:=ars_step e1 e2 okM hlM hk tR
   obtain ⟨ya,yc,ey,_⟩:=o'.formN q4
   subst ey
   exact ⟨ya,yc,b,rfl,M',q1,q2,q3,q4,o'.mono kb.size (Nat.le_refl _) (Nat.le_refl _),on kb k'⟩)
  have HA2 : Hid (∀ W v,ArS w W L (2 * L.length - 1) v → ArnP L w (.returned v) W):=hidIt (fun W v hA=>by
   obtain ⟨M,e1,e2,okM,hlM,o,kb⟩:=hA
   have z1:=Bk.st_last (G:=bks L) (by rw [bks_length]; omega)
   have z2:=Mk.st_last (G:=mbs L) (by rw [mbs_length]; omega)
   rw [bks_length] at z1
   rw [mbs_length] at z2
   exact ArnP.of (HTY.out M (e1.trans z1) (e2.trans z2)) (LstP.of rfl o kb))
  clear ok hT HTY
  generalize hn : L.length = m at *
  have HN:=hidIt hn
  clear hn
  go_enter Tryz.func20,Tryz.ntmps20
  go_wp2_with (fail)
  refine (CG.out _ HR.out).mono ?_
  rintro e w1 ⟨rfl,k⟩
  have HB1:=hidIt k
  clear k
  go_wp2_with (fail)
  refine (CC.out _ (HR.out.kept HB1.out)).mono ?_
  intro e w2 hz
  obtain ⟨v,rfl,o2,k2⟩:=hz.out
  obtain ⟨va,vc,ev,hvc,hvm,hvn⟩:=o2.formN HN.out
  subst ev
  have HS0:=hidIt (HA0.out w2 _ (o2.mono HB1.out.size (Nat.le_refl _) (Nat.le_refl _)) (on HB1.out k2))
  clear hz o2 k2 hvn CG CC HA0 HB1
  have hm1 : (1 : Int) ≤ (m : Int):=by omega
  have hm6 : (m : Int) ≤ 6:=by omega
  go_wp2_with (fail)
  go_loopw [3,17] (fun z y wx=>∃ (k : Nat) (za : Option Addr) (zc : Nat),y = .int .i64 k ∧ z = .slice za m zc ∧ k ≤ 2 * m - 1 ∧ Hid (ArS w wx L k (.slice za m zc))) (fun _ y _=>(2 * m - intOf y).toNat)
  case atStart=>exact ⟨0,va,vc,rfl,rfl,by omega,HS0⟩
  case round =>
   obtain ⟨k,za,zc,rfl,rfl,hk,HS⟩:=hrel
   clear HS0
   by_cases hin : k < 2 * m - 1
   ·
    have hin' : (k : Int) < 2 * (m : Int) - 1:=by omega
    have hk0 : (0 : Int) ≤ (k : Int):=by omega
    have hmz : ¬ ((m : Int) = 0):=by omega
    have HA : Hid (ArS w wr.drew L k (.slice za m zc)):=hidIt (by
     obtain ⟨M,e1,e2,e3,e4,o,kb⟩:=HS.out
     exact ⟨M,e1,e2,e3,e4,(o.kept ((Below.refl _ wr).drew)).grow,kb.drew⟩)
    have C:=hidIt (HA1.out wr.drew _ k HA.out (by omega) ((k : Int) % (m : Int)) (((k : Int) + 1) % (m : Int)) (by simp) (by simp))
    clear HA HS
    go_wp2_with (fail)
    go_region_with (go_at_call 7; refine C.out.mono ?_; rintro e w5 ⟨g5,c5,b5,rfl,s5⟩)
    all_goals (have HS5:=hidIt s5; clear s5; first | exact ⟨⟨k + 1,g5,c5,by simp,rfl,by omega,HS5⟩,by simp [intOf]; omega⟩ | (go_wp2_with (fail); exact ⟨⟨k + 1,g5,c5,by simp,rfl,by omega,HS5⟩,by simp [intOf]; omega⟩))
   ·
    have hin' : ¬ (k : Int) < 2 * (m : Int) - 1:=by omega
    obtain rfl : k = 2 * m - 1:=by omega
    have HF:=hidIt (HA2.out _ _ HS.out)
    go_wp2_with (fail)
    go_ret
    exact HF.out
end Go.Proofs.YtkeapmmochpcfaaGreat.Rp
namespace Go.Proofs.YtkeapmmochpcfaaGreat.Rp
open Go.ChangeShapes Go.WideShapes Go.ChangeAt Go.RowKit
open Vv (Sl sv hidIt)
open Rc (BelowBy BelowBy.one wp_region_below calls_below calls_same)
open Dr (Cur Code l1Below_any l1Once_any l1New_any)
structure Sm (L : List Rep) : Prop where
 n : L.length ≤ 6
 one : ∀ i,i < L.length → bulk1 (rat L i) ≤ 100
 s : Short L
theorem Sm.l {L : List Rep} (h : Sm L) : L.length ≤ 9223372036854775807:=Nat.le_trans h.n (by decide)
theorem Sm.lb {L : List Rep} (h : Sm L) : ∀ i,i < L.length → (rat L i).1.length ≤ 9223372036854775807 ∧ (rat L i).2.length ≤ 9223372036854775807:=fun i hi=>by
 have:=h.one i hi
 unfold bulk1 at this
 omega
theorem Sm.ok {L : List Rep} (h : okG L = true) : Sm L:=by
 have t:=okG_tame h
 exact ⟨t.n,fun i hi=>by have:=t.bl i hi; have:=t.ml i hi; unfold bulk1; omega,okG_short h⟩
theorem Sm.arnd {L M : List Rep} (h : ArndR L M) : Sm M:=by
 cases ok : okG L with
 | false =>
  rw [h.no ok]
  exact ⟨by decide,fun i hi=>absurd hi (Nat.not_lt_zero _),fun i hi=>absurd hi (Nat.not_lt_zero _)⟩
 | true=>exact Sm.ok (arnd_ok ok h)
theorem likeReplica_same (s t s' t' : Sl) (r : Rep) (w : World) (hE : RdE w s r.1) (hM : RdM w t r.2) (hE' : RdE w s' r.1) (hM' : RdM w t' r.2) (hl : bulk1 r ≤ 1048576) :
  Calls Tryz.prog 13 #[.agg #[sv s,sv t],.agg #[sv s',sv t']] w fun e w'=>e = .returned (.bool true) ∧ Below w.heap.size w w':=by
 obtain ⟨s0,s1,s2⟩:=s
 obtain ⟨t0,t1,t2⟩:=t
 obtain ⟨p0,p1,p2⟩:=s'
 obtain ⟨q0,q1,q2⟩:=t'
 obtain ⟨e1,rE,_,_,cE⟩:=hE
 obtain ⟨e2,rM,_,_,cM⟩:=hM
 obtain ⟨e3,rE',_,_,_⟩:=hE'
 obtain ⟨e4,rM',_,_,_⟩:=hM'
 simp only at e1 rE cE e2 rM cM e3 rE' e4 rM'
 unfold bulk1 at hl
 have C1:=hidIt (fun W (k : En.Rd W s0 r.1) (k' : En.Rd W p0 r.1)=>En.likeBook_same s0 p0 s2 p2 r.1 W k k' (by omega))
 have C2:=hidIt (fun W (k : Mm.Rd W t0 r.2) (k' : Mm.Rd W q0 r.2)=>Mm.likeMembers_same t0 q0 t2 q2 r.2 W k k' (by omega))
 rw [← e3] at e1
 rw [← e4] at e2
 subst e1 e2
 rw [← e3] at C1
 rw [← e4] at C2
 have H1:=hidIt rE
 have H2:=hidIt rM
 have H3:=hidIt rE'
 have H4:=hidIt rM'
 clear rE rM rE' rM' e3 e4 cE cM hl
 have BA:=hidIt ((Bo.Box.new w #[.slice s0 s1 s2,.slice t0 t1 t2] 32).alloc (.cells #[.slice p0 s1 p2,.slice q0 t1 q2] 32))
 have BB : Hid (Bo.Box ((w.alloc (.cells #[.slice s0 s1 s2,.slice t0 t1 t2] 32)).alloc (.cells #[.slice p0 s1 p2,.slice q0 t1 q2] 32)) (w.heap.size + 1) #[.slice p0 s1 p2,.slice q0 t1 q2]):=hidIt (Bo.Box.newAt (by simp))
 have HB:=hidIt (((Below.refl w.heap.size w).alloc (Nat.le_refl _) (.cells #[.slice s0 s1 s2,.slice t0 t1 t2] 32)).alloc (by simp) (.cells #[.slice p0 s1 p2,.slice q0 t1 q2] 32))
 go_enter Tryz.func13,Tryz.ntmps13
 go_wp2_with (fail)
 refine (C1.out _ (H1.out.kept HB.out) (H3.out.kept HB.out)).mono ?_
 rintro e w1 ⟨rfl,k1⟩
 have a1:=(BA.out.kept k1).c 1 (v:=.slice t0 t1 t2) rfl
 have b1:=(BB.out.kept k1).c 1 (v:=.slice q0 t1 q2) rfl
 have HB1:=hidIt (on HB.out k1)
 clear k1 BA BB HB
 go_wp2_with (fail)
 refine (C2.out _ (H2.out.kept HB1.out) (H4.out.kept HB1.out)).mono ?_
 rintro e w2 ⟨rfl,k2⟩
 have HB2:=hidIt (on HB1.out k2)
 clear k2
 go_wp2_with (fail)
 go_ret
 exact ⟨rfl,HB2.out⟩
theorem likeGroup_same (a a' : Option Addr) (cap cap' : Nat) (L : List Rep) (w : World) (h : Rd w a L) (h' : Rd w a' L) (hl : Sm L) :
  Calls Tryz.prog 10 #[.slice a L.length cap,.slice a' L.length cap'] w fun e w'=>e = .returned (.bool true) ∧ Below w.heap.size w w':=by
 have hm6:=hl.n
 have HS:=hidIt hl.one
 generalize hn : L.length = m at *
 have HR:=hidIt h
 have HR':=hidIt h'
 have HN:=hidIt hn
 clear h h' hn hl
 have hq : ((m : Int) != (m : Int)) = false:=by simp
 go_enter Tryz.func10,Tryz.ntmps10
 go_wp2_with (fail)
 go_loopw [5] (fun y wx=>∃ (i : Nat),y = .int .i64 i ∧ i ≤ m ∧ Hid (Below w.heap.size w wx)) (fun y _=>(m - intOf y).toNat)
 case atStart=>exact ⟨0,rfl,by omega,hidIt (Below.refl _ _)⟩
 case round =>
  obtain ⟨i,rfl,hi,HB⟩:=hrel
  by_cases hin : i < m
  ·
   have hin' : (i : Int) < (m : Int):=by omega
   have hi0 : (0 : Int) ≤ (i : Int):=by omega
   have hb1:=HS.out i hin
   obtain ⟨b,off,s,t,rfl,c0,c1,rE,rM⟩:=(HR.out.kept HB.out).one (i:=i) (by rw [HN.out]; exact hin)
   obtain ⟨b',off',s',t',rfl,d0,d1,rE',rM'⟩:=(HR'.out.kept HB.out).one (i:=i) (by rw [HN.out]; exact hin)
   have CE:=hidIt (fun W (k : Below wr.heap.size wr W)=>likeReplica_same s t s' t' (rat L i) W (rE.kept k) (rM.kept k) (rE'.kept k) (rM'.kept k) (by omega))
   clear rE rM rE' rM' hb1
   obtain ⟨s0,s1,s2⟩:=s
   obtain ⟨t0,t1,t2⟩:=t
   obtain ⟨p0,p1,p2⟩:=s'
   obtain ⟨q0,q1,q2⟩:=t'
   simp only [sv] at c0 c1 d0 d1 CE
   haveI:=BelowBy.one wr
   have f0:=fun p : BelowBy wr=>p.cell c0
   have f1:=fun p : BelowBy wr=>p.cell c1
   have g0:=fun p : BelowBy wr=>p.cell d0
   have g1:=fun p : BelowBy wr=>p.cell d1
   clear c0 c1 d0 d1
   go_wp2_with (fail)
   refine wp_region_below (by kernel_rfl) (by kernel_rfl) ?_
   repeat (go_big_quiet_step (first | (go_at_call 13; refine calls_below (CE.out _ (BelowBy.h _)))))
   refine wpQuiet_nil ?_
   intro _ hw'
   obtain ⟨pq,rfl⟩:=hw'
   have HB1:=hidIt (on HB.out pq.h)
   generalize pq.world = w2 at HB1 ⊢
   clear f0 f1 g0 g1
   go_wp2_with (fail)
   exact ⟨⟨i + 1,by simp,by omega,HB1⟩,by simp [intOf]; omega⟩
  ·
   have hin' : ¬ (i : Int) < (m : Int):=by omega
   go_wp2_with (fail)
   go_ret
   exact ⟨rfl,HB.out⟩
end Go.Proofs.YtkeapmmochpcfaaGreat.Rp
namespace Go.Proofs.YtkeapmmochpcfaaGreat.Rp
open Go.ChangeShapes Go.WideShapes Go.ChangeAt Go.RowKit
open Vv (Sl sv hidIt)
open Dr (Cur Code l1Below_any l1Once_any l1New_any)
theorem only_low {c : Nat} {w a b : World} (h : Only c w a) (k : Below w.heap.size a b) : Only c w b:=⟨k.os.trans h.os,k.tape.trans h.tape,k.output.trans h.output,Nat.le_trans h.size k.size,fun i hi hne=>(k.block i (Nat.lt_of_lt_of_le hi (Nat.le_refl _))).trans (h.block i hi hne)⟩
theorem OwnC.putE {w : World} {lo hi g m cap i : Nat} {C : List Vv.Rw} {L : List Rep} (h : OwnC w lo hi (.slice (some ⟨g,0,none⟩) m cap) C L) (hi' : i < L.length) {s : Sl} {M : List En.Rw} (hs : En.Own w hi (sv s) M) :
  OwnC (w.setCell ⟨g,i * 2,none⟩ (sv s)) lo w.heap.size (.slice (some ⟨g,0,none⟩) m cap) (C.set i (s,(Vv.rat C i).2)) (L.set i (M,(rat L i).2)):=by
 have hC : i < C.length:=by rw [h.len]; exact hi'
 have Y : Only g w (w.setCell ⟨g,i * 2,none⟩ (sv s)):=(Only.refl g w).setCell _ _
 have sz : (w.setCell ⟨g,i * 2,none⟩ (sv s)).heap.size = w.heap.size:=by simp [World.setCell]
 have hlo:=h.lo'
 have row : Vv.Own (w.setCell ⟨g,i * 2,none⟩ (sv s)) lo (.slice (some ⟨g,0,none⟩) m cap) (C.set i (s,(Vv.rat C i).2)):=by
  have:=h.row.set hC (j:=0) (v:=sv s) (y:=(s,(Vv.rat C i).2)) (by omega) (fun k hk=>by
   match k,hk with
   | 0,_=>rfl
   | 1,_=>rfl)
  simpa using this
 have apE : ∀ {b : Nat} {u : Value} {N : List En.Rw},En.Own w b u N → ∀ x,u.ownBlock = some x → x ≠ g:=fun hu x hx e=>own_apart hu h.row (by decide) x hx (by rw [e]; rfl)
 have apM : ∀ {b : Nat} {u : Value} {N : List Mm.Rw},Mm.Own w b u N → ∀ x,u.ownBlock = some x → x ≠ g:=fun hu x hx e=>own_apart hu h.row (by decide) x hx (by rw [e]; rfl)
 refine ⟨by rw [List.length_set,List.length_set]; exact h.len,row,fun x hx=>Nat.lt_of_lt_of_le (h.blk x hx) h.hi',fun j hj=>?_,fun j hj x hx=>?_,fun j hj=>?_,fun j hj x hx=>?_,fun j k hj hk hne x hx hy=>?_,fun j k hj hk hne x hx hy=>?_,by rw [sz]; exact Nat.le_refl _,Nat.le_trans hlo h.hi'⟩
 all_goals rw [List.length_set] at hj
 ·
  rw [Vv.rat_set hC,rat_set hi']
  by_cases e : i = j
  ·
   rw [if_pos e,if_pos e]
   exact (hs.mono hlo).only Y (.inr (apE hs))
  ·
   rw [if_neg e,if_neg e]
   exact (h.bk j hj).only Y (.inr (apE (h.bk j hj)))
 ·
  rw [Vv.rat_set hC] at hx
  by_cases e : i = j
  ·
   rw [if_pos e] at hx
   exact (World.ownsRow.lt hs x hx).2
  ·
   rw [if_neg e] at hx
   exact Nat.lt_of_lt_of_le (h.bb j hj x hx) h.hi'
 ·
  rw [Vv.rat_set hC,rat_set hi']
  by_cases e : i = j
  ·
   subst e
   rw [if_pos rfl,if_pos rfl]
   exact (h.mb i hj).only Y (.inr (apM (h.mb i hj)))
  ·
   rw [if_neg e,if_neg e]
   exact (h.mb j hj).only Y (.inr (apM (h.mb j hj)))
 ·
  rw [Vv.rat_set hC] at hx
  by_cases e : i = j
  ·
   subst e
   rw [if_pos rfl] at hx
   exact Nat.lt_of_lt_of_le (h.bm i hj x hx) h.hi'
  ·
   rw [if_neg e] at hx
   exact Nat.lt_of_lt_of_le (h.bm j hj x hx) h.hi'
 ·
  rw [List.length_set] at hk
  rw [Vv.rat_set hC] at hx hy
  by_cases e : i = j
  ·
   rw [if_pos e] at hx
   rw [if_neg (by omega)] at hy
   have h1:=(World.ownsRow.lt hs x hx).1
   have h2:=h.bb k hk x hy
   omega
  ·
   rw [if_neg e] at hx
   by_cases e2 : i = k
   ·
    rw [if_pos e2] at hy
    have h1:=(World.ownsRow.lt hs x hy).1
    have h2:=h.bb j hj x hx
    omega
   ·
    rw [if_neg e2] at hy
    exact h.db j k hj hk hne x hx hy
 ·
  rw [List.length_set] at hk
  rw [Vv.rat_set hC] at hx hy
  by_cases e : i = j
  ·
   subst e
   rw [if_pos rfl] at hx
   rw [if_neg hne] at hy
   exact h.dm i k hj hk hne x hx hy
  ·
   rw [if_neg e] at hx
   by_cases e2 : i = k
   ·
    subst e2
    rw [if_pos rfl] at hy
    exact h.dm j i hj hk hne x hx hy
   ·
    rw [if_neg e2] at hy
    exact h.dm j k hj hk hne x hx hy
structure Gda (B : Nat) (w wx : World) (c : Nat) (ad : Option Addr) (len cap : Nat) (v : Value) (L : List Rep) : Prop where
 own : Own wx w.heap.size wx.heap.size v L
 cur : Cur B wx c ad len cap
 only : Only c w wx
 sm : ∀ i,i < L.length → En.Tame (rat L i).1 ∧ (rat L i).2.length ≤ 4
theorem apart_c {w wx wy : World} {c hi : Nat} {v : Value} {L : List Rep} (h : Own wx w.heap.size hi v L) (k : Only c wx wy) (hc : c < w.heap.size) : Own wy w.heap.size hi v L :=
 h.apart (OnlyIn.of_only (lo:=c) (hi:=c + 1) k (.inr ⟨Nat.le_refl _,by omega⟩)) (.inr (by omega))
theorem Gda.call {B c len cap : Nat} {w wx wy : World} {ad : Option Addr} {v : Value} {L : List Rep} (h : Gda B w wx c ad len cap v L) (hC : Cur B wy c ad len cap) (k : Only c wx wy) (hc : c < w.heap.size) : Gda B w wy c ad len cap v L :=
 ⟨(apart_c h.own k hc).grow,hC,h.only.trans k,h.sm⟩
theorem Gda.short {B c len cap : Nat} {w wx : World} {ad : Option Addr} {v : Value} {L : List Rep} (h : Gda B w wx c ad len cap v L) (hl : L.length ≤ 4) : Sm L :=
 ⟨by omega,fun i hi=>by have:=(h.sm i hi).1.1; have:=(h.sm i hi).2; unfold bulk1; omega,fun i hi j hj=>(h.sm i hi).1.at hj⟩
theorem sm_more {L : List Rep} {r : Rep} (h : ∀ i,i < L.length → En.Tame (rat L i).1 ∧ (rat L i).2.length ≤ 4) (h1 : En.Tame r.1) (h2 : r.2.length ≤ 4) : ∀ i,i < (L ++ [r]).length → En.Tame (rat (L ++ [r]) i).1 ∧ (rat (L ++ [r]) i).2.length ≤ 4:=fun i hi=>by
 by_cases q : i < L.length
 ·
  rw [rat_app q]; exact h i q
 ·
  obtain rfl : i = L.length:=by rw [List.length_append,List.length_singleton] at hi; omega
  rw [rat_last]; exact ⟨h1,h2⟩
theorem Gda.more {B c len cap : Nat} {w wr w1 w2 w9 : World} {ad : Option Addr} {v v' : Value} {L : List Rep} {C : List Vv.Rw} (h : Gda B w wr c ad len cap v L) (hc : c < w.heap.size) {s t : Sl} {r : Rep} {T : TypeId}
  (hC : OwnC (w2.alloc (.cells (Vv.rc (s,t)) T)) w.heap.size wr.heap.size v C L) (h1 : Only c wr w1) (h2 : Only c w1 w2) (cu : Cur B w2 c ad len cap) (oE : En.Own w2 wr.heap.size (sv s) r.1) (oM : Mm.Own w2 w1.heap.size (sv t) r.2) (tE : En.Tame r.1) (tM : r.2.length ≤ 4)
  (ho : Vv.Own w9 w.heap.size v' (C ++ [(s,t)])) (g : (w2.alloc (.cells (Vv.rc (s,t)) T)).grownBy w9 v.ownBlock) : Gda B w w9 c ad len cap v' (L ++ [r]):=by
 have ka : Below w2.heap.size w2 (w2.alloc (.cells (Vv.rc (s,t)) T)):=(Below.refl _ _).alloc (Nat.le_refl _) _
 have hw : w.heap.size ≤ (w2.alloc (.cells (Vv.rc (s,t)) T)).heap.size:=Nat.le_trans h.only.size (Nat.le_trans h1.size (Nat.le_trans h2.size ka.size))
 have kk:=Vv.grown_below hC.row g (Nat.le_refl _) hw
 have hM:=hC.more ho g (N:=wr.heap.size) (oE.kept ka) ((oM.kept ka).mono h1.size) (Nat.le_refl _)
 exact ⟨⟨_,hM⟩,(cu.kept (ka.mono (by have:=cu.lt; omega))).kept (kk.mono (by omega)),only_low (((h.only.trans h1).trans h2).trans (Only.of_below ka)) kk,sm_more h.sm tE tM⟩
theorem Gda.put {B c len cap g m cp : Nat} {w wr w1 : World} {ad : Option Addr} {L : List Rep} (h : Gda B w wr c ad len cap (.slice (some ⟨g,0,none⟩) m cp) L) (hc : c < w.heap.size) {s : Sl} {M : List En.Rw} (h1 : Only c wr w1) (cu : Cur B w1 c ad len cap) (oE : En.Own w1 wr.heap.size (sv s) M) (tE : En.Tame M) (hi : 0 < L.length) :
  Gda B w (w1.setCell ⟨g,0,none⟩ (sv s)) c ad len cap (.slice (some ⟨g,0,none⟩) m cp) (L.set 0 (M,(rat L 0).2)):=by
 obtain ⟨C,hC⟩:=apart_c h.own h1 hc
 have hP:=hC.putE hi oE
 rw [Nat.zero_mul] at hP
 have hg : w.heap.size ≤ g:=(World.ownsRow.lt hC.row g rfl).1
 have k : Only g w1 (w1.setCell ⟨g,0,none⟩ (sv s)):=(Only.refl g w1).setCell _ _
 refine ⟨Own.grow ⟨_,hP⟩,cu.kept (k.below (B:=c + 1) (by omega) (by have:=cu.lt; omega)),only_low (h.only.trans h1) (k.below (B:=w.heap.size) hg (Nat.le_trans h.only.size h1.size)),fun i hi2=>?_⟩
 rw [List.length_set] at hi2
 rw [rat_set hi]
 by_cases e : 0 = i
 ·
  subst e
  rw [if_pos rfl]
  exact ⟨tE,(h.sm 0 hi2).2⟩
 ·
  rw [if_neg e]
  exact h.sm i hi2
theorem l13Draw_any (B c : Nat) (ad : Option Addr) (len cap : Nat) (w : World) (hC : Cur B w c ad len cap) :
  Calls Tryz.prog 26 #[.pointer (some ⟨c,0,none⟩)] w fun e w'=>∃ v L,e = .returned v ∧ Sm L ∧ Own w' w.heap.size w'.heap.size v L ∧ Cur B w' c ad len cap ∧ Only c w w':=by
 obtain ⟨i0,hi0,hz0,hz1,hz2⟩:=info_parts Vv.infoRw
 have hlt:=hC.lt
 have HD0 : Hid (Gda B w (w.alloc (.cells #[] 32)) c ad len cap (.slice (some ⟨w.heap.size,0,none⟩) 0 0) []):=hidIt ⟨(Own.new w).grow,hC.kept ((Below.refl (c + 1) w).alloc (by omega) _),(Only.refl c w).alloc _,fun i hi=>absurd hi (Nat.not_lt_zero _)⟩
 clear hC
 go_enter Tryz.func26,Tryz.ntmps26
 go_wp2_with (fail)
 refine (l1Below_any B c ad len cap 4 _ (by decide) HD0.out.cur).mono ?_
 rintro e W1 ⟨x,x0,x1,rfl,hC1,hO1⟩
 replace HD0:=hidIt (HD0.out.call hC1 hO1 hlt)
 obtain ⟨n0,rfl⟩:=Int.eq_ofNat_of_zero_le x0
 have hn0 : n0 ≤ 3:=by omega
 have hn0' : (n0 : Int) ≤ 3:=by omega
 have hn00 : (0 : Int) ≤ (n0 : Int):=by omega
 clear hC1 hO1 x0 x1
 go_wp2_with (fail)
 go_loopw [3,4] (fun s3 s4 wx=>∃ (n : Nat) (L : List Rep),s4 = .int .i64 n ∧ n ≤ 4 ∧ Hid (L.length + n ≤ 4) ∧ Hid (1 ≤ L.length + n) ∧ Hid (Gda B w wx c ad len cap s3 L)) (fun _ s4 _=>(intOf s4).toNat)
 case atStart=>exact ⟨n0 + 1,[],by simp; omega,by omega,hidIt (by simp; omega),hidIt (by simp),HD0⟩
 case round =>
  obtain ⟨n,L,rfl,hn,HL,HL1,HD⟩:=hrel
  clear HD0
  obtain ⟨a,cp,ez,_⟩:=HD.out.own.form
  subst ez
  by_cases hp : 0 < n
  ·
   obtain ⟨m,rfl⟩ : ∃ m,n = m + 1:=⟨n - 1,by omega⟩
   have hp' : (0 : Int) < (m : Int) + 1:=by omega
   have hm6 : (m : Int) ≤ 6:=by omega
   have hm0 : (0 : Int) ≤ (m : Int):=by omega
   generalize hll : L.length = ll at *
   have HLL:=hidIt hll
   clear hll
   go_wp2_with (fail)
   refine (En.l11Draw_any B c ad len cap _ HD.out.cur).mono ?_
   rintro e w1 ⟨v1,L1,rfl,t1,_,o1,hC1,hO1⟩
   obtain ⟨s,rfl⟩:=slE o1
   have T1:=hidIt t1
   have E1:=hidIt o1
   have C1:=hidIt hC1
   have Y1:=hidIt hO1
   clear t1 o1 hC1 hO1
   go_wp2_with (fail)
   refine (Mm.l12Draw_any B c ad len cap _ C1.out).mono ?_
   rintro e w2 ⟨v2,L2,rfl,t2,o2,hC2,hO2⟩
   obtain ⟨t,rfl⟩:=slM o2
   have T2:=hidIt t2
   have M2:=hidIt o2
   have C2:=hidIt hC2
   have Y2:=hidIt hO2
   have E2:=hidIt (E1.out.only hO2 (.inl (Nat.lt_of_lt_of_le hlt HD.out.only.size)))
   clear t2 o2 hC2 hO2 C1 E1
   obtain ⟨C,hC⟩:=apart_c (apart_c HD.out.own Y1.out hlt) Y2.out hlt
   obtain ⟨s0,s1,s2⟩:=s
   obtain ⟨t0,t1,t2⟩:=t
   have HC:=hidIt (hC.kept ((Below.refl w2.heap.size w2).alloc (Nat.le_refl _) (.cells (Vv.rc ((s0,s1,s2),(t0,t1,t2))) 32)))
   have HCL:=hidIt (hC.len.trans HLL.out)
   clear hC
   have hws : w.heap.size ≤ w2.heap.size:=Nat.le_trans HD.out.only.size (Nat.le_trans Y1.out.size Y2.out.size)
   have HOw : Hid (World.ownsRow (w2.alloc (.cells #[.slice s0 s1 s2,.slice t0 t1 t2] 32)) w.heap.size 32 2 (.slice a ll cp) ll (Vv.rcells C)):=hidIt (by have:=HC.out.row; unfold Vv.Own at this; rw [HCL.out] at this; exact this)
   simp only [sv]
   go_wp2_with (first | (at_builtin; refine wpList_append_own _ rfl _ _ 24 rfl w.heap.size 32 i0 (.agg #[sv (none,0,0),sv (none,0,0)]) 2 48 Tryz.underlying24 hi0 hz0 hz1 hz2 rfl (by decide) _ _ _ rfl HOw.out ⟨w2.heap.size,0,none⟩ 1 1 [.slice s0 s1 s2,.slice t0 t1 t2] rfl rfl (Vv.fresh w2 ((s0,s1,s2),(t0,t1,t2)) 32) (Vv.rcells_one [((s0,s1,s2),(t0,t1,t2))]) ?ca1 ?ca2 ?ca3 ?_))
   case ca1=>unfold maxLen; have:=HL.out; have:=HLL.out; omega
   case ca2=>have:=HL.out; have:=HLL.out; omega
   case ca3=>simp; omega
   intro v' w9 hown hgrow hnil
   have HD9:=hidIt (HD.out.more hlt (s:=(s0,s1,s2)) (t:=(t0,t1,t2)) (r:=(L1,L2)) (T:=32) HC.out Y1.out Y2.out C2.out E2.out M2.out T1.out T2.out (Vv.Own.more (L:=C) (M:=[((s0,s1,s2),(t0,t1,t2))]) (by rw [HCL.out]; exact hown)) hgrow)
   have HL9 : Hid ((L ++ [((L1,L2) : Rep)]).length + m ≤ 4):=hidIt (by have:=HL.out; have:=HLL.out; simp; omega)
   have HL8 : Hid (1 ≤ (L ++ [((L1,L2) : Rep)]).length + m):=hidIt (by simp; omega)
   clear hown hgrow hnil
   go_wp2_with (fail)
   exact ⟨⟨m,_,by simp,by omega,HL9,HL8,HD9⟩,by simp [intOf]⟩
  ·
   obtain rfl : n = 0:=by omega
   have hl1 : 1 ≤ L.length:=by have:=HL1.out; omega
   have HL4 : Hid (L.length ≤ 4):=hidIt (by have:=HL.out; omega)
   clear HL HL1
   obtain ⟨g,rfl⟩:=own_zero HD.out.own (by omega)
   generalize hll : L.length = ll at *
   have HLL:=hidIt hll
   clear hll
   have hll' : (0 : Int) < (ll : Int):=by omega
   go_wp2_with (fail)
   refine (l1Once_any B c ad len cap 14 _ (by decide) HD.out.cur).mono ?_
   rintro e W1 ⟨b1,rfl,hC1,hO1⟩
   replace HD:=hidIt (HD.out.call hC1 hO1 hlt)
   clear hC1 hO1
   cases b1 with
   | false =>
    go_wp2_with (fail)
    go_ret
    first | exact ⟨_,L,rfl,HD.out.short (by rw [HLL.out]; exact HL4.out),HD.out.own,HD.out.cur,HD.out.only⟩ | exact ⟨_,rfl,L,HD.out.short (by rw [HLL.out]; exact HL4.out),HD.out.own,HD.out.cur,HD.out.only⟩
   | true =>
    go_wp2_with (fail)
    refine (En.l11DrawAny_any B c ad len cap _ HD.out.cur).mono ?_
    rintro e W2 ⟨v1,L1,rfl,t1,o1,hC1,hO1⟩
    obtain ⟨s,rfl⟩:=slE o1
    obtain ⟨_,_,q0,_,fz,_⟩:=(apart_c HD.out.own hO1 hlt).cells (i:=0) (by rw [HLL.out]; omega)
    have HP:=hidIt (HD.out.put hlt hO1 hC1 o1 t1 (by rw [HLL.out]; omega))
    obtain ⟨s0,s1,s2⟩:=s
    simp only [sv,Nat.zero_mul] at q0 fz HP ⊢
    clear t1 o1 hC1 hO1
    go_wp2_with (fail)
    go_ret
    first | exact ⟨_,L.set 0 (L1,(rat L 0).2),rfl,HP.out.short (by rw [List.length_set,HLL.out]; exact HL4.out),HP.out.own,HP.out.cur,HP.out.only⟩ | exact ⟨_,rfl,L.set 0 (L1,(rat L 0).2),HP.out.short (by rw [List.length_set,HLL.out]; exact HL4.out),HP.out.own,HP.out.cur,HP.out.only⟩
end Go.Proofs.YtkeapmmochpcfaaGreat.Rp
namespace Go.Proofs.YtkeapmmochpcfaaGreat.Rp
open Go.ChangeShapes Go.WideShapes Go.ChangeAt Go.RowKit
open Vv (Sl sv hidIt)
open Dr (Cur Code l1Below_any l1Once_any l1New_any)
def DrP (w : World) (e : Ending) (w' : World) : Prop:=∃ v L,e = .returned v ∧ Sm L ∧ Own w' w.heap.size w'.heap.size v L ∧ Below w.heap.size w w'
theorem DrP.of {w w' : World} {e : Ending} {v : Value} {L : List Rep} (h : e = .returned v) (h1 : Sm L) (h2 : Own w' w.heap.size w'.heap.size v L) (h3 : Below w.heap.size w w') : DrP w e w':=⟨v,L,h,h1,h2,h3⟩
theorem DrP.out {w w' : World} {e : Ending} (h : DrP w e w') : ∃ v L,e = .returned v ∧ Sm L ∧ Own w' w.heap.size w'.heap.size v L ∧ Below w.heap.size w w':=h
theorem DrawGroupOk_any (a : Option Addr) (len cap : Nat) (w : World) (hc : Dr.Code w.heap.size w a len) (hl : len ≤ 4096) :
  Calls Tryz.prog 46 #[.slice a len cap] w fun e w'=>DrP w e w':=by
 have HC:=hidIt hc
 clear hc
 go_enter Tryz.func46,Tryz.ntmps46
 go_wp2_with (fail)
 refine (l1New_any _ a len cap _ (Nat.le_refl _) HC.out hl).mono ?_
 rintro e w1 ⟨c,rfl,hC1,k1⟩
 have HC1:=hidIt hC1
 have HB:=hidIt k1
 clear hC1 k1
 go_wp2_with (fail)
 refine (l13Draw_any _ c a len cap _ HC1.out).mono ?_
 rintro e w2 ⟨v,L,rfl,t2,o2,hC2,hO2⟩
 have HO:=hidIt (o2.mono HB.out.size (Nat.le_refl _) (Nat.le_refl _))
 have HB2:=hidIt (HB.out.trans (hO2.below (B:=w.heap.size) HC1.out.here HB.out.size))
 have HT:=hidIt t2
 clear t2 o2 hC2 hO2
 go_wp2_with (fail)
 go_ret
 exact DrP.of rfl HT.out HO.out HB2.out
theorem DrawAround_any (a : Option Addr) (len cap : Nat) (w : World) (hc : Dr.Code w.heap.size w a len) (hl : len ≤ 4096) :
  Calls Tryz.prog 19 #[.slice a len cap] w fun e w'=>DrP w e w':=by
 have HC:=hidIt hc
 clear hc
 go_enter Tryz.func19,Tryz.ntmps19
 go_wp2_with (fail)
 refine (DrawGroupOk_any a len cap _ HC.out hl).mono ?_
 intro e w1 hz
 obtain ⟨v,L,rfl,sm,o,k⟩:=hz.out
 have HO:=hidIt o
 have HB:=hidIt k
 have HS:=hidIt sm
 clear hz sm o k
 go_wp2_with (fail)
 go_ret
 exact DrP.of rfl HS.out HO.out HB.out
theorem DrawAgreed_any (a : Option Addr) (len cap : Nat) (w : World) (hc : Dr.Code w.heap.size w a len) (hl : len ≤ 4096) :
  Calls Tryz.prog 21 #[.slice a len cap] w fun e w'=>DrP w e w':=by
 have HC:=hidIt hc
 clear hc
 go_enter Tryz.func21,Tryz.ntmps21
 go_wp2_with (fail)
 refine (l1New_any _ a len cap _ (Nat.le_refl _) HC.out hl).mono ?_
 rintro e w1 ⟨c,rfl,hC1,k1⟩
 have HC1:=hidIt hC1
 have HB:=hidIt k1
 clear hC1 k1
 go_wp2_with (fail)
 refine (l13Draw_any _ c a len cap _ HC1.out).mono ?_
 rintro e w2 ⟨v,L,rfl,t2,o2,hC2,hO2⟩
 obtain ⟨p,q,rfl,hq,hqc,hqn⟩:=o2.form
 have HO:=hidIt o2
 have hcl:=HC1.out.lt
 have HB2:=hidIt (HB.out.trans (hO2.below (B:=w.heap.size) HC1.out.here HB.out.size))
 have HT:=hidIt t2
 have HC2:=hidIt hC2
 have HH:=hidIt HC1.out.here
 have CG:=hidIt (fun V (r : Rd V p L)=>spec_GroupOk p q L V r t2.s t2.l t2.lb)
 have CA:=hidIt (fun V (r : Rd V p L)=>spec_Around p q L V r t2.s t2.l t2.lb)
 clear t2 o2 hC2 hO2 HC1 hq hqc hqn
 generalize okG L = ok at CG
 generalize L.length = m at *
 go_wp2_with (fail)
 refine (l1Once_any _ c a len cap 2 _ (by decide) HC2.out).mono ?_
 rintro e w3 ⟨b1,rfl,hC3,hO3⟩
 have HO3:=hidIt ((apart_c HO.out hO3 hcl).mono HB.out.size (Nat.le_refl _) hO3.size)
 have HB3:=hidIt (HB2.out.trans (hO3.below (B:=w.heap.size) HH.out HB2.out.size))
 clear hC3 hO3 HO HB2
 cases b1 with
 | false =>
  go_wp2_with (fail)
  go_ret
  exact DrP.of rfl HT.out HO3.out.grow HB3.out
 | true =>
  go_wp2_with (fail)
  refine (CG.out _ HO3.out.rd).mono ?_
  rintro e w4 ⟨rfl,k4⟩
  have HO4:=hidIt (HO3.out.kept k4)
  have HB4:=hidIt (HB3.out.trans (k4.mono HB3.out.size))
  clear k4 HO3 HB3
  cases ok with
  | false =>
   go_wp2_with (fail)
   go_ret
   exact DrP.of rfl HT.out HO4.out.grow HB4.out
  | true =>
   go_wp2_with (fail)
   refine (CA.out _ HO4.out.rd).mono ?_
   intro e w5 hz
   obtain ⟨M,hA,hz⟩:=hz.out
   obtain ⟨v,rfl,o5,k5⟩:=hz.out
   have HO5:=hidIt (o5.mono HB4.out.size (Nat.le_refl _) (Nat.le_refl _))
   have HB5:=hidIt (HB4.out.trans (k5.mono HB4.out.size))
   have HS:=hidIt (Sm.arnd hA)
   clear hz hA o5 k5
   go_wp2_with (fail)
   go_ret
   exact DrP.of rfl HS.out HO5.out HB5.out
theorem arnd_len {L M : List Rep} (ok : okG L = true) (h : ArndR L M) : M.length = L.length:=by
 rw [← bks_length M,h.bk ok,Bk.around_length,bks_length]
theorem arnd_at {L M : List Rep} {J : Rep} (ok : okG L = true) (h : ArndR L M) (hJ : WhlR L J) {i : Nat} (hi : i < M.length) : rat M i = J:=by
 have hT:=okG_tame ok
 have hl:=arnd_len ok h
 have e1 : En.toB (rat M i).1 = Bk.whole (bks L):=by
  rw [← bks_at hi,h.bk ok]
  exact Bk.around_at hT.bris (by rw [bks_length]; omega)
 have e2 : Mm.toB (rat M i).2 = Mk.whole (mbs L):=by
  rw [← mbs_at hi,h.mb ok]
  exact Mk.around_at hT.mris (by rw [mbs_length]; omega)
 exact Prod.ext (En.toB_inj (e1.trans (hJ.bk ok).symm)) (Mm.toB_inj (e2.trans (hJ.mb ok).symm))
theorem arnd_agR {L M : List Rep} (ok : okG L = true) (h : ArndR L M) : agR M = true:=by
 obtain ⟨J,hJ⟩:=whl_is L
 have hn:=(okG_all ok).1
 have hl:=arnd_len ok h
 unfold agR
 rw [arnd_ok ok h,Bool.true_and,List.all_eq_true]
 intro r hr
 obtain ⟨i,hi,rfl⟩:=List.mem_iff_getElem.1 hr
 rw [← rat_at hi,arnd_at ok h hJ hi,arnd_at ok h hJ (i:=0) (by omega)]
 simp
theorem arnd_again {L M : List Rep} (ok : okG L = true) (h : ArndR L M) : ArndR M M:=by
 have hT:=okG_tame ok
 have hn:=(okG_all ok).1
 refine ArndR.mkYes (arnd_ok ok h) ?_ ?_
 ·
  rw [h.bk ok]
  exact (Bk.around_again hT.bris (by rw [bks_length]; omega)).symm
 ·
  rw [h.mb ok]
  exact (Mk.around_again hT.mris (by rw [mbs_length]; omega)).symm
end Go.Proofs.YtkeapmmochpcfaaGreat.Rp
namespace Go.Proofs.YtkeapmmochpcfaaGreat.Rp
open Go.ChangeShapes Go.WideShapes Go.ChangeAt Go.RowKit
open Vv (Sl sv hidIt)
section
variable {w : World} {t : Go.Proofs.YtkeapmmochpcfaaGreat.Nf.Tp} {d : Nat}
theorem RdE.tape {s : Sl} {L : List En.Rw} (h : RdE w s L) : RdE (Go.Proofs.YtkeapmmochpcfaaGreat.Nf.on w t d) s L:=⟨h.len,⟨h.rd.cell⟩,h.na,h.le,h.cap⟩
theorem RdM.tape {s : Sl} {L : List Mm.Rw} (h : RdM w s L) : RdM (Go.Proofs.YtkeapmmochpcfaaGreat.Nf.on w t d) s L:=⟨h.len,⟨h.rd.cell⟩,h.na,h.le,h.cap⟩
theorem Rd.tape {a : Option Addr} {L : List Rep} (h : Rd w a L) : Rd (Go.Proofs.YtkeapmmochpcfaaGreat.Nf.on w t d) a L:=by
 obtain ⟨C,h⟩:=h
 exact ⟨C,h.len,⟨h.row.cell⟩,fun i hi=>(h.bk i hi).tape,fun i hi=>(h.mb i hi).tape⟩
theorem Own.tape {lo hi : Nat} {v : Value} {L : List Rep} (h : Own w lo hi v L) : Own (Go.Proofs.YtkeapmmochpcfaaGreat.Nf.on w t d) lo hi v L:=by
 obtain ⟨C,h⟩:=h
 exact ⟨C,h.len,h.row,h.blk,h.bk,h.bb,h.mb,h.bm,h.db,h.dm,h.hi',h.lo'⟩
variable {x : World}
theorem Rd.bel {a : Option Addr} {L : List Rep} (h : Rd w a L) (k : Go.Proofs.YtkeapmmochpcfaaGreat.Nf.Bel w.heap.size w x) : Rd x a L:=(h.tape (t:=x.tape) (d:=0)).kept (k.below x.tape 0 x.drawn)
theorem RdC.bel {a : Option Addr} {C : List Vv.Rw} {L : List Rep} (h : RdC w a C L) (k : Go.Proofs.YtkeapmmochpcfaaGreat.Nf.Bel w.heap.size w x) : RdC x a C L :=
 (show RdC (Go.Proofs.YtkeapmmochpcfaaGreat.Nf.on w x.tape 0) a C L from ⟨h.len,⟨h.row.cell⟩,fun i hi=>(h.bk i hi).tape,fun i hi=>(h.mb i hi).tape⟩).kept (k.below x.tape 0 x.drawn)
theorem Own.bel {lo hi : Nat} {v : Value} {L : List Rep} (h : Own w lo hi v L) (k : Go.Proofs.YtkeapmmochpcfaaGreat.Nf.Bel w.heap.size w x) : Own x lo hi v L:=(h.tape (t:=x.tape) (d:=0)).kept (k.below x.tape 0 x.drawn)
theorem box_tape {b : Nat} {c : Array Value} (h : Bo.Box w b c) : Bo.Box (Go.Proofs.YtkeapmmochpcfaaGreat.Nf.on w t d) b c:=⟨h.lt,h.at',h.fr⟩
theorem box_bel {b : Nat} {c : Array Value} (h : Bo.Box w b c) (k : Go.Proofs.YtkeapmmochpcfaaGreat.Nf.Bel w.heap.size w x) : Bo.Box x b c:=(box_tape (t:=x.tape) (d:=0) h).kept (k.below x.tape 0 x.drawn)
theorem bel_from {n : Nat} (h : Below n (Go.Proofs.YtkeapmmochpcfaaGreat.Nf.on w t d) x) : Go.Proofs.YtkeapmmochpcfaaGreat.Nf.Bel n w x:=⟨h.os,h.output,h.size,h.block⟩
end
end Go.Proofs.YtkeapmmochpcfaaGreat.Rp
namespace Go.Proofs.YtkeapmmochpcfaaGreat.Sd
open Go Go.Conc Go.RowKit
open Nf (Stand Bel Here Pz cutN restN EndQ HasEnd)
section
variable {a : Act} {o : Oper} {w : World}
theorem run_load {x : Operand} (hop : o.op = .load 32 x) {c q : Nat} {u v : Value} (hx : a.eval x = .pointer (some ⟨c,q,none⟩)) (h0 : w.cell? ⟨c,q,none⟩ = some u) (h1 : w.cell? ⟨c,q + 1,none⟩ = some v) : (execOp a.eval o).run Tryz.prog w = .ok (.value (.agg #[u,v])) w:=by
 unfold execOp
 simp only [hop,hx]
 simp [go_sem,h0,h1]
theorem run_store {x y : Operand} (hop : o.op = .store 32 x y) {c : Nat} {u v : Value} {C : Array Value} (hx : a.eval x = .pointer (some ⟨c,0,none⟩)) (hy : a.eval y = .agg #[u,v]) (hu : ∃ p l q,u = .slice p l q) (hv : ∃ p l q,v = .slice p l q) (hb : Bo.Box w c C) (hC : C.size = 2) :
  (execOp a.eval o).run Tryz.prog w = .ok .skip ((w.setCell ⟨c,0,none⟩ u).setCell ⟨c,1,none⟩ v):=by
 obtain ⟨p,l,q,rfl⟩:=hu
 obtain ⟨p',l',q',rfl⟩:=hv
 have h0:=hb.c 0 (Array.getElem?_eq_getElem (show 0 < C.size by omega))
 have hb2:=hb.put 0 (.slice p l q) (by omega) rfl
 have h2:=hb2.c 1 (Array.getElem?_eq_getElem (show 1 < (C.setIfInBounds 0 (.slice p l q)).size by simp; omega))
 have f0:=hb.fr 0
 have f2:=hb2.fr 1
 unfold execOp
 simp only [hop,hx,hy]
 simp [go_sem,stored,h0,f0,h2,f2]
end
theorem enter_said (lb lo n cap : Nat) : Frame.enter Tryz.prog 30 #[.slice (some ⟨lb,lo,none⟩) n cap] .normal = b18.at ⟨sl0 lb lo n cap,[]⟩ [.code body18]:=by
 rw [enter_at (fn:=Tryz.f30) (c:=body18) _ Tryz.func30 rfl]
 unfold sl0
 simp only [Tryz.ntmps30,List.size_toArray,List.length_cons,List.length_nil,Nat.reduceAdd,Nat.reduceSub,Array.replicate_succ,Array.replicate_zero,List.push_toArray,List.append_toArray,List.nil_append,List.cons_append]
theorem stand_said [Go.ConcR.Payload] {m0 : Machine} {B : Nat → Prop} {lb lo n cap : Nat} {xs ys : Nat → Value} {b₀ : Frame} {a₀ : Act} {ops : Array Oper} {i : Nat} {rest : List Nat} {k : List Item} {cs : List Frame} {v : World} (hn : n < 1000000) (h0 : 0 < n)
  (h : Stand Tryz.prog m0 B (G (Frame.enter Tryz.prog 30 #[.slice (some ⟨lb,lo,none⟩) n cap] .normal) (b₀.at a₀ (.inRegion ops (i :: rest) :: k) :: cs)) v)
  (hx : ∀ j,j < n → v.cell? ⟨lb,lo + j * 2,none⟩ = some (xs j)) (hy : ∀ j,j < n → v.cell? ⟨lb,lo + j * 2 + 1,none⟩ = some (ys j))
  (hxs : ∀ j,j < n → ∃ p l q,xs j = .slice p l q) (hys : ∀ j,j < n → ∃ p l q,ys j = .slice p l q) :
  ∃ (v' : World) (B' : Nat → Prop) (l : List Nat) (tm : Bool),Stand Tryz.prog m0 B' (G (b₀.at (a₀.put ((ops[i]?).bind (·.dst)) (.chan (some v.heap.size))) (.inRegion ops rest :: k)) cs) v' ∧
   v'.heap[v.heap.size]? = some (.chan n (l.map fun j=>rep (xs j) (ys j)).toArray true l.length 0 tm) ∧ l.Perm (List.range n) ∧ Bel v.heap.size v v' ∧ ∀ b,B' b → B b ∨ v.heap.size ≤ b:=by
 obtain ⟨w,h,hz⟩:=h
 rw [enter_said] at h
 obtain ⟨w',v',B',l,tm,h1,h2,h3,h4,h5,h6⟩:=here_said hn h0 h hz hx hy hxs hys
 exact ⟨v',B',l,tm,⟨w',h1,h2⟩,h3,h4,h5,h6⟩
end Go.Proofs.YtkeapmmochpcfaaGreat.Sd
