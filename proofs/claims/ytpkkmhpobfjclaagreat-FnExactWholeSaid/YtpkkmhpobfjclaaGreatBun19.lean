/- A list of Replicas as it lies in memory: two slices each, a book and Members; a list of the call's own, no two of whose slices share memory. -/
import Derived.Test.YtpkkmhpobfjclaaGreatBun18
import Derived.Test.YtpkkmhpobfjclaaGreatBun5
import Derived.Test.YtpkkmhpobfjclaaGreatEntM
import Derived.Test.YtpkkmhpobfjclaaGreatMem2M
import Derived.Test.YtpkkmhpobfjclaaGreatEntL
import Derived.Test.YtpkkmhpobfjclaaGreatMem2L
import Derived.Test.YtpkkmhpobfjclaaGreatBoxM
import Derived.Deep.SlicePairs
set_option maxRecDepth 100000
set_option maxHeartbeats 32000000
set_option linter.unusedVariables false
namespace Go.Proofs.YtpkkmhpobfjclaaGreat.Rp
open Go.ChangeShapes Go.WideShapes Go.ChangeAt Go.RowKit
open Vv (Sl sv hidIt)
def rat (L : List Rep) (i : Nat) : Rep:=L.getD i ([],[])
theorem rat_at {L : List Rep} {i : Nat} (h : i < L.length) : rat L i = L[i]:=by
 unfold rat
 rw [List.getD_eq_getElem?_getD,List.getElem?_eq_getElem h]
 rfl
theorem rat_mem {L : List Rep} {i : Nat} (h : i < L.length) : rat L i ∈ L:=by rw [rat_at h]; exact List.getElem_mem h
theorem rat_set {L : List Rep} {i j : Nat} {x : Rep} (h : i < L.length) : rat (L.set i x) j = if i = j then x else rat L j:=by
 unfold rat
 rw [List.getD_eq_getElem?_getD,List.getD_eq_getElem?_getD,List.getElem?_set]
 by_cases e : i = j
 ·
  subst e; simp [h]
 ·
  simp [e]
theorem take_rat {L : List Rep} {i : Nat} (h : i < L.length) : L.take (i + 1) = L.take i ++ [rat L i]:=by
 rw [List.take_add_one,List.getElem?_eq_getElem h,rat_at h]
 rfl
theorem ext_rat {L M : List Rep} (h : L.length = M.length) (e : ∀ i,i < L.length → rat L i = rat M i) : L = M:=by
 refine List.ext_getElem h (fun i h1 h2=>?_)
 rw [← rat_at h1,← rat_at h2]
 exact e i h1
structure RdC (w : World) (a : Option Addr) (C : List Vv.Rw) (L : List Rep) : Prop where
 len : C.length = L.length
 row : Vv.Rd w a C
 bk : ∀ i,i < L.length → RdE w (Vv.rat C i).1 (rat L i).1
 mb : ∀ i,i < L.length → RdM w (Vv.rat C i).2 (rat L i).2
def Rd (w : World) (a : Option Addr) (L : List Rep) : Prop:=∃ C,RdC w a C L
theorem RdC.kept {w w' : World} {a : Option Addr} {C : List Vv.Rw} {L : List Rep} (h : RdC w a C L) (k : Below w.heap.size w w') : RdC w' a C L :=
 ⟨h.len,h.row.kept k,fun i hi=>(h.bk i hi).kept k,fun i hi=>(h.mb i hi).kept k⟩
theorem Rd.kept {w w' : World} {a : Option Addr} {L : List Rep} (h : Rd w a L) (k : Below w.heap.size w w') : Rd w' a L:=by
 obtain ⟨C,h⟩:=h
 exact ⟨C,h.kept k⟩
theorem Rd.nil (w : World) (a : Option Addr) : Rd w a []:=⟨[],rfl,Vv.Rd.nil _ _,fun i hi=>absurd hi (Nat.not_lt_zero _),fun i hi=>absurd hi (Nat.not_lt_zero _)⟩
theorem Rd.one {w : World} {a : Option Addr} {L : List Rep} (h : Rd w a L) {i : Nat} (hi : i < L.length) : ∃ b off s t,a = some ⟨b,off,none⟩ ∧ w.cell? ⟨b,off + i * 2,none⟩ = some (sv s) ∧ w.cell? ⟨b,off + i * 2 + 1,none⟩ = some (sv t) ∧ RdE w s (rat L i).1 ∧ RdM w t (rat L i).2:=by
 obtain ⟨C,h⟩:=h
 obtain ⟨b,off,e,c0,c1⟩:=h.row.all (i:=i) (by rw [h.len]; exact hi)
 exact ⟨b,off,_,_,e,c0,c1,h.bk i hi,h.mb i hi⟩
theorem Rd.addr {w : World} {a : Option Addr} {L : List Rep} (h : Rd w a L) (hn : 0 < L.length) : ∃ b off,a = some ⟨b,off,none⟩:=by
 obtain ⟨b,off,_,_,e,_⟩:=h.one hn
 exact ⟨b,off,e⟩
structure OwnC (w : World) (lo hi : Nat) (v : Value) (C : List Vv.Rw) (L : List Rep) : Prop where
 len : C.length = L.length
 row : Vv.Own w lo v C
 blk : ∀ g,v.ownBlock = some g → g < hi
 bk : ∀ i,i < L.length → En.Own w lo (sv (Vv.rat C i).1) (rat L i).1
 bb : ∀ i,i < L.length → ∀ g,(sv (Vv.rat C i).1).ownBlock = some g → g < hi
 mb : ∀ i,i < L.length → Mm.Own w lo (sv (Vv.rat C i).2) (rat L i).2
 bm : ∀ i,i < L.length → ∀ g,(sv (Vv.rat C i).2).ownBlock = some g → g < hi
 db : ∀ i j,i < L.length → j < L.length → i ≠ j → ∀ g,(sv (Vv.rat C i).1).ownBlock = some g → (sv (Vv.rat C j).1).ownBlock ≠ some g
 dm : ∀ i j,i < L.length → j < L.length → i ≠ j → ∀ g,(sv (Vv.rat C i).2).ownBlock = some g → (sv (Vv.rat C j).2).ownBlock ≠ some g
 hi' : hi ≤ w.heap.size
 lo' : lo ≤ hi
def Own (w : World) (lo hi : Nat) (v : Value) (L : List Rep) : Prop:=∃ C,OwnC w lo hi v C L
theorem OwnC.rd {w : World} {lo hi : Nat} {v : Value} {C : List Vv.Rw} {L : List Rep} (h : OwnC w lo hi v C L) {a : Option Addr} {m cap : Nat} (e : v = .slice a m cap) : RdC w a C L:=by
 obtain ⟨a',c',e',_,_,r,_⟩:=h.row.form
 rw [e] at e'
 obtain ⟨rfl,_,_⟩:=Value.slice.inj e'
 exact ⟨h.len,r,fun i hi=>rdE_of (h.bk i hi),fun i hi=>rdM_of (h.mb i hi)⟩
theorem Own.rd {w : World} {lo hi : Nat} {L : List Rep} {a : Option Addr} {m cap : Nat} (h : Own w lo hi (.slice a m cap) L) : Rd w a L:=by
 obtain ⟨C,h⟩:=h
 exact ⟨C,h.rd rfl⟩
theorem Own.form {w : World} {lo hi : Nat} {v : Value} {L : List Rep} (h : Own w lo hi v L) : ∃ a cap,v = .slice a L.length cap ∧ L.length ≤ cap ∧ cap ≤ 9223372036854775807 ∧ (a = none → cap = 0):=by
 obtain ⟨C,h⟩:=h
 obtain ⟨a',c',e',h1,h2,_,h4,_⟩:=h.row.form
 rw [h.len] at e' h1
 exact ⟨a',c',e',h1,h2,h4⟩
theorem Own.formN {w : World} {lo hi m : Nat} {v : Value} {L : List Rep} (h : Own w lo hi v L) (hn : L.length = m) : ∃ a cap,v = .slice a m cap ∧ m ≤ cap ∧ cap ≤ 9223372036854775807 ∧ (a = none → cap = 0):=by
 subst hn
 exact h.form
theorem OwnC.kept {w w' : World} {lo hi : Nat} {v : Value} {C : List Vv.Rw} {L : List Rep} (h : OwnC w lo hi v C L) (k : Below w.heap.size w w') : OwnC w' lo hi v C L :=
 ⟨h.len,h.row.kept k,h.blk,fun i hi=>(h.bk i hi).kept k,h.bb,fun i hi=>(h.mb i hi).kept k,h.bm,h.db,h.dm,Nat.le_trans h.hi' k.size,h.lo'⟩
theorem Own.kept {w w' : World} {lo hi : Nat} {v : Value} {L : List Rep} (h : Own w lo hi v L) (k : Below w.heap.size w w') : Own w' lo hi v L:=by
 obtain ⟨C,h⟩:=h
 exact ⟨C,h.kept k⟩
theorem Own.mono {w : World} {lo hi lo2 hi2 : Nat} {v : Value} {L : List Rep} (h : Own w lo hi v L) (h1 : lo2 ≤ lo) (h2 : hi ≤ hi2) (h3 : hi2 ≤ w.heap.size) : Own w lo2 hi2 v L:=by
 obtain ⟨C,h⟩:=h
 exact ⟨C,h.len,h.row.mono h1,fun g hg=>Nat.lt_of_lt_of_le (h.blk g hg) h2,fun i hi=>(h.bk i hi).mono h1,fun i hi g hg=>Nat.lt_of_lt_of_le (h.bb i hi g hg) h2,fun i hi=>(h.mb i hi).mono h1,fun i hi g hg=>Nat.lt_of_lt_of_le (h.bm i hi g hg) h2,h.db,h.dm,h3,by have:=h.lo'; omega⟩
theorem Own.lo_le {w : World} {lo hi : Nat} {v : Value} {L : List Rep} (h : Own w lo hi v L) : lo ≤ hi ∧ hi ≤ w.heap.size:=by
 obtain ⟨C,h⟩:=h
 exact ⟨h.lo',h.hi'⟩
theorem setTwo_only {w : World} {g o : Nat} {u v : Value} : Only g w ((w.setCell ⟨g,o,none⟩ u).setCell ⟨g,o + 1,none⟩ v):=((Only.refl g w).setCell o u).setCell (o + 1) v
theorem OwnC.put {w : World} {lo hi g m cap i : Nat} {C : List Vv.Rw} {L : List Rep} (h : OwnC w lo hi (.slice (some ⟨g,0,none⟩) m cap) C L) (hi' : i < L.length) {s t : Sl} {r : Rep} (hs : En.Own w hi (sv s) r.1) (ht : Mm.Own w hi (sv t) r.2) :
  OwnC ((w.setCell ⟨g,i * 2,none⟩ (sv s)).setCell ⟨g,i * 2 + 1,none⟩ (sv t)) lo w.heap.size (.slice (some ⟨g,0,none⟩) m cap) (C.set i (s,t)) (L.set i r):=by
 have hC : i < C.length:=by rw [h.len]; exact hi'
 have Y:=setTwo_only (w:=w) (g:=g) (o:=i * 2) (u:=sv s) (v:=sv t)
 have sz : ((w.setCell ⟨g,i * 2,none⟩ (sv s)).setCell ⟨g,i * 2 + 1,none⟩ (sv t)).heap.size = w.heap.size:=by simp [World.setCell]
 have hlo:=h.lo'
 have apE : ∀ {b : Nat} {u : Value} {M : List En.Rw},En.Own w b u M → ∀ x,u.ownBlock = some x → x ≠ g:=fun hu x hx e=>own_apart hu h.row (by decide) x hx (by rw [e]; rfl)
 have apM : ∀ {b : Nat} {u : Value} {M : List Mm.Rw},Mm.Own w b u M → ∀ x,u.ownBlock = some x → x ≠ g:=fun hu x hx e=>own_apart hu h.row (by decide) x hx (by rw [e]; rfl)
 refine ⟨by rw [List.length_set,List.length_set]; exact h.len,h.row.whole hC (s,t),fun x hx=>Nat.lt_of_lt_of_le (h.blk x hx) h.hi',fun j hj=>?_,fun j hj x hx=>?_,fun j hj=>?_,fun j hj x hx=>?_,fun j k hj hk hne x hx hy=>?_,fun j k hj hk hne x hx hy=>?_,by rw [sz]; exact Nat.le_refl _,Nat.le_trans hlo h.hi'⟩
 all_goals rw [List.length_set] at hj
 ·
  rw [Vv.rat_set hC,rat_set hi']
  by_cases e : i = j
  ·
   rw [if_pos e,if_pos e]
   exact (hs.mono hlo).only Y (.inr (apE hs))
  ·
   rw [if_neg e,if_neg e]
   exact (h.bk j hj).only Y (.inr (apE (h.bk j hj)))
 ·
  rw [Vv.rat_set hC] at hx
  by_cases e : i = j
  ·
   rw [if_pos e] at hx
   exact (World.ownsRow.lt hs x hx).2
  ·
   rw [if_neg e] at hx
   exact Nat.lt_of_lt_of_le (h.bb j hj x hx) h.hi'
 ·
  rw [Vv.rat_set hC,rat_set hi']
  by_cases e : i = j
  ·
   rw [if_pos e,if_pos e]
   exact (ht.mono hlo).only Y (.inr (apM ht))
  ·
   rw [if_neg e,if_neg e]
   exact (h.mb j hj).only Y (.inr (apM (h.mb j hj)))
 ·
  rw [Vv.rat_set hC] at hx
  by_cases e : i = j
  ·
   rw [if_pos e] at hx
   exact (World.ownsRow.lt ht x hx).2
  ·
   rw [if_neg e] at hx
   exact Nat.lt_of_lt_of_le (h.bm j hj x hx) h.hi'
 ·
  rw [List.length_set] at hk
  rw [Vv.rat_set hC] at hx hy
  by_cases e : i = j
  ·
   rw [if_pos e] at hx
   rw [if_neg (by omega)] at hy
   have h1:=(World.ownsRow.lt hs x hx).1
   have h2:=h.bb k hk x hy
   omega
  ·
   rw [if_neg e] at hx
   by_cases e2 : i = k
   ·
    rw [if_pos e2] at hy
    have h1:=(World.ownsRow.lt hs x hy).1
    have h2:=h.bb j hj x hx
    omega
   ·
    rw [if_neg e2] at hy
    exact h.db j k hj hk hne x hx hy
 ·
  rw [List.length_set] at hk
  rw [Vv.rat_set hC] at hx hy
  by_cases e : i = j
  ·
   rw [if_pos e] at hx
   rw [if_neg (by omega)] at hy
   have h1:=(World.ownsRow.lt ht x hx).1
   have h2:=h.bm k hk x hy
   omega
  ·
   rw [if_neg e] at hx
   by_cases e2 : i = k
   ·
    rw [if_pos e2] at hy
    have h1:=(World.ownsRow.lt ht x hy).1
    have h2:=h.bm j hj x hx
    omega
   ·
    rw [if_neg e2] at hy
    exact h.dm j k hj hk hne x hx hy
theorem Own.put {w : World} {lo hi g m cap i : Nat} {L : List Rep} (h : Own w lo hi (.slice (some ⟨g,0,none⟩) m cap) L) (hi' : i < L.length) {s t : Sl} {r : Rep} (hs : En.Own w hi (sv s) r.1) (ht : Mm.Own w hi (sv t) r.2) :
  Own ((w.setCell ⟨g,i * 2,none⟩ (sv s)).setCell ⟨g,i * 2 + 1,none⟩ (sv t)) lo w.heap.size (.slice (some ⟨g,0,none⟩) m cap) (L.set i r):=by
 obtain ⟨C,h⟩:=h
 exact ⟨_,h.put hi' hs ht⟩
theorem Own.cells {w : World} {lo hi g m cap i : Nat} {L : List Rep} (h : Own w lo hi (.slice (some ⟨g,0,none⟩) m cap) L) (hi' : i < L.length) : ∃ s t : Sl,w.cell? ⟨g,i * 2,none⟩ = some (sv s) ∧ w.cell? ⟨g,i * 2 + 1,none⟩ = some (sv t) ∧ w.frozen? ⟨g,i * 2,none⟩ = false ∧ w.frozen? ⟨g,i * 2 + 1,none⟩ = false ∧ En.Own w lo (sv s) (rat L i).1 ∧ Mm.Own w lo (sv t) (rat L i).2:=by
 obtain ⟨C,h⟩:=h
 have hC : i < C.length:=by rw [h.len]; exact hi'
 have c0:=h.row.at hC (j:=0) (by omega)
 have c1:=h.row.at hC (j:=1) (by omega)
 simp only [Vv.rcell,Nat.add_zero] at c0 c1
 exact ⟨_,_,c0,c1,h.row.free _,h.row.free _,h.bk i hi',h.mb i hi'⟩
theorem Own.grow {w : World} {lo hi : Nat} {v : Value} {L : List Rep} (h : Own w lo hi v L) : Own w lo w.heap.size v L:=h.mono (Nat.le_refl _) h.lo_le.2 (Nat.le_refl _)
theorem Own.made {w : World} {lo m : Nat} {v : Value} (h : Vv.Own w lo v (List.replicate m ((none,0,0),(none,0,0)))) (hl : lo ≤ w.heap.size) : Own w lo w.heap.size v (List.replicate m ([],[])):=by
 have ev : ∀ i,Vv.rat (List.replicate m (((none,0,0),(none,0,0)) : Vv.Rw)) i = ((none,0,0),(none,0,0)):=fun i=>by
  unfold Vv.rat
  rw [List.getD_eq_getElem?_getD,List.getElem?_replicate]
  split <;> rfl
 have er : ∀ i,rat (List.replicate m (([],[]) : Rep)) i = ([],[]):=fun i=>by
  unfold rat
  rw [List.getD_eq_getElem?_getD,List.getElem?_replicate]
  split <;> rfl
 refine ⟨_,by simp,h,fun g hg=>(World.ownsRow.lt h g hg).2,fun i _=>by rw [ev,er]; exact En.Own.ofNil _ _,fun i _ g hg=>?_,fun i _=>by rw [ev,er]; exact Mm.Own.ofNil _ _,fun i _ g hg=>?_,fun i j _ _ _ g hg=>?_,fun i j _ _ _ g hg=>?_,Nat.le_refl _,hl⟩
 all_goals (rw [ev] at hg; cases hg)
end Go.Proofs.YtpkkmhpobfjclaaGreat.Rp
namespace Go.Proofs.YtpkkmhpobfjclaaGreat.Rp
open Go.ChangeShapes Go.WideShapes Go.ChangeAt Go.RowKit
open Vv (Sl sv hidIt)
open Rc (BelowBy BelowBy.one wp_region_below calls_below calls_same)
def bulk : List Rep → Nat
 | []=>0
 | r :: L=>bulk1 r + bulk L
theorem bulk_app (L M : List Rep) : bulk (L ++ M) = bulk L + bulk M:=by
 induction L with
 | nil=>simp [bulk]
 | cons r L ih=>simp only [List.cons_append,bulk,ih]; omega
theorem bulk_take {L : List Rep} {i : Nat} (h : i < L.length) : bulk (L.take (i + 1)) = bulk (L.take i) + bulk1 (rat L i):=by
 rw [take_rat h,bulk_app]
 simp [bulk]
theorem bulk_take_le (L : List Rep) (i : Nat) : bulk (L.take i) ≤ bulk L:=by
 have:=bulk_app (L.take i) (L.drop i)
 rw [List.take_append_drop] at this
 omega
theorem bulk_one {L : List Rep} {i : Nat} (h : i < L.length) : bulk1 (rat L i) ≤ bulk L:=by
 have h1:=bulk_take h
 have h2:=bulk_take_le L (i + 1)
 omega
def Short (L : List Rep) : Prop:=∀ i,i < L.length → ∀ j,j < (rat L i).1.length → (En.rat (rat L i).1 j).1.size ≤ 9223372036854775807 ∧ (En.rat (rat L i).1 j).2.1.size ≤ 9223372036854775807
theorem szS_any (a : Option Addr) (cap : Nat) (L : List Rep) (l : Int) (w : World) (h : Rd w a L) (hl : L.length ≤ 9223372036854775807) (hs : Short L) (h0 : 0 ≤ l) (h1 : l ≤ 1048576) :
  Calls Tryz.prog 4 #[.slice a L.length cap,.int .i64 l] w fun e w'=>∃ q : Int,e = .returned (.int .i64 q) ∧ En.Le2 q l (L.length + bulk L) ∧ Below w.heap.size w w':=by
 have HT:=hidIt (fun i (hi : i < L.length)=>bulk_take hi)
 have HE : Hid (bulk (L.take L.length) = bulk L):=hidIt (by rw [List.take_length])
 generalize hn : L.length = m at *
 have HR:=hidIt h
 have HN:=hidIt hn
 have HS:=hidIt hs
 clear h hn hs
 have h2 : -9223372036854775808 ≤ l - (m : Int):=by omega
 have h3 : l - (m : Int) ≤ 9223372036854775807:=by omega
 by_cases hs2 : l - (m : Int) < 0
 ·
  go_enter Tryz.func4,Tryz.ntmps4
  go_wp2
  go_ret
  first | exact ⟨-1,rfl,⟨by omega,fun h=>by omega⟩,Below.refl _ _⟩ | exact ⟨⟨by omega,fun h=>by omega⟩,Below.refl _ _⟩
 ·
  have hn2 : m ≤ 1048576:=by omega
  go_enter Tryz.func4,Tryz.ntmps4
  go_wp2_with (fail)
  go_loopw [1,5] (fun z y wx=>∃ (i : Nat) (r : Int),y = .int .i64 i ∧ z = .int .i64 r ∧ 0 ≤ r ∧ r ≤ 1048576 ∧ Hid (r + (m : Int) + (bulk (L.take i) : Int) ≤ l) ∧ i ≤ m ∧ Hid (Below w.heap.size w wx)) (fun _ y _=>(m - intOf y).toNat)
  case atStart=>exact ⟨0,_,rfl,rfl,by omega,by omega,hidIt (by first | (simp [bulk]; done) | (simp [bulk]; omega)),by omega,hidIt (Below.refl _ _)⟩
  case round =>
   obtain ⟨i,r,rfl,rfl,r0,r1,HL,hi,HB⟩:=hrel
   by_cases hin : i < m
   ·
    have hin' : (i : Int) < (m : Int):=by omega
    obtain ⟨b,off,s,t,rfl,c0,c1,hE,hM⟩:=(HR.out.kept HB.out).one (i:=i) (by rw [HN.out]; exact hin)
    have HC:=hidIt (sz_any s t (rat L i) r wr hE hM (HS.out i (by rw [HN.out]; exact hin)) r0 r1)
    clear hE hM
    obtain ⟨s0,s1,s2⟩:=s
    obtain ⟨t0,t1,t2⟩:=t
    simp only [sv] at c0 c1 HC
    go_wp2_with (fail)
    refine HC.out.mono ?_
    rintro e w1 ⟨q,rfl,hq,hb1⟩
    have HB1:=hidIt (on HB.out hb1)
    have HQ:=hidIt hq
    have q1:=hq.le
    clear hb1 HB HC hq
    by_cases hneg : q < 0
    ·
     go_wp2_with (fail)
     go_ret
     have:=HL.out
     first | exact ⟨-1,rfl,⟨by omega,fun h=>by omega⟩,HB1.out⟩ | exact ⟨⟨by omega,fun h=>by omega⟩,HB1.out⟩
    ·
     go_wp2_with (fail)
     refine ⟨⟨i + 1,q,by simp,rfl,by omega,by omega,hidIt ?_,by omega,HB1⟩,by simp [intOf]; omega⟩
     have e1:=HL.out
     have e2:=HQ.out.sum (by omega)
     have e3:=HT.out i hin
     rw [e3]
     omega
   ·
    have hin' : ¬ (i : Int) < (m : Int):=by omega
    obtain rfl : i = m:=by omega
    go_wp2_with (fail)
    go_ret
    have e1:=HL.out
    rw [HE.out] at e1
    first | exact ⟨r,rfl,⟨by omega,fun _=>by omega⟩,HB.out⟩ | exact ⟨⟨by omega,fun _=>by omega⟩,HB.out⟩
end Go.Proofs.YtpkkmhpobfjclaaGreat.Rp
namespace Go.Proofs.YtpkkmhpobfjclaaGreat.Rp
open Go.ChangeShapes Go.WideShapes Go.ChangeAt Go.RowKit
open Vv (Sl sv hidIt)
structure In (w : World) (a : Option Addr) (cap : Nat) (L : List Rep) : Prop where
 rd : Rd w a L
 na : a = none → cap = 0
 le : L.length ≤ cap
 cap : cap ≤ 9223372036854775807
 short : Short L
theorem rat_map (m : Nat) (f : Nat → Rep) (i : Nat) (hi : i < m) : rat ((List.range m).map f) i = f i:=by
 unfold rat
 rw [List.getD_eq_getElem?_getD,List.getElem?_map,List.getElem?_range hi]
 rfl
theorem open_reps {H : Type} {enc : TypeId × Value → H} {w : World} {r : Reach} {b0 base : Nat} {spare : Nat → Bool} {held : Bool} {v : Value} {d : DataW H} {p : List MemPlace}
  (hv : Value.okWide Tryz.prog w r b0 22 v) (h : DataW.Trod enc Tryz.prog w base spare held 22 v d p) : ∃ (a : Option Addr) (cap : Nat) (L : List Rep),v = .slice a L.length cap ∧ In w a cap L:=by
 obtain ⟨a,len,cap,rfl⟩:=okWide_slice Tryz.underlying22 hv
 obtain ⟨fuel,hf⟩:=h
 have hf' : DataW.trod enc Tryz.prog w base spare held fuel 22 [.slice a len cap] = some (d,p):=by simpa [Value.cells] using hf
 rcases Go.Deep.open_slice_pairs Tryz.underlying22 Tryz.underlying40 (by kernel_rfl) rfl rfl (by kernel_rfl) (by kernel_rfl) hf' with ⟨hcs,_⟩ | ⟨x,len',cap',m,n,V0,V1,D0,D1,P0,P1,hcs,_,hl,hc,hm,_,hx⟩
 ·
  simp at hcs
  obtain ⟨rfl,rfl,rfl⟩:=hcs
  exact ⟨none,0,[],rfl,Rd.nil _ _,fun _=>rfl,Nat.zero_le _,by decide,fun i hi=>by simp at hi⟩
 ·
  simp at hcs
  obtain ⟨rfl,rfl,rfl⟩:=hcs
  have hlm : len ≤ m:=by rw [hm]; split <;> omega
  have each : ∀ i,i < len → ∃ y : Vv.Rw × Rep,w.cell? (x.add (i * 2)) = some (sv y.1.1) ∧ w.cell? (x.add (i * 2 + 1)) = some (sv y.1.2) ∧ RdE w y.1.1 y.2.1 ∧ RdM w y.1.2 y.2.2 ∧ (∀ j,j < y.2.1.length → (En.rat y.2.1 j).1.size ≤ 9223372036854775807 ∧ (En.rat y.2.1 j).2.1.size ≤ 9223372036854775807):=by
   intro i hi
   obtain ⟨c0,c1,g0,g1⟩:=hx i (by omega)
   obtain ⟨a0,k0,L0,e0,I0⟩:=En.open_cells Tryz.underlying37 Tryz.underlying84 (by kernel_rfl) rfl rfl rfl rfl rfl (by kernel_rfl) (by kernel_rfl) (by kernel_rfl) (by kernel_rfl) (by kernel_rfl) Tryz.underlying9 Tryz.underlying9 Tryz.underlying2 Tryz.underlying2 Tryz.underlying4 g0
   obtain ⟨a1,k1,L1,e1,I1⟩:=Mm.open_cells Tryz.underlying38 Tryz.underlying90 (by kernel_rfl) rfl rfl rfl (by kernel_rfl) (by kernel_rfl) (by kernel_rfl) Tryz.underlying2 Tryz.underlying2 Tryz.underlying2 g1
   rw [e0] at c0
   rw [e1] at c1
   exact ⟨(((a0,L0.length,k0),(a1,L1.length,k1)),(L0,L1)),c0,c1,⟨rfl,I0.rd,I0.na,I0.le,I0.cap⟩,⟨rfl,I1.rd,I1.na,I1.le,I1.cap⟩,I0.short⟩
  haveI : Inhabited (Vv.Rw × Rep):=⟨(((none,0,0),(none,0,0)),([],[]))⟩
  obtain ⟨f,hf''⟩:=Go.Deep.choose_lt each
  refine ⟨some x,cap,(List.range len).map (fun i=>(f i).2),by simp,⟨(List.range len).map (fun i=>(f i).1),by simp,⟨fun i hi=>?_⟩,fun i hi=>?_,fun i hi=>?_⟩,(fun e=>by cases e),by simpa using hl,hc,fun i hi=>?_⟩
  ·
   have hi' : i < len:=by simpa using hi
   have z0:=(hf'' 0 (by omega)).1
   obtain ⟨b,off,spot⟩:=x
   have hspot : spot = none:=by simpa [Addr.add] using World.cell?_spot z0
   subst hspot
   refine ⟨b,off,rfl,fun j hj=>?_⟩
   obtain ⟨d0,d1,_⟩:=hf'' i hi'
   rw [Go.WideShapes.add_plain] at d0 d1
   rw [Vv.rat_map _ _ _ hi']
   match j,hj with
   | 0,_=>exact d0
   | 1,_=>exact d1
  ·
   have hi' : i < len:=by simpa using hi
   rw [Vv.rat_map _ _ _ hi',rat_map _ _ _ hi']
   exact (hf'' i hi').2.2.1
  ·
   have hi' : i < len:=by simpa using hi
   rw [Vv.rat_map _ _ _ hi',rat_map _ _ _ hi']
   exact (hf'' i hi').2.2.2.1
  ·
   have hi' : i < len:=by simpa using hi
   rw [rat_map _ _ _ hi']
   exact (hf'' i hi').2.2.2.2
end Go.Proofs.YtpkkmhpobfjclaaGreat.Rp
namespace Go.Proofs.YtpkkmhpobfjclaaGreat.Rp
open Go.ChangeShapes Go.WideShapes Go.ChangeAt Go.RowKit
open Vv (Sl sv hidIt)
open Rc (BelowBy BelowBy.one wp_region_below calls_below calls_same)
def LstP (w : World) (L : List Rep) (e : Ending) (w' : World) : Prop:=∃ v,e = .returned v ∧ Own w' w.heap.size w'.heap.size v L ∧ Below w.heap.size w w'
theorem LstP.of {w w' : World} {L : List Rep} {e : Ending} {v : Value} (h : e = .returned v) (h1 : Own w' w.heap.size w'.heap.size v L) (h2 : Below w.heap.size w w') : LstP w L e w':=⟨v,h,h1,h2⟩
theorem LstP.out {w w' : World} {L : List Rep} {e : Ending} (h : LstP w L e w') : ∃ v,e = .returned v ∧ Own w' w.heap.size w'.heap.size v L ∧ Below w.heap.size w w':=h
theorem pcells_zero (m : Nat) : Vv.rcells (List.replicate m ((none,0,0),(none,0,0))) = (madeCells #[.slice none 0 0,.slice none 0 0] (m * 2)).toList:=by
 apply List.ext_getElem?
 intro x
 by_cases hx : x < m * 2
 ·
  have e : x = x / 2 * 2 + x % 2:=by omega
  have h1:=Vv.rcells_get (List.replicate m ((none,0,0),(none,0,0))) (x / 2) (x % 2) (by rw [List.length_replicate]; omega) (by omega)
  rw [← e] at h1
  have h2 : Vv.rat (List.replicate m ((none,0,0),(none,0,0))) (x / 2) = ((none,0,0),(none,0,0)):=by
   rw [Vv.rat_at (by rw [List.length_replicate]; omega),List.getElem_replicate]
  rw [h1,h2]
  have h3 : x % 2 = 0 ∨ x % 2 = 1:=by omega
  rcases h3 with h | h <;> simp [madeCells,hx,h,Vv.rcell]
 ·
  rw [List.getElem?_eq_none (by rw [Vv.rcells_length,List.length_replicate]; omega),List.getElem?_eq_none (by simp [madeCells]; omega)]
theorem toS_any (a : Option Addr) (cap : Nat) (L : List Rep) (w : World) (h : Rd w a L) (hl : L.length ≤ 1048576) (hb : bulk L ≤ 1048576) :
  Calls Tryz.prog 6 #[.slice a L.length cap] w fun e w'=>LstP w L e w':=by
 have HBk:=hidIt (fun i (hi : i < L.length)=>bulk_one hi)
 generalize hn : L.length = m at *
 obtain ⟨i0,hi,hz0,hz1,hz2⟩:=info_parts Vv.infoRw
 have HR:=hidIt h
 have HN:=hidIt hn
 clear h hn
 go_enter Tryz.func6,Tryz.ntmps6
 go_wp2_with (first
  | (at_make; refine wpList_make_full _ rfl _ _ 29 rfl w.heap.size 27 i0 (.agg #[.slice none 0 0,.slice none 0 0]) 2 Tryz.underlying29 hi hz0 hz1 _ _ _ _ m rfl rfl (by omega) (by omega) (by rw [hz2]; omega) (by unfold maxLen; omega) (Nat.le_refl _) ?_)
  | fail)
 intro w1 hown hgrow
 have HV : Vv.Own w1 w.heap.size (.slice (some ⟨w.heap.size,0,none⟩) m m) (List.replicate m ((none,0,0),(none,0,0))):=by
  unfold Vv.Own
  rw [List.length_replicate,pcells_zero]
  exact hown
 have HB:=hidIt ((Below.refl w.heap.size w).grown hgrow (Nat.le_refl _) (fun k hk=>by cases hk))
 have HO:=hidIt (Own.made HV HB.out.size)
 clear hown hgrow HV
 go_wp2_with (fail)
 go_loopw [4] (fun y wx=>∃ (i : Nat) (M : List Rep),y = .int .i64 i ∧ i ≤ m ∧ M.length = m ∧ Hid (∀ j,j < i → rat M j = rat L j) ∧ Hid (Own wx w.heap.size wx.heap.size (.slice (some ⟨w.heap.size,0,none⟩) m m) M) ∧ Hid (Below w.heap.size w wx)) (fun y _=>(m - intOf y).toNat)
 case atStart=>exact ⟨0,_,rfl,by omega,by simp,hidIt (fun j hj=>by omega),HO,HB⟩
 case round =>
  obtain ⟨i,M,rfl,hin0,hM,hE,HOx,HBx⟩:=hrel
  have HM:=hidIt hM
  clear HO HB hM
  by_cases hin : i < m
  ·
   have hin' : (i : Int) < (m : Int):=by omega
   obtain ⟨b,off,s,t,rfl,c0,c1,rE,rM⟩:=(HR.out.kept HBx.out).one (i:=i) (by rw [HN.out]; exact hin)
   have hbk:=HBk.out i hin
   have HC:=hidIt (to_any s t (rat L i) wr rE rM (by unfold bulk1 at hbk; omega) (by unfold bulk1 at hbk; omega))
   clear rE rM hbk
   obtain ⟨s0,s1,s2⟩:=s
   obtain ⟨t0,t1,t2⟩:=t
   simp only [sv] at c0 c1 HC
   go_wp2_with (fail)
   refine HC.out.mono ?_
   intro e w2 hz
   obtain ⟨⟨x0,x1,x2⟩,⟨y0,y1,y2⟩,rfl,oE,oM,hb2⟩:=hz.out
   have hiM : i < M.length:=by rw [HM.out]; exact hin
   have HB2:=hidIt (on HBx.out hb2)
   have HO2:=hidIt (HOx.out.kept hb2)
   have HO3:=hidIt (HO2.out.put hiM oE oM)
   obtain ⟨p,q,z0,z1,g0,g1,_,_⟩:=HO2.out.cells hiM
   have HB3:=hidIt ((HB2.out.setCell (p:=⟨w.heap.size,i * 2,none⟩) (Nat.le_refl _) (.slice x0 x1 x2)).setCell (p:=⟨w.heap.size,i * 2 + 1,none⟩) (Nat.le_refl _) (.slice y0 y1 y2))
   have HO4:=hidIt HO3.out.grow
   clear hz oE oM hb2 HC HO2 HB2 HOx HBx HO3
   obtain ⟨p0,p1,p2⟩:=p
   obtain ⟨q0,q1,q2⟩:=q
   simp only [sv] at z0 z1 HO4
   go_wp2_with (fail)
   refine ⟨⟨i + 1,M.set i (rat L i),by simp,by omega,by rw [List.length_set]; exact HM.out,hidIt (fun j hj=>?_),HO4,HB3⟩,by simp [intOf]; omega⟩
   rw [rat_set hiM]
   split
   ·
    rename_i e; rw [e]
   ·
    exact hE.out j (by omega)
  ·
   have hin' : ¬ (i : Int) < (m : Int):=by omega
   have eM : M = L:=ext_rat (by rw [HM.out,HN.out]) (fun j hj=>hE.out j (by rw [HM.out] at hj; omega))
   subst eM
   go_wp2_with (fail)
   go_ret
   exact LstP.of rfl HOx.out HBx.out
end Go.Proofs.YtpkkmhpobfjclaaGreat.Rp
