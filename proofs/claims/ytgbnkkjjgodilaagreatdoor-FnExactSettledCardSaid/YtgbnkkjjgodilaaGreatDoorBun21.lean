/- A list of Replicas as it lies in memory: two slices each, a book and Members; a list of the call's own, no two of whose slices share memory. -/
import Derived.Test.YtgbnkkjjgodilaaGreatDoorBun20
import Derived.Test.YtgbnkkjjgodilaaGreatDoorBun15
import Derived.Test.YtgbnkkjjgodilaaGreatDoorBun13
import Derived.Test.YtgbnkkjjgodilaaGreatDoorBun5
import Derived.Test.YtgbnkkjjgodilaaGreatDoorMem2M
import Derived.Test.YtgbnkkjjgodilaaGreatDoorBun7
import Derived.Test.YtgbnkkjjgodilaaGreatDoorMem2L
import Derived.Test.YtgbnkkjjgodilaaGreatDoorBoxM
import Derived.Test.YtgbnkkjjgodilaaGreatDoorBun8
import Derived.Test.YtgbnkkjjgodilaaGreatDoorMem2N
import Derived.Test.YtgbnkkjjgodilaaGreatDoorBun4
set_option maxRecDepth 100000
set_option maxHeartbeats 32000000
set_option linter.unusedVariables false
namespace Go.Proofs.YtgbnkkjjgodilaaGreatDoor.Rp
open Go.ChangeShapes Go.WideShapes Go.ChangeAt Go.RowKit
open Vv (Sl sv hidIt)
def rat (L : List Rep) (i : Nat) : Rep:=L.getD i ([],[])
theorem rat_at {L : List Rep} {i : Nat} (h : i < L.length) : rat L i = L[i]:=by
 unfold rat
 rw [List.getD_eq_getElem?_getD,List.getElem?_eq_getElem h]
 rfl
theorem rat_mem {L : List Rep} {i : Nat} (h : i < L.length) : rat L i ∈ L:=by rw [rat_at h]; exact List.getElem_mem h
theorem rat_set {L : List Rep} {i j : Nat} {x : Rep} (h : i < L.length) : rat (L.set i x) j = if i = j then x else rat L j:=by
 unfold rat
 rw [List.getD_eq_getElem?_getD,List.getD_eq_getElem?_getD,List.getElem?_set]
 by_cases e : i = j
 ·
  subst e; simp [h]
 ·
  simp [e]
theorem rat_app {L M : List Rep} {i : Nat} (h : i < L.length) : rat (L ++ M) i = rat L i:=by
 unfold rat
 rw [List.getD_eq_getElem?_getD,List.getD_eq_getElem?_getD,List.getElem?_append_left h]
theorem rat_last (L : List Rep) (x : Rep) : rat (L ++ [x]) L.length = x:=by
 unfold rat
 rw [List.getD_eq_getElem?_getD,List.getElem?_append_right (Nat.le_refl _)]
 simp
theorem take_rat {L : List Rep} {i : Nat} (h : i < L.length) : L.take (i + 1) = L.take i ++ [rat L i]:=by
 rw [List.take_add_one,List.getElem?_eq_getElem h,rat_at h]
 rfl
theorem ext_rat {L M : List Rep} (h : L.length = M.length) (e : ∀ i,i < L.length → rat L i = rat M i) : L = M:=by
 refine List.ext_getElem h (fun i h1 h2=>?_)
 rw [← rat_at h1,← rat_at h2]
 exact e i h1
theorem vat_app {L M : List Vv.Rw} {i : Nat} (h : i < L.length) : Vv.rat (L ++ M) i = Vv.rat L i:=by
 unfold Vv.rat
 rw [List.getD_eq_getElem?_getD,List.getD_eq_getElem?_getD,List.getElem?_append_left h]
theorem vat_last (L : List Vv.Rw) (x : Vv.Rw) : Vv.rat (L ++ [x]) L.length = x:=by
 unfold Vv.rat
 rw [List.getD_eq_getElem?_getD,List.getElem?_append_right (Nat.le_refl _)]
 simp
structure RdC (w : World) (a : Option Addr) (C : List Vv.Rw) (L : List Rep) : Prop where
 len : C.length = L.length
 row : Vv.Rd w a C
 bk : ∀ i,i < L.length → RdE w (Vv.rat C i).1 (rat L i).1
 mb : ∀ i,i < L.length → RdM w (Vv.rat C i).2 (rat L i).2
def Rd (w : World) (a : Option Addr) (L : List Rep) : Prop:=∃ C,RdC w a C L
theorem RdC.kept {w w' : World} {a : Option Addr} {C : List Vv.Rw} {L : List Rep} (h : RdC w a C L) (k : Below w.heap.size w w') : RdC w' a C L :=
 ⟨h.len,h.row.kept k,fun i hi=>(h.bk i hi).kept k,fun i hi=>(h.mb i hi).kept k⟩
theorem Rd.kept {w w' : World} {a : Option Addr} {L : List Rep} (h : Rd w a L) (k : Below w.heap.size w w') : Rd w' a L:=by
 obtain ⟨C,h⟩:=h
 exact ⟨C,h.kept k⟩
theorem Rd.one {w : World} {a : Option Addr} {L : List Rep} (h : Rd w a L) {i : Nat} (hi : i < L.length) : ∃ b off s t,a = some ⟨b,off,none⟩ ∧ w.cell? ⟨b,off + i * 2,none⟩ = some (sv s) ∧ w.cell? ⟨b,off + i * 2 + 1,none⟩ = some (sv t) ∧ RdE w s (rat L i).1 ∧ RdM w t (rat L i).2:=by
 obtain ⟨C,h⟩:=h
 obtain ⟨b,off,e,c0,c1⟩:=h.row.all (i:=i) (by rw [h.len]; exact hi)
 exact ⟨b,off,_,_,e,c0,c1,h.bk i hi,h.mb i hi⟩
theorem Rd.addr {w : World} {a : Option Addr} {L : List Rep} (h : Rd w a L) (hn : 0 < L.length) : ∃ b off,a = some ⟨b,off,none⟩:=by
 obtain ⟨b,off,_,_,e,_⟩:=h.one hn
 exact ⟨b,off,e⟩
structure OwnC (w : World) (lo hi : Nat) (v : Value) (C : List Vv.Rw) (L : List Rep) : Prop where
 len : C.length = L.length
 row : Vv.Own w lo v C
 blk : ∀ g,v.ownBlock = some g → g < hi
 bk : ∀ i,i < L.length → En.Own w lo (sv (Vv.rat C i).1) (rat L i).1
 bb : ∀ i,i < L.length → ∀ g,(sv (Vv.rat C i).1).ownBlock = some g → g < hi
 mb : ∀ i,i < L.length → Mm.Own w lo (sv (Vv.rat C i).2) (rat L i).2
 bm : ∀ i,i < L.length → ∀ g,(sv (Vv.rat C i).2).ownBlock = some g → g < hi
 db : ∀ i j,i < L.length → j < L.length → i ≠ j → ∀ g,(sv (Vv.rat C i).1).ownBlock = some g → (sv (Vv.rat C j).1).ownBlock ≠ some g
 dm : ∀ i j,i < L.length → j < L.length → i ≠ j → ∀ g,(sv (Vv.rat C i).2).ownBlock = some g → (sv (Vv.rat C j).2).ownBlock ≠ some g
 hi' : hi ≤ w.heap.size
 lo' : lo ≤ hi
def Own (w : World) (lo hi : Nat) (v : Value) (L : List Rep) : Prop:=∃ C,OwnC w lo hi v C L
theorem OwnC.rd {w : World} {lo hi : Nat} {v : Value} {C : List Vv.Rw} {L : List Rep} (h : OwnC w lo hi v C L) {a : Option Addr} {m cap : Nat} (e : v = .slice a m cap) : RdC w a C L:=by
 obtain ⟨a',c',e',_,_,r,_⟩:=h.row.form
 rw [e] at e'
 obtain ⟨rfl,_,_⟩:=Value.slice.inj e'
 exact ⟨h.len,r,fun i hi=>rdE_of (h.bk i hi),fun i hi=>rdM_of (h.mb i hi)⟩
theorem Own.rd {w : World} {lo hi : Nat} {L : List Rep} {a : Option Addr} {m cap : Nat} (h : Own w lo hi (.slice a m cap) L) : Rd w a L:=by
 obtain ⟨C,h⟩:=h
 exact ⟨C,h.rd rfl⟩
theorem Own.form {w : World} {lo hi : Nat} {v : Value} {L : List Rep} (h : Own w lo hi v L) : ∃ a cap,v = .slice a L.length cap ∧ L.length ≤ cap ∧ cap ≤ 9223372036854775807 ∧ (a = none → cap = 0):=by
 obtain ⟨C,h⟩:=h
 obtain ⟨a',c',e',h1,h2,_,h4,_⟩:=h.row.form
 rw [h.len] at e' h1
 exact ⟨a',c',e',h1,h2,h4⟩
theorem Own.formN {w : World} {lo hi m : Nat} {v : Value} {L : List Rep} (h : Own w lo hi v L) (hn : L.length = m) : ∃ a cap,v = .slice a m cap ∧ m ≤ cap ∧ cap ≤ 9223372036854775807 ∧ (a = none → cap = 0):=by
 subst hn
 exact h.form
theorem OwnC.kept {w w' : World} {lo hi : Nat} {v : Value} {C : List Vv.Rw} {L : List Rep} (h : OwnC w lo hi v C L) (k : Below w.heap.size w w') : OwnC w' lo hi v C L :=
 ⟨h.len,h.row.kept k,h.blk,fun i hi=>(h.bk i hi).kept k,h.bb,fun i hi=>(h.mb i hi).kept k,h.bm,h.db,h.dm,Nat.le_trans h.hi' k.size,h.lo'⟩
theorem Own.kept {w w' : World} {lo hi : Nat} {v : Value} {L : List Rep} (h : Own w lo hi v L) (k : Below w.heap.size w w') : Own w' lo hi v L:=by
 obtain ⟨C,h⟩:=h
 exact ⟨C,h.kept k⟩
theorem Own.mono {w : World} {lo hi lo2 hi2 : Nat} {v : Value} {L : List Rep} (h : Own w lo hi v L) (h1 : lo2 ≤ lo) (h2 : hi ≤ hi2) (h3 : hi2 ≤ w.heap.size) : Own w lo2 hi2 v L:=by
 obtain ⟨C,h⟩:=h
 exact ⟨C,h.len,h.row.mono h1,fun g hg=>Nat.lt_of_lt_of_le (h.blk g hg) h2,fun i hi=>(h.bk i hi).mono h1,fun i hi g hg=>Nat.lt_of_lt_of_le (h.bb i hi g hg) h2,fun i hi=>(h.mb i hi).mono h1,fun i hi g hg=>Nat.lt_of_lt_of_le (h.bm i hi g hg) h2,h.db,h.dm,h3,by have:=h.lo'; omega⟩
theorem Own.new (w : World) : Own (w.alloc (.cells #[] 43)) w.heap.size (w.heap.size + 1) (.slice (some ⟨w.heap.size,0,none⟩) 0 0) [] :=
 ⟨[],rfl,Vv.Own.new w,fun g hg=>by simp [Value.ownBlock] at hg; omega,fun i hi=>absurd hi (Nat.not_lt_zero _),fun i hi=>absurd hi (Nat.not_lt_zero _),fun i hi=>absurd hi (Nat.not_lt_zero _),fun i hi=>absurd hi (Nat.not_lt_zero _),fun i j hi=>absurd hi (Nat.not_lt_zero _),fun i j hi=>absurd hi (Nat.not_lt_zero _),by simp,by omega⟩
theorem Own.lo_le {w : World} {lo hi : Nat} {v : Value} {L : List Rep} (h : Own w lo hi v L) : lo ≤ hi ∧ hi ≤ w.heap.size:=by
 obtain ⟨C,h⟩:=h
 exact ⟨h.lo',h.hi'⟩
theorem setTwo_only {w : World} {g o : Nat} {u v : Value} : Only g w ((w.setCell ⟨g,o,none⟩ u).setCell ⟨g,o + 1,none⟩ v):=((Only.refl g w).setCell o u).setCell (o + 1) v
theorem OwnC.put {w : World} {lo hi g m cap i : Nat} {C : List Vv.Rw} {L : List Rep} (h : OwnC w lo hi (.slice (some ⟨g,0,none⟩) m cap) C L) (hi' : i < L.length) {s t : Sl} {r : Rep} (hs : En.Own w hi (sv s) r.1) (ht : Mm.Own w hi (sv t) r.2) :
  OwnC ((w.setCell ⟨g,i * 2,none⟩ (sv s)).setCell ⟨g,i * 2 + 1,none⟩ (sv t)) lo w.heap.size (.slice (some ⟨g,0,none⟩) m cap) (C.set i (s,t)) (L.set i r):=by
 have hC : i < C.length:=by rw [h.len]; exact hi'
 have Y:=setTwo_only (w:=w) (g:=g) (o:=i * 2) (u:=sv s) (v:=sv t)
 have sz : ((w.setCell ⟨g,i * 2,none⟩ (sv s)).setCell ⟨g,i * 2 + 1,none⟩ (sv t)).heap.size = w.heap.size:=by simp [World.setCell]
 have hlo:=h.lo'
 have apE : ∀ {b : Nat} {u : Value} {M : List En.Rw},En.Own w b u M → ∀ x,u.ownBlock = some x → x ≠ g:=fun hu x hx e=>own_apart hu h.row (by decide) x hx (by rw [e]; rfl)
 have apM : ∀ {b : Nat} {u : Value} {M : List Mm.Rw},Mm.Own w b u M → ∀ x,u.ownBlock = some x → x ≠ g:=fun hu x hx e=>own_apart hu h.row (by decide) x hx (by rw [e]; rfl)
 refine ⟨by rw [List.length_set,List.length_set]; exact h.len,h.row.whole hC (s,t),fun x hx=>Nat.lt_of_lt_of_le (h.blk x hx) h.hi',fun j hj=>?_,fun j hj x hx=>?_,fun j hj=>?_,fun j hj x hx=>?_,fun j k hj hk hne x hx hy=>?_,fun j k hj hk hne x hx hy=>?_,by rw [sz]; exact Nat.le_refl _,Nat.le_trans hlo h.hi'⟩
 all_goals rw [List.length_set] at hj
 ·
  rw [Vv.rat_set hC,rat_set hi']
  by_cases e : i = j
  ·
   rw [if_pos e,if_pos e]
   exact (hs.mono hlo).only Y (.inr (apE hs))
  ·
   rw [if_neg e,if_neg e]
   exact (h.bk j hj).only Y (.inr (apE (h.bk j hj)))
 ·
  rw [Vv.rat_set hC] at hx
  by_cases e : i = j
  ·
   rw [if_pos e] at hx
   exact (World.ownsRow.lt hs x hx).2
  ·
   rw [if_neg e] at hx
   exact Nat.lt_of_lt_of_le (h.bb j hj x hx) h.hi'
 ·
  rw [Vv.rat_set hC,rat_set hi']
  by_cases e : i = j
  ·
   rw [if_pos e,if_pos e]
   exact (ht.mono hlo).only Y (.inr (apM ht))
  ·
   rw [if_neg e,if_neg e]
   exact (h.mb j hj).only Y (.inr (apM (h.mb j hj)))
 ·
  rw [Vv.rat_set hC] at hx
  by_cases e : i = j
  ·
   rw [if_pos e] at hx
   exact (World.ownsRow.lt ht x hx).2
  ·
   rw [if_neg e] at hx
   exact Nat.lt_of_lt_of_le (h.bm j hj x hx) h.hi'
 ·
  rw [List.length_set] at hk
  rw [Vv.rat_set hC] at hx hy
  by_cases e : i = j
  ·
   rw [if_pos e] at hx
   rw [if_neg (by omega)] at hy
   have h1:=(World.ownsRow.lt hs x hx).1
   have h2:=h.bb k hk x hy
   omega
  ·
   rw [if_neg e] at hx
   by_cases e2 : i = k
   ·
    rw [if_pos e2] at hy
    have h1:=(World.ownsRow.lt hs x hy).1
    have h2:=h.bb j hj x hx
    omega
   ·
    rw [if_neg e2] at hy
    exact h.db j k hj hk hne x hx hy
 ·
  rw [List.length_set] at hk
  rw [Vv.rat_set hC] at hx hy
  by_cases e : i = j
  ·
   rw [if_pos e] at hx
   rw [if_neg (by omega)] at hy
   have h1:=(World.ownsRow.lt ht x hx).1
   have h2:=h.bm k hk x hy
   omega
  ·
   rw [if_neg e] at hx
   by_cases e2 : i = k
   ·
    rw [if_pos e2] at hy
    have h1:=(World.ownsRow.lt ht x hy).1
    have h2:=h.bm j hj x hx
    omega
   ·
    rw [if_neg e2] at hy
    exact h.dm j k hj hk hne x hx hy
theorem Own.put {w : World} {lo hi g m cap i : Nat} {L : List Rep} (h : Own w lo hi (.slice (some ⟨g,0,none⟩) m cap) L) (hi' : i < L.length) {s t : Sl} {r : Rep} (hs : En.Own w hi (sv s) r.1) (ht : Mm.Own w hi (sv t) r.2) :
  Own ((w.setCell ⟨g,i * 2,none⟩ (sv s)).setCell ⟨g,i * 2 + 1,none⟩ (sv t)) lo w.heap.size (.slice (some ⟨g,0,none⟩) m cap) (L.set i r):=by
 obtain ⟨C,h⟩:=h
 exact ⟨_,h.put hi' hs ht⟩
theorem Own.cells {w : World} {lo hi g m cap i : Nat} {L : List Rep} (h : Own w lo hi (.slice (some ⟨g,0,none⟩) m cap) L) (hi' : i < L.length) : ∃ s t : Sl,w.cell? ⟨g,i * 2,none⟩ = some (sv s) ∧ w.cell? ⟨g,i * 2 + 1,none⟩ = some (sv t) ∧ w.frozen? ⟨g,i * 2,none⟩ = false ∧ w.frozen? ⟨g,i * 2 + 1,none⟩ = false ∧ En.Own w lo (sv s) (rat L i).1 ∧ Mm.Own w lo (sv t) (rat L i).2:=by
 obtain ⟨C,h⟩:=h
 have hC : i < C.length:=by rw [h.len]; exact hi'
 have c0:=h.row.at hC (j:=0) (by omega)
 have c1:=h.row.at hC (j:=1) (by omega)
 simp only [Vv.rcell,Nat.add_zero] at c0 c1
 exact ⟨_,_,c0,c1,h.row.free _,h.row.free _,h.bk i hi',h.mb i hi'⟩
theorem Own.grow {w : World} {lo hi : Nat} {v : Value} {L : List Rep} (h : Own w lo hi v L) : Own w lo w.heap.size v L:=h.mono (Nat.le_refl _) h.lo_le.2 (Nat.le_refl _)
theorem row_grown {w w' : World} {b b' e e' s s' n n' : Nat} {u v : Value} {xs ys : List Value} (hu : w.ownsRow b e s u n xs) (hv : w.ownsRow b' e' s' v n' ys) (g : w.grownBy w' v.ownBlock) (hd : ∀ x,u.ownBlock = some x → v.ownBlock ≠ some x) : w'.ownsRow b e s u n xs :=
 World.ownsRow.kept hu g (by
  cases hub : u.ownBlock with
  | none=>exact .inl rfl
  | some x=>exact .inr (fun e=>hd x hub e.symm))
theorem OwnC.more {w w' : World} {lo hi N : Nat} {v v' : Value} {C : List Vv.Rw} {L : List Rep} (h : OwnC w lo hi v C L) {s t : Sl} {r : Rep} (hv' : Vv.Own w' lo v' (C ++ [(s,t)])) (g : w.grownBy w' v.ownBlock) (hs : En.Own w N (sv s) r.1) (ht : Mm.Own w N (sv t) r.2) (hN : hi ≤ N) : OwnC w' lo w'.heap.size v' (C ++ [(s,t)]) (L ++ [r]):=by
 have hlo:=h.lo'
 have sz:=g.size
 have E : ∀ {b : Nat} {u : Value} {M : List En.Rw},En.Own w b u M → En.Own w' b u M:=fun hu=>row_grown hu h.row g (own_apart hu h.row (by decide))
 have M : ∀ {b : Nat} {u : Value} {M : List Mm.Rw},Mm.Own w b u M → Mm.Own w' b u M:=fun hu=>row_grown hu h.row g (own_apart hu h.row (by decide))
 have cs : ∀ j,j < (L ++ [r]).length → (j < L.length ∧ Vv.rat (C ++ [(s,t)]) j = Vv.rat C j ∧ rat (L ++ [r]) j = rat L j) ∨ (j = L.length ∧ Vv.rat (C ++ [(s,t)]) j = (s,t) ∧ rat (L ++ [r]) j = r):=fun j hj=>by
  rw [List.length_append,List.length_singleton] at hj
  by_cases q : j < L.length
  ·
   exact .inl ⟨q,vat_app (by rw [h.len]; exact q),rat_app q⟩
  ·
   obtain rfl : j = L.length:=by omega
   exact .inr ⟨rfl,by rw [← h.len]; exact vat_last C (s,t),rat_last L r⟩
 refine ⟨by rw [List.length_append,List.length_append,h.len]; rfl,hv',fun x hx=>(World.ownsRow.lt hv' x hx).2,fun j hj=>?_,fun j hj x hx=>?_,fun j hj=>?_,fun j hj x hx=>?_,fun j k hj hk hne x hx hy=>?_,fun j k hj hk hne x hx hy=>?_,Nat.le_refl _,Nat.le_trans hlo (Nat.le_trans h.hi' sz)⟩
 ·
  rcases cs j hj with ⟨q,e1,e2⟩ | ⟨q,e1,e2⟩
  ·
   rw [e1,e2]; exact E (h.bk j q)
  ·
   rw [e1,e2]; exact (E hs).mono (by omega)
 ·
  rcases cs j hj with ⟨q,e1,e2⟩ | ⟨q,e1,e2⟩
  ·
   rw [e1] at hx; exact Nat.lt_of_lt_of_le (h.bb j q x hx) (Nat.le_trans h.hi' sz)
  ·
   rw [e1] at hx; exact Nat.lt_of_lt_of_le (World.ownsRow.lt hs x hx).2 sz
 ·
  rcases cs j hj with ⟨q,e1,e2⟩ | ⟨q,e1,e2⟩
  ·
   rw [e1,e2]; exact M (h.mb j q)
  ·
   rw [e1,e2]; exact (M ht).mono (by omega)
 ·
  rcases cs j hj with ⟨q,e1,e2⟩ | ⟨q,e1,e2⟩
  ·
   rw [e1] at hx; exact Nat.lt_of_lt_of_le (h.bm j q x hx) (Nat.le_trans h.hi' sz)
  ·
   rw [e1] at hx; exact Nat.lt_of_lt_of_le (World.ownsRow.lt ht x hx).2 sz
 ·
  rcases cs j hj with ⟨q,e1,e2⟩ | ⟨q,e1,e2⟩ <;> rcases cs k hk with ⟨q',e1',e2'⟩ | ⟨q',e1',e2'⟩ <;> rw [e1] at hx <;> rw [e1'] at hy
  ·
   exact h.db j k q q' hne x hx hy
  ·
   have a1:=h.bb j q x hx; have a2:=(World.ownsRow.lt hs x hy).1; omega
  ·
   have a1:=h.bb k q' x hy; have a2:=(World.ownsRow.lt hs x hx).1; omega
  ·
   omega
 ·
  rcases cs j hj with ⟨q,e1,e2⟩ | ⟨q,e1,e2⟩ <;> rcases cs k hk with ⟨q',e1',e2'⟩ | ⟨q',e1',e2'⟩ <;> rw [e1] at hx <;> rw [e1'] at hy
  ·
   exact h.dm j k q q' hne x hx hy
  ·
   have a1:=h.bm j q x hx; have a2:=(World.ownsRow.lt ht x hy).1; omega
  ·
   have a1:=h.bm k q' x hy; have a2:=(World.ownsRow.lt ht x hx).1; omega
  ·
   omega
end Go.Proofs.YtgbnkkjjgodilaaGreatDoor.Rp
namespace Go.Proofs.YtgbnkkjjgodilaaGreatDoor.Rp
open Go.ChangeShapes Go.WideShapes Go.ChangeAt Go.RowKit
open Vv (Sl sv hidIt)
open Rc (BelowBy BelowBy.one wp_region_below calls_below calls_same)
def Short (L : List Rep) : Prop:=∀ i,i < L.length → ∀ j,j < (rat L i).1.length → (En.rat (rat L i).1 j).1.size ≤ 9223372036854775807 ∧ (En.rat (rat L i).1 j).2.1.size ≤ 9223372036854775807
end Go.Proofs.YtgbnkkjjgodilaaGreatDoor.Rp
namespace Go.Proofs.YtgbnkkjjgodilaaGreatDoor.Rp
open Go.ChangeShapes Go.WideShapes Go.ChangeAt Go.RowKit
open Vv (Sl sv hidIt)
open Rc (BelowBy BelowBy.one wp_region_below calls_below calls_same)
def LstP (w : World) (L : List Rep) (e : Ending) (w' : World) : Prop:=∃ v,e = .returned v ∧ Own w' w.heap.size w'.heap.size v L ∧ Below w.heap.size w w'
theorem LstP.of {w w' : World} {L : List Rep} {e : Ending} {v : Value} (h : e = .returned v) (h1 : Own w' w.heap.size w'.heap.size v L) (h2 : Below w.heap.size w w') : LstP w L e w':=⟨v,h,h1,h2⟩
theorem LstP.out {w w' : World} {L : List Rep} {e : Ending} (h : LstP w L e w') : ∃ v,e = .returned v ∧ Own w' w.heap.size w'.heap.size v L ∧ Below w.heap.size w w':=h
end Go.Proofs.YtgbnkkjjgodilaaGreatDoor.Rp
namespace Go.Proofs.YtgbnkkjjgodilaaGreatDoor.Rp
open Go.ChangeShapes Go.WideShapes Go.ChangeAt Go.RowKit
open Vv (Sl sv hidIt)
open Rc (BelowBy BelowBy.one wp_region_below calls_below calls_same)
end Go.Proofs.YtgbnkkjjgodilaaGreatDoor.Rp
namespace Go.Proofs.YtgbnkkjjgodilaaGreatDoor.Bk
def whole (G : List (List En)) : List En:=G.foldl mergeE []
def AllRis (G : List (List En)) : Prop:=∀ b ∈ G,Ris b
theorem pick_or (x y : Option En) : pickE x y = x ∨ pickE x y = y:=by
 cases x with
 | none=>exact .inr rfl
 | some a =>
  cases y with
  | none=>exact .inl rfl
  | some b =>
   show some _ = some a ∨ some _ = some b
   cases newB b a
   ·
    exact .inl rfl
   ·
    exact .inr rfl
theorem merge_ris {A B : List En} (hA : Ris A) (hB : Ris B) : Ris (mergeE A B):=(merge_join A B hA hB).ris
theorem merge_look {A B : List En} (hA : Ris A) (hB : Ris B) (k : Bytes) : look (mergeE A B) k = pickE (look A k) (look B k):=(merge_join A B hA hB).at' k
structure Top (k : Bytes) (G : List (List En)) (m : Option En) : Prop where
 key : KeyAt k m
 ub : ∀ b ∈ G,pickE (look b k) m = m
 mem : m = none ∨ ∃ b ∈ G,look b k = m
theorem Top.none_of {k : Bytes} {G : List (List En)} (h : Top k G none) {b : List En} (hb : b ∈ G) : look b k = none:=by
 have:=h.ub b hb
 rw [pick_none_right] at this
 exact this
theorem Top.unique {k : Bytes} {G : List (List En)} {m m' : Option En} (h : Top k G m) (h' : Top k G m') : m = m':=by
 rcases h.mem with e | ⟨b,hb,e⟩
 ·
  subst e
  rcases h'.mem with e' | ⟨b',hb',e'⟩
  ·
   exact e'.symm
  ·
   rw [← e',h.none_of hb']
 ·
  rcases h'.mem with e' | ⟨b',hb',e'⟩
  ·
   subst e'
   rw [← e,h'.none_of hb]
  ·
   have h1:=h'.ub b hb
   have h2:=h.ub b' hb'
   rw [e] at h1
   rw [e'] at h2
   rw [← h2,← pick_comm h.key h'.key,h1]
theorem pick_absorb {k : Bytes} {x y m : Option En} (hx : KeyAt k x) (hy : KeyAt k y) (hm : KeyAt k m) (h : pickE (pickE x y) m = m) : pickE x m = m ∧ pickE y m = m:=by
 constructor
 ·
  have e:=h
  rw [pick_assoc hx hy hm] at e
  rw [← e,← pick_assoc hx hx (pick_at hy hm),pick_self]
 ·
  have e:=h
  rw [pick_comm hx hy,pick_assoc hy hx hm] at e
  rw [← e,← pick_assoc hy hy (pick_at hx hm),pick_self]
theorem fold_ris : ∀ (G : List (List En)) (A : List En),Ris A → AllRis G → Ris (G.foldl mergeE A)
 | [],A,hA,_=>hA
 | b :: G,A,hA,hG=>fold_ris G (mergeE A b) (merge_ris hA (hG b (List.mem_cons_self ..))) (fun c hc=>hG c (List.mem_cons_of_mem _ hc))
theorem fold_top (k : Bytes) : ∀ (G : List (List En)) (A : List En),Ris A → AllRis G → Top k (A :: G) (look (G.foldl mergeE A) k)
 | [],A,hA,_=>⟨look_at _ _,fun b hb=>by rw [List.mem_singleton.1 hb]; exact pick_self _,.inr ⟨A,List.mem_singleton.2 rfl,rfl⟩⟩
 | b :: G,A,hA,hG=>by
  have hb:=hG b (List.mem_cons_self ..)
  have ih:=fold_top k G (mergeE A b) (merge_ris hA hb) (fun c hc=>hG c (List.mem_cons_of_mem _ hc))
  have hu:=ih.ub _ (List.mem_cons_self ..)
  rw [merge_look hA hb] at hu
  obtain ⟨u1,u2⟩:=pick_absorb (look_at A k) (look_at b k) ih.key hu
  refine ⟨ih.key,fun c hc=>?_,?_⟩
  ·
   rcases List.mem_cons.1 hc with rfl | hc
   ·
    exact u1
   ·
    rcases List.mem_cons.1 hc with rfl | hc
    ·
     exact u2
    ·
     exact ih.ub c (List.mem_cons_of_mem _ hc)
  ·
   rcases ih.mem with e | ⟨c,hc,e⟩
   ·
    exact .inl e
   ·
    rcases List.mem_cons.1 hc with rfl | hc
    ·
     rw [merge_look hA hb] at e
     rcases pick_or (look A k) (look b k) with q | q
     ·
      exact .inr ⟨A,List.mem_cons_self ..,q.symm.trans e⟩
     ·
      exact .inr ⟨b,List.mem_cons_of_mem _ (List.mem_cons_self ..),q.symm.trans e⟩
    ·
     exact .inr ⟨c,List.mem_cons_of_mem _ (List.mem_cons_of_mem _ hc),e⟩
theorem ris_nil : Ris []:=List.Pairwise.nil
theorem whole_ris {G : List (List En)} (h : AllRis G) : Ris (whole G):=fold_ris G [] ris_nil h
theorem whole_top {G : List (List En)} (h : AllRis G) (k : Bytes) : Top k G (look (whole G) k):=by
 have t:=fold_top k G [] ris_nil h
 refine ⟨t.key,fun b hb=>t.ub b (List.mem_cons_of_mem _ hb),?_⟩
 rcases t.mem with e | ⟨b,hb,e⟩
 ·
  exact .inl e
 ·
  rcases List.mem_cons.1 hb with rfl | hb
  ·
   exact .inl e.symm
  ·
   exact .inr ⟨b,hb,e⟩
theorem whole_of {G : List (List En)} {W : List En} (h : AllRis G) (hW : Ris W) (t : ∀ k,Top k G (look W k)) : whole G = W :=
 ris_ext (whole_ris h) hW (fun k=>(whole_top h k).unique (t k))
theorem whole_snoc (G : List (List En)) (b : List En) : whole (G ++ [b]) = mergeE (whole G) b:=by
 unfold whole
 rw [List.foldl_append]
 rfl
theorem merge_comm {A B : List En} (hA : Ris A) (hB : Ris B) : mergeE A B = mergeE B A:=(merge_join A B hA hB).unique (merge_join B A hB hA).comm
theorem merge_of_le {A B : List En} (hA : Ris A) (hB : Ris B) (h : ∀ k,pickE (look A k) (look B k) = look B k) : mergeE A B = B :=
 (merge_join A B hA hB).unique ⟨hB,fun k=>(h k).symm⟩
theorem merge_whole {G : List (List En)} (h : AllRis G) {b : List En} (hb : b ∈ G) : mergeE b (whole G) = whole G:=merge_of_le (h b hb) (whole_ris h) (fun k=>(whole_top h k).ub b hb)
theorem sub_len : ∀ (A B : List En),Ris A → Ris B → (∀ k,look B k = none → look A k = none) → A.length ≤ B.length
 | [],_,_,_,_=>Nat.zero_le _
 | a :: A,[],hA,_,h=>by
  have:=h a.key (look_nil _)
  rw [look_cons,if_pos rfl] at this
  cases this
 | a :: A,b :: B,hA,hB,h=>by
  obtain ⟨a1,a2⟩:=ris_cons.1 hA
  obtain ⟨b1,b2⟩:=ris_cons.1 hB
  by_cases e : b.key = a.key
  ·
   have:=sub_len A B a2 b2 (fun k hk=>by
    by_cases q : a.key = k
    ·
     exact look_none_of (fun x hx e'=>by have:=a1 x hx; rw [e',q] at this; exact List.lt_irrefl _ this)
    ·
     have h2:=h k (by rw [look_cons,if_neg (by rw [e]; exact q)]; exact hk)
     rw [look_cons,if_neg q] at h2
     exact h2)
   simp only [List.length_cons]
   omega
  ·
   by_cases l : b.key < a.key
   ·
    have:=sub_len (a :: A) B hA b2 (fun k hk=>by
     by_cases q : b.key = k
     ·
      refine look_none_of (fun x hx e'=>?_)
      rcases List.mem_cons.1 hx with rfl | hx
      ·
       rw [e',q] at l; exact List.lt_irrefl _ l
      ·
       have:=List.lt_trans l (a1 x hx)
       rw [e',q] at this
       exact List.lt_irrefl _ this
     ·
      exact h k (by rw [look_cons,if_neg q]; exact hk))
    simp only [List.length_cons] at this ⊢
    omega
   ·
    exfalso
    have:=h a.key (look_none_of (fun x hx e'=>by
     rcases List.mem_cons.1 hx with rfl | hx
     ·
      exact e e'
     ·
      have:=b1 x hx; rw [e'] at this; exact l this))
    rw [look_cons,if_pos rfl] at this
    cases this
theorem len_whole {G : List (List En)} (h : AllRis G) {b : List En} (hb : b ∈ G) : b.length ≤ (whole G).length :=
 sub_len b _ (h b hb) (whole_ris h) (fun k hk=>by have t:=whole_top h k; rw [hk] at t; exact t.none_of hb)
theorem whole_mem {G : List (List En)} (h : AllRis G) {e : En} (he : e ∈ whole G) : ∃ b ∈ G,e ∈ b:=by
 have hl:=look_mem (whole_ris h) he
 rcases (whole_top h e.key).mem with q | ⟨b,hb,q⟩
 ·
  rw [hl] at q; cases q
 ·
  rw [hl] at q
  exact ⟨b,hb,(look_some q).1⟩
def at0 (G : List (List En)) (i : Nat) : List En:=G.getD i []
theorem at0_mem {G : List (List En)} {i : Nat} (h : i < G.length) : at0 G i ∈ G:=by
 unfold at0
 rw [List.getD_eq_getElem?_getD,List.getElem?_eq_getElem h]
 exact List.getElem_mem h
theorem at0_get {G : List (List En)} {i : Nat} (h : i < G.length) : at0 G i = G[i]:=by
 unfold at0
 rw [List.getD_eq_getElem?_getD,List.getElem?_eq_getElem h]
 rfl
theorem at0_set {G : List (List En)} {i j : Nat} {x : List En} (h : i < G.length) : at0 (G.set i x) j = if i = j then x else at0 G j:=by
 unfold at0
 rw [List.getD_eq_getElem?_getD,List.getD_eq_getElem?_getD,List.getElem?_set]
 by_cases e : i = j
 ·
  subst e; simp [h]
 ·
  simp [e]
def tell (G : List (List En)) (f t : Nat) : List (List En):=G.set t (mergeE (at0 G t) (at0 G f))
theorem tell_length (G : List (List En)) (f t : Nat) : (tell G f t).length = G.length:=List.length_set ..
theorem tell_at {G : List (List En)} {f t i : Nat} (ht : t < G.length) : at0 (tell G f t) i = if t = i then mergeE (at0 G t) (at0 G f) else at0 G i:=at0_set ht
theorem setAll_ris {G : List (List En)} {i : Nat} {x : List En} (h : AllRis G) (hx : Ris x) : AllRis (G.set i x):=by
 intro b hb
 rcases List.mem_or_eq_of_mem_set hb with q | q
 ·
  exact h b q
 ·
  rw [q]; exact hx
theorem tell_ris {G : List (List En)} {f t : Nat} (h : AllRis G) (hf : f < G.length) (ht : t < G.length) : AllRis (tell G f t):=setAll_ris h (merge_ris (h _ (at0_mem ht)) (h _ (at0_mem hf)))
theorem tell_whole {G : List (List En)} {f t : Nat} (h : AllRis G) (hf : f < G.length) (ht : t < G.length) : whole (tell G f t) = whole G:=by
 refine whole_of (tell_ris h hf ht) (whole_ris h) (fun k=>?_)
 have T:=whole_top h k
 have rt:=h _ (at0_mem ht)
 have rf:=h _ (at0_mem hf)
 have ej:=merge_look rt rf k
 have ut:=T.ub _ (at0_mem ht)
 have uf:=T.ub _ (at0_mem hf)
 refine ⟨T.key,fun b hb=>?_,?_⟩
 ·
  rcases List.mem_or_eq_of_mem_set hb with q | q
  ·
   exact T.ub b q
  ·
   rw [q,ej,pick_assoc (look_at _ k) (look_at _ k) T.key,uf,ut]
 ·
  rcases T.mem with e | ⟨b,hb,e⟩
  ·
   exact .inl e
  ·
   obtain ⟨j,hj,rfl⟩:=List.mem_iff_getElem.1 hb
   by_cases q : t = j
   ·
    subst q
    refine .inr ⟨mergeE (at0 G t) (at0 G f),?_,?_⟩
    ·
     exact List.mem_iff_getElem.2 ⟨t,by rw [tell_length]; exact hj,by unfold tell; rw [List.getElem_set_self]⟩
    ·
     rw [ej,at0_get hj,e,pick_comm T.key (look_at _ k)]
     exact uf
   ·
    refine .inr ⟨G[j],?_,e⟩
    exact List.mem_iff_getElem.2 ⟨j,by rw [tell_length]; exact hj,by unfold tell; rw [List.getElem_set_ne q]⟩
def pass (G : List (List En)) (m : Nat) : List (List En):=(List.range m).foldl (fun G i=>tell G i (i + 1)) G
theorem pass_succ (G : List (List En)) (m : Nat) : pass G (m + 1) = tell (pass G m) m (m + 1):=by
 unfold pass
 rw [List.range_succ,List.foldl_append]
 rfl
theorem pass_length (G : List (List En)) : ∀ m,(pass G m).length = G.length
 | 0=>rfl
 | m + 1=>by rw [pass_succ,tell_length,pass_length G m]
theorem pass_ris {G : List (List En)} (h : AllRis G) : ∀ m,m < G.length → AllRis (pass G m)
 | 0,_=>h
 | m + 1,hm=>by rw [pass_succ]; exact tell_ris (pass_ris h m (by omega)) (by rw [pass_length]; omega) (by rw [pass_length]; exact hm)
theorem pass_whole {G : List (List En)} (h : AllRis G) : ∀ m,m < G.length → whole (pass G m) = whole G
 | 0,_=>rfl
 | m + 1,hm=>by rw [pass_succ,tell_whole (pass_ris h m (by omega)) (by rw [pass_length]; omega) (by rw [pass_length]; exact hm),pass_whole h m (by omega)]
theorem take_ris {G : List (List En)} (h : AllRis G) (j : Nat) : AllRis (G.take j):=fun b hb=>h b (List.mem_of_mem_take hb)
theorem take_whole {G : List (List En)} {j : Nat} (hj : j < G.length) : whole (G.take (j + 1)) = mergeE (whole (G.take j)) (at0 G j):=by
 rw [List.take_add_one,List.getElem?_eq_getElem hj,at0_get hj]
 exact whole_snoc _ _
theorem pass_at {G : List (List En)} (h : AllRis G) : ∀ m,m < G.length → ∀ j,at0 (pass G m) j = if j ≤ m then (if j < G.length then whole (G.take (j + 1)) else at0 G j) else at0 G j
 | 0,hm,j=>by
  by_cases q : j ≤ 0
  ·
   have : j = 0:=by omega
   subst this
   rw [if_pos (Nat.le_refl _),if_pos hm,take_whole hm,List.take_zero]
   exact (mergeE_nil _).symm
  ·
   rw [if_neg q]
   rfl
 | m + 1,hm,j=>by
  rw [pass_succ,tell_at (by rw [pass_length]; exact hm)]
  by_cases q : m + 1 = j
  ·
   subst q
   rw [if_pos rfl,if_pos (Nat.le_refl _),if_pos hm,pass_at h m (by omega) (m + 1),if_neg (by omega),pass_at h m (by omega) m,if_pos (Nat.le_refl _),if_pos (by omega),take_whole hm]
   exact merge_comm (h _ (at0_mem hm)) (whole_ris (take_ris h _))
  ·
   rw [if_neg q,pass_at h m (by omega) j]
   by_cases q2 : j ≤ m
   ·
    rw [if_pos q2,if_pos (show j < G.length by omega),if_pos (show j ≤ m + 1 by omega)]
   ·
    rw [if_neg q2,if_neg (show ¬ j ≤ m + 1 by omega)]
def round1 (G : List (List En)) : List (List En):=if 1 < G.length then tell (pass G (G.length - 1)) (G.length - 1) 0 else pass G (G.length - 1)
def around (G : List (List En)) : List (List En):=pass (round1 G) (G.length - 1)
theorem round1_length (G : List (List En)) : (round1 G).length = G.length:=by
 unfold round1
 split
 ·
  rw [tell_length,pass_length]
 ·
  rw [pass_length]
theorem around_length (G : List (List En)) : (around G).length = G.length:=by
 unfold around
 rw [pass_length,round1_length]
theorem round1_ris {G : List (List En)} (h : AllRis G) (hn : 0 < G.length) : AllRis (round1 G):=by
 unfold round1
 split
 ·
  exact tell_ris (pass_ris h _ (by omega)) (by rw [pass_length]; omega) (by rw [pass_length]; omega)
 ·
  exact pass_ris h _ (by omega)
theorem round1_whole {G : List (List En)} (h : AllRis G) (hn : 0 < G.length) : whole (round1 G) = whole G:=by
 unfold round1
 split
 ·
  rw [tell_whole (pass_ris h _ (by omega)) (by rw [pass_length]; omega) (by rw [pass_length]; omega),pass_whole h _ (by omega)]
 ·
  exact pass_whole h _ (by omega)
theorem round1_first {G : List (List En)} (h : AllRis G) (hn : 0 < G.length) : at0 (round1 G) 0 = whole G:=by
 have et : G.take (G.length - 1 + 1) = G:=by rw [show G.length - 1 + 1 = G.length by omega,List.take_length]
 unfold round1
 split
 ·
  rename_i h1
  rw [tell_at (by rw [pass_length]; omega),if_pos rfl,pass_at h _ (by omega),if_pos (Nat.zero_le _),if_pos hn,pass_at h _ (by omega),if_pos (Nat.le_refl _),if_pos (by omega),et,take_whole hn,List.take_zero]
  show mergeE (mergeE [] (at0 G 0)) _ = _
  rw [mergeE_nil]
  exact merge_whole h (at0_mem hn)
 ·
  rename_i h1
  have e1 : G.length = 1:=by omega
  rw [pass_at h _ (by omega),if_pos (Nat.zero_le _),if_pos hn]
  rw [show G.length - 1 = 0 by omega] at et
  rw [et]
theorem around_at {G : List (List En)} (h : AllRis G) {j : Nat} (hj : j < G.length) : at0 (around G) j = whole G:=by
 have hn : 0 < G.length:=by omega
 have h1:=round1_ris h hn
 unfold around
 rw [pass_at h1 _ (by rw [round1_length]; omega),if_pos (by omega),if_pos (by rw [round1_length]; exact hj)]
 refine whole_of (take_ris h1 _) (whole_ris h) (fun k=>?_)
 have T:=whole_top h1 k
 rw [round1_whole h hn] at T
 refine ⟨T.key,fun b hb=>T.ub b (List.mem_of_mem_take hb),.inr ⟨at0 (round1 G) 0,?_,by rw [round1_first h hn]⟩⟩
 rw [at0_get (by rw [round1_length]; exact hn)]
 exact List.mem_iff_getElem.2 ⟨0,by rw [List.length_take,round1_length]; omega,List.getElem_take⟩
theorem around_eq {G : List (List En)} (h : AllRis G) : around G = List.replicate G.length (whole G):=by
 refine List.ext_getElem (by rw [around_length,List.length_replicate]) (fun j h1 h2=>?_)
 rw [List.getElem_replicate,← at0_get h1]
 rw [around_length] at h1
 exact around_at h h1
theorem rep_whole {n : Nat} {W : List En} (hW : Ris W) (hn : 0 < n) : whole (List.replicate n W) = W:=by
 refine whole_of (fun b hb=>by rw [(List.mem_replicate.1 hb).2]; exact hW) hW (fun k=>⟨look_at _ _,fun b hb=>by rw [(List.mem_replicate.1 hb).2]; exact pick_self _,.inr ⟨W,List.mem_replicate.2 ⟨by omega,rfl⟩,rfl⟩⟩)
theorem around_whole {G : List (List En)} (h : AllRis G) (hn : 0 < G.length) : whole (around G) = whole G:=by
 rw [around_eq h]
 exact rep_whole (whole_ris h) hn
end Go.Proofs.YtgbnkkjjgodilaaGreatDoor.Bk
