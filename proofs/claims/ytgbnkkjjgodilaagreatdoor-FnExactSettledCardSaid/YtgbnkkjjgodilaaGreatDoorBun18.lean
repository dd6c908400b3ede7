/- What a mark leaves of a list of Nodes; markNodeS and heldNodeS of the laws. (Written by wip/mkNm.py.) -/
import Derived.Test.YtgbnkkjjgodilaaGreatDoorBun17
import Derived.Test.YtgbnkkjjgodilaaGreatDoorBun8
import Derived.Test.YtgbnkkjjgodilaaGreatDoorMem2N
import Derived.Test.YtgbnkkjjgodilaaGreatDoorBun5
import Derived.Test.YtgbnkkjjgodilaaGreatDoorBun3
import Derived.Test.YtgbnkkjjgodilaaGreatDoorBun16
import Derived.Test.YtgbnkkjjgodilaaGreatDoorQuiet
import Derived.Test.YtgbnkkjjgodilaaGreatDoorBun10
import Derived.Deep.SlicePairs
set_option maxRecDepth 100000
set_option maxHeartbeats 32000000
set_option linter.unusedVariables false
namespace Go.Proofs.YtgbnkkjjgodilaaGreatDoor.Ns
open Go.ChangeShapes Go.WideShapes Go.ChangeAt Go.RowKit
open Vv (Sl sv hidIt)
open Nd (Nw RdN OwnN)
open Rp (OnlyIn own_apart row_in row_other)
theorem OwnC.cell {w : World} {lo hi q n cap i j : Nat} {C : List Nv.Rw} {L : List Nw} (h : OwnC w lo hi (.slice (some ⟨q,0,none⟩) n cap) C L) (hi' : i < L.length) (hj : j < 10) {u : Value} {y : Nv.Rw} {x : Nw}
  (hy : ∀ k,k < 10 → Nv.rcell y k = if k = j then u else Nv.rcell (Nv.rat C i) k) (hs : ∀ t,sl4 y t = sl4 (Nv.rat C i) t) (hf : y = nrw x (sl4 y 0) (sl4 y 1) (sl4 y 2) (sl4 y 3)) (hb : x.book = (nod L i).book ∧ x.mem = (nod L i).mem ∧ x.buc = (nod L i).buc ∧ x.log = (nod L i).log) :
  OwnC (w.setCell ⟨q,i * 10 + j,none⟩ u) lo hi (.slice (some ⟨q,0,none⟩) n cap) (C.set i y) (L.set i x):=by
 have hC : i < C.length:=by rw [h.len]; exact hi'
 have W:=h.row.set hC hj hy
 have Y : Only q w (w.setCell ⟨q,i * 10 + j,none⟩ u):=(Only.refl q w).setCell (i * 10 + j) u
 have sz : (w.setCell ⟨q,i * 10 + j,none⟩ u).heap.size = w.heap.size:=by simp [World.setCell]
 generalize w.setCell ⟨q,i * 10 + j,none⟩ u = w' at W Y sz ⊢
 have Z : OnlyIn q (q + 1) w w':=OnlyIn.of_only Y (.inr ⟨Nat.le_refl _,Nat.lt_succ_self _⟩)
 have hq : (Value.slice (some ⟨q,0,none⟩) n cap).ownBlock = some q:=rfl
 have K : ∀ {lo' : Nat} {r : Nv.Rw} {y : Nw},OwnR w lo' r y → OwnR w' lo' r y:=fun hr=>hr.in Z (fun t g' hg' hz=>hr.far h.row t g' hg' (by rw [hq]; congr 1; omega))
 have O:=K (h.nd i hi')
 obtain ⟨b1,b2,b3,b4⟩:=hb
 have O' : OwnR w' lo y x:=by
  unfold OwnR
  rw [hs 0,hs 1,hs 2,hs 3]
  exact ⟨by rw [b1]; exact O.e,by rw [b2]; exact O.m,by rw [b3]; exact O.b,by rw [b4]; exact O.g⟩
 refine ⟨by rw [List.length_set,List.length_set]; exact h.len,W,h.blk,fun j hj=>?_,fun j hj=>?_,fun j hj t z hz=>?_,fun j k hj hk hne t z hz hv=>?_,by rw [sz]; exact h.hi',h.lo'⟩
 all_goals rw [List.length_set] at hj
 ·
  rw [Nv.rat_set hC,nod_set hi']
  by_cases e' : i = j
  ·
   rw [if_pos e',if_pos e']
   exact hf
  ·
   rw [if_neg e',if_neg e']
   exact h.fl j hj
 ·
  rw [Nv.rat_set hC,nod_set hi']
  by_cases e' : i = j
  ·
   rw [if_pos e',if_pos e']
   exact O'
  ·
   rw [if_neg e',if_neg e']
   exact K (h.nd j hj)
 ·
  rw [Nv.rat_set hC] at hz
  by_cases e' : i = j
  ·
   rw [if_pos e',hs t] at hz
   exact h.bd i hi' t z hz
  ·
   rw [if_neg e'] at hz
   exact h.bd j hj t z hz
 ·
  rw [List.length_set] at hk
  rw [Nv.rat_set hC] at hz hv
  have hz' : (sv (sl4 (Nv.rat C j) t)).ownBlock = some z:=by
   by_cases e' : i = j
   ·
    rw [if_pos e',hs t] at hz
    rw [← e']
    exact hz
   ·
    rw [if_neg e'] at hz
    exact hz
  have hv' : (sv (sl4 (Nv.rat C k) t)).ownBlock = some z:=by
   by_cases e' : i = k
   ·
    rw [if_pos e',hs t] at hv
    rw [← e']
    exact hv
   ·
    rw [if_neg e'] at hv
    exact hv
  exact h.dj j k hj hk hne t z hz' hv'
theorem OwnC.turn {w w' : World} {lo hi i t b e s m : Nat} {v : Value} {xs : List Value} {C : List Nv.Rw} {L : List Nw} (h : OwnC w lo hi v C L) (hi' : i < L.length) {x : Nw} (o : w.ownsRow b e s (sv (sl4 (Nv.rat C i) t)) m xs) (Y : Only ((sv (sl4 (Nv.rat C i) t)).ownBlock.getD w.heap.size) w w')
  (hf : Nv.rat C i = nrw x (sl4 (Nv.rat C i) 0) (sl4 (Nv.rat C i) 1) (sl4 (Nv.rat C i) 2) (sl4 (Nv.rat C i) 3)) (hn : OwnR w' lo (Nv.rat C i) x) (he : e ≠ 49) (hr : ∀ j,j < L.length → j ≠ i → OwnR w' lo (Nv.rat C j) (nod L j)) : OwnC w' lo hi v C (L.set i x) ∧ OnlyIn lo hi w w':=by
 have hb:=h.bd i hi' t
 have hl:=(h.nd i hi').lt t
 have row' : Nv.Own w' lo v C:=row_other h.row o Y (own_apart h.row o (fun q=>he q.symm))
 refine ⟨⟨by rw [List.length_set]; exact h.len,row',h.blk,fun j hj=>?_,fun j hj=>?_,fun j hj=>?_,fun j k hj hk=>?_,Nat.le_trans h.hi' Y.size,h.lo'⟩,OnlyIn.of_only Y ?_⟩
 ·
  rw [List.length_set] at hj
  rw [nod_set hi']
  by_cases e' : i = j
  ·
   rw [if_pos e',← e']
   exact hf
  ·
   rw [if_neg e']
   exact h.fl j hj
 ·
  rw [List.length_set] at hj
  rw [nod_set hi']
  by_cases e' : i = j
  ·
   rw [if_pos e',← e']
   exact hn
  ·
   rw [if_neg e']
   exact hr j hj (fun q=>e' q.symm)
 ·
  rw [List.length_set] at hj
  exact h.bd j hj
 ·
  rw [List.length_set] at hj hk
  exact h.dj j k hj hk
 ·
  cases hv : (sv (sl4 (Nv.rat C i) t)).ownBlock with
  | none=>exact .inl (by simp)
  | some g=>exact .inr ⟨by simpa using (hl g hv).1,by simpa using hb g hv⟩
theorem OwnC.markE {w w' : World} {lo hi i : Nat} {v : Value} {C : List Nv.Rw} {L : List Nw} (h : OwnC w lo hi v C L) (hi' : i < L.length) {N : List En.Rw} (o : En.Own w' lo (sv (sl4 (Nv.rat C i) 0)) N) (Y : Only (En.ob w (sv (sl4 (Nv.rat C i) 0))) w w') :
  OwnC w' lo hi v C (L.set i { nod L i with book:=N }) ∧ OnlyIn lo hi w w':=by
 have ho:=(h.nd i hi').e
 have hf:=h.fl i hi'
 exact h.turn (t:=0) hi' ho Y hf ⟨o,row_other (h.nd i hi').m ho Y (own_apart (h.nd i hi').m ho (by decide)),row_other (h.nd i hi').b ho Y (own_apart (h.nd i hi').b ho (by decide)),row_other (h.nd i hi').g ho Y (own_apart (h.nd i hi').g ho (by decide))⟩ (by decide) (fun j hj hne=>⟨row_other (h.nd j hj).e ho Y (fun g hg=>h.dj j i hj hi' hne 0 g hg),row_other (h.nd j hj).m ho Y (own_apart (h.nd j hj).m ho (by decide)),row_other (h.nd j hj).b ho Y (own_apart (h.nd j hj).b ho (by decide)),row_other (h.nd j hj).g ho Y (own_apart (h.nd j hj).g ho (by decide))⟩)
theorem OwnC.markM {w w' : World} {lo hi i : Nat} {v : Value} {C : List Nv.Rw} {L : List Nw} (h : OwnC w lo hi v C L) (hi' : i < L.length) {N : List Mm.Rw} (o : Mm.Own w' lo (sv (sl4 (Nv.rat C i) 1)) N) (Y : Only (Mm.ob w (sv (sl4 (Nv.rat C i) 1))) w w') :
  OwnC w' lo hi v C (L.set i { nod L i with mem:=N }) ∧ OnlyIn lo hi w w':=by
 have ho:=(h.nd i hi').m
 have hf:=h.fl i hi'
 exact h.turn (t:=1) hi' ho Y hf ⟨row_other (h.nd i hi').e ho Y (own_apart (h.nd i hi').e ho (by decide)),o,row_other (h.nd i hi').b ho Y (own_apart (h.nd i hi').b ho (by decide)),row_other (h.nd i hi').g ho Y (own_apart (h.nd i hi').g ho (by decide))⟩ (by decide) (fun j hj hne=>⟨row_other (h.nd j hj).e ho Y (own_apart (h.nd j hj).e ho (by decide)),row_other (h.nd j hj).m ho Y (fun g hg=>h.dj j i hj hi' hne 1 g hg),row_other (h.nd j hj).b ho Y (own_apart (h.nd j hj).b ho (by decide)),row_other (h.nd j hj).g ho Y (own_apart (h.nd j hj).g ho (by decide))⟩)
theorem OwnC.markB {w w' : World} {lo hi i : Nat} {v : Value} {C : List Nv.Rw} {L : List Nw} (h : OwnC w lo hi v C L) (hi' : i < L.length) {N : List Bu.Rw} (o : Bu.Own w' lo (sv (sl4 (Nv.rat C i) 2)) N) (Y : Only (Bu.ob w (sv (sl4 (Nv.rat C i) 2))) w w') :
  OwnC w' lo hi v C (L.set i { nod L i with buc:=N }) ∧ OnlyIn lo hi w w':=by
 have ho:=(h.nd i hi').b
 have hf:=h.fl i hi'
 exact h.turn (t:=2) hi' ho Y hf ⟨row_other (h.nd i hi').e ho Y (own_apart (h.nd i hi').e ho (by decide)),row_other (h.nd i hi').m ho Y (own_apart (h.nd i hi').m ho (by decide)),o,row_other (h.nd i hi').g ho Y (own_apart (h.nd i hi').g ho (by decide))⟩ (by decide) (fun j hj hne=>⟨row_other (h.nd j hj).e ho Y (own_apart (h.nd j hj).e ho (by decide)),row_other (h.nd j hj).m ho Y (own_apart (h.nd j hj).m ho (by decide)),row_other (h.nd j hj).b ho Y (fun g hg=>h.dj j i hj hi' hne 2 g hg),row_other (h.nd j hj).g ho Y (own_apart (h.nd j hj).g ho (by decide))⟩)
theorem OwnC.markG {w w' : World} {lo hi i : Nat} {v : Value} {C : List Nv.Rw} {L : List Nw} (h : OwnC w lo hi v C L) (hi' : i < L.length) {N : List Lg.Ln} (o : Lg.Own w' lo (sv (sl4 (Nv.rat C i) 3)) N) (Y : Only (Lg.ob w (sv (sl4 (Nv.rat C i) 3))) w w') :
  OwnC w' lo hi v C (L.set i { nod L i with log:=N }) ∧ OnlyIn lo hi w w':=by
 have ho:=(h.nd i hi').g
 have hf:=h.fl i hi'
 exact h.turn (t:=3) hi' ho Y hf ⟨row_other (h.nd i hi').e ho Y (own_apart (h.nd i hi').e ho (by decide)),row_other (h.nd i hi').m ho Y (own_apart (h.nd i hi').m ho (by decide)),row_other (h.nd i hi').b ho Y (own_apart (h.nd i hi').b ho (by decide)),o⟩ (by decide) (fun j hj hne=>⟨row_other (h.nd j hj).e ho Y (own_apart (h.nd j hj).e ho (by decide)),row_other (h.nd j hj).m ho Y (own_apart (h.nd j hj).m ho (by decide)),row_other (h.nd j hj).b ho Y (own_apart (h.nd j hj).b ho (by decide)),row_other (h.nd j hj).g ho Y (fun g hg=>h.dj j i hj hi' hne 3 g hg)⟩)
abbrev TS : List Nat:=[49,98,100,102,104]
theorem mk_on {ts : List Nat} {lo hi : Nat} {a b d : World} (h : Nd.Mk TS lo hi a b) (k : Nd.Mk ts lo hi b d) (hs : ∀ t ∈ ts,t ∈ TS) : Nd.Mk TS lo hi a d :=
 ⟨h.only.trans k.only,fun p e s n v xs r hn=>k.stay p e s n v xs (h.stay p e s n v xs r hn) (fun q=>hn (hs e q))⟩
theorem mk_refl (lo hi : Nat) (w : World) : Nd.Mk TS lo hi w w:=⟨OnlyIn.refl _ _ _,fun _ _ _ _ _ _ r _=>r⟩
structure Upd (M M' : List Nw) (i : Nat) (x : Nw) : Prop where
 len : M'.length = M.length
 at' : nod M' i = x
 oth : ∀ j,j ≠ i → nod M' j = nod M j
theorem Upd.refl (M : List Nw) (i : Nat) : Upd M M i (nod M i):=⟨rfl,rfl,fun _ _=>rfl⟩
theorem Upd.set {M M' : List Nw} {i : Nat} {x : Nw} (u : Upd M M' i x) (hi : i < M.length) (y : Nw) : Upd M (M'.set i y) i y :=
 ⟨by rw [List.length_set]; exact u.len,by rw [nod_set (by rw [u.len]; exact hi),if_pos rfl],fun j hj=>by rw [nod_set (by rw [u.len]; exact hi),if_neg (fun q=>hj q.symm)]; exact u.oth j hj⟩
theorem OwnC.mkE {w w' : World} {lo hi i : Nat} {v : Value} {C : List Nv.Rw} {M M' : List Nw} {x : Nw} (h : OwnC w lo hi v C M') (u : Upd M M' i x) (hi' : i < M.length) {N : List En.Rw} (o : En.Own w' lo (sv (sl4 (Nv.rat C i) 0)) N) (Y : Only (En.ob w (sv (sl4 (Nv.rat C i) 0))) w w') :
  ∃ M2,OwnC w' lo hi v C M2 ∧ Upd M M2 i { x with book:=N } ∧ Nd.Mk [98] lo hi w w':=by
 have hM : i < M'.length:=by rw [u.len]; exact hi'
 have z:=h.markE hM o Y
 rw [u.at'] at z
 exact ⟨_,z.1,u.set hi' _,Nd.Mk.of_row (h.nd i hM).e Y (Nat.le_refl _) (h.bd i hM 0)⟩
theorem OwnC.mkM {w w' : World} {lo hi i : Nat} {v : Value} {C : List Nv.Rw} {M M' : List Nw} {x : Nw} (h : OwnC w lo hi v C M') (u : Upd M M' i x) (hi' : i < M.length) {N : List Mm.Rw} (o : Mm.Own w' lo (sv (sl4 (Nv.rat C i) 1)) N) (Y : Only (Mm.ob w (sv (sl4 (Nv.rat C i) 1))) w w') :
  ∃ M2,OwnC w' lo hi v C M2 ∧ Upd M M2 i { x with mem:=N } ∧ Nd.Mk [100] lo hi w w':=by
 have hM : i < M'.length:=by rw [u.len]; exact hi'
 have z:=h.markM hM o Y
 rw [u.at'] at z
 exact ⟨_,z.1,u.set hi' _,Nd.Mk.of_row (h.nd i hM).m Y (Nat.le_refl _) (h.bd i hM 1)⟩
theorem OwnC.mkB {w w' : World} {lo hi i : Nat} {v : Value} {C : List Nv.Rw} {M M' : List Nw} {x : Nw} (h : OwnC w lo hi v C M') (u : Upd M M' i x) (hi' : i < M.length) {N : List Bu.Rw} (o : Bu.Own w' lo (sv (sl4 (Nv.rat C i) 2)) N) (Y : Only (Bu.ob w (sv (sl4 (Nv.rat C i) 2))) w w') :
  ∃ M2,OwnC w' lo hi v C M2 ∧ Upd M M2 i { x with buc:=N } ∧ Nd.Mk [102] lo hi w w':=by
 have hM : i < M'.length:=by rw [u.len]; exact hi'
 have z:=h.markB hM o Y
 rw [u.at'] at z
 exact ⟨_,z.1,u.set hi' _,Nd.Mk.of_row (h.nd i hM).b Y (Nat.le_refl _) (h.bd i hM 2)⟩
theorem OwnC.mkG {w w' : World} {lo hi i : Nat} {v : Value} {C : List Nv.Rw} {M M' : List Nw} {x : Nw} (h : OwnC w lo hi v C M') (u : Upd M M' i x) (hi' : i < M.length) {N : List Lg.Ln} (o : Lg.Own w' lo (sv (sl4 (Nv.rat C i) 3)) N) (Y : Only (Lg.ob w (sv (sl4 (Nv.rat C i) 3))) w w') :
  ∃ M2,OwnC w' lo hi v C M2 ∧ Upd M M2 i { x with log:=N } ∧ Nd.Mk [104] lo hi w w':=by
 have hM : i < M'.length:=by rw [u.len]; exact hi'
 have z:=h.markG hM o Y
 rw [u.at'] at z
 exact ⟨_,z.1,u.set hi' _,Nd.Mk.of_row (h.nd i hM).g Y (Nat.le_refl _) (h.bd i hM 3)⟩
theorem OwnC.fld2 {w : World} {lo hi q n cap i : Nat} {C : List Nv.Rw} {M M' : List Nw} {x : Nw} (h : OwnC w lo hi (.slice (some ⟨q,0,none⟩) n cap) C M') (u : Upd M M' i x) (hi' : i < M.length) (p : Int) :
  ∃ C2 M2,OwnC (w.setCell ⟨q,i * 10 + 2,none⟩ (.int .i64 p)) lo hi (.slice (some ⟨q,0,none⟩) n cap) C2 M2 ∧ Upd M M2 i { x with ph:=p } ∧ ∀ t,sl4 (Nv.rat C2 i) t = sl4 (Nv.rat C i) t:=by
 have hM : i < M'.length:=by rw [u.len]; exact hi'
 have hC : i < C.length:=by rw [h.len]; exact hM
 have f:=h.fl i hM
 have e:=u.at'
 have key : ∀ r : Nv.Rw,Nv.rat C i = r → OwnC (w.setCell ⟨q,i * 10 + 2,none⟩ (.int .i64 p)) lo hi (.slice (some ⟨q,0,none⟩) n cap) (C.set i (r.1,r.2.1,p,r.2.2.2.1,r.2.2.2.2.1,r.2.2.2.2.2.1,r.2.2.2.2.2.2.1,r.2.2.2.2.2.2.2.1,r.2.2.2.2.2.2.2.2.1,r.2.2.2.2.2.2.2.2.2)) (M'.set i { nod M' i with ph:=p }) ∧ ∀ t,sl4 (Nv.rat (C.set i (r.1,r.2.1,p,r.2.2.2.1,r.2.2.2.2.1,r.2.2.2.2.2.1,r.2.2.2.2.2.2.1,r.2.2.2.2.2.2.2.1,r.2.2.2.2.2.2.2.2.1,r.2.2.2.2.2.2.2.2.2)) i) t = sl4 r t:=by
  intro r hr
  rw [hr] at f
  refine ⟨h.cell hM (by omega) (y:=(r.1,r.2.1,p,r.2.2.2.1,r.2.2.2.2.1,r.2.2.2.2.2.1,r.2.2.2.2.2.2.1,r.2.2.2.2.2.2.2.1,r.2.2.2.2.2.2.2.2.1,r.2.2.2.2.2.2.2.2.2)) (fun k hk=>?_) (fun t=>?_) ?_ ⟨rfl,rfl,rfl,rfl⟩,fun t=>?_⟩
  ·
   rw [hr]
   match k,hk with
   | 0,_=>rfl
   | 1,_=>rfl
   | 2,_=>rfl
   | 3,_=>rfl
   | 4,_=>rfl
   | 5,_=>rfl
   | 6,_=>rfl
   | 7,_=>rfl
   | 8,_=>rfl
   | 9,_=>rfl
  ·
   rw [hr]
   match t with
   | 0=>rfl
   | 1=>rfl
   | 2=>rfl
   | s + 3=>rfl
  ·
   obtain ⟨r0,r1,r2,r3,r4,r5,r6,r7,r8,r9⟩:=r
   simp only [nrw,sl4,Prod.mk.injEq,true_and] at f
   obtain ⟨rfl,rfl,rfl,rfl,rfl,rfl⟩:=f
   rfl
  ·
   rw [Nv.rat_set hC,if_pos rfl]
   match t with
   | 0=>rfl
   | 1=>rfl
   | 2=>rfl
   | s + 3=>rfl
 obtain ⟨z1,z2⟩:=key _ rfl
 rw [e] at z1
 exact ⟨_,_,z1,u.set hi' _,z2⟩
theorem OwnC.fld3 {w : World} {lo hi q n cap i : Nat} {C : List Nv.Rw} {M M' : List Nw} {x : Nw} (h : OwnC w lo hi (.slice (some ⟨q,0,none⟩) n cap) C M') (u : Upd M M' i x) (hi' : i < M.length) (p : Int) :
  ∃ C2 M2,OwnC (w.setCell ⟨q,i * 10 + 3,none⟩ (.int .i64 p)) lo hi (.slice (some ⟨q,0,none⟩) n cap) C2 M2 ∧ Upd M M2 i { x with mn:=p } ∧ ∀ t,sl4 (Nv.rat C2 i) t = sl4 (Nv.rat C i) t:=by
 have hM : i < M'.length:=by rw [u.len]; exact hi'
 have hC : i < C.length:=by rw [h.len]; exact hM
 have f:=h.fl i hM
 have e:=u.at'
 have key : ∀ r : Nv.Rw,Nv.rat C i = r → OwnC (w.setCell ⟨q,i * 10 + 3,none⟩ (.int .i64 p)) lo hi (.slice (some ⟨q,0,none⟩) n cap) (C.set i (r.1,r.2.1,r.2.2.1,p,r.2.2.2.2.1,r.2.2.2.2.2.1,r.2.2.2.2.2.2.1,r.2.2.2.2.2.2.2.1,r.2.2.2.2.2.2.2.2.1,r.2.2.2.2.2.2.2.2.2)) (M'.set i { nod M' i with mn:=p }) ∧ ∀ t,sl4 (Nv.rat (C.set i (r.1,r.2.1,r.2.2.1,p,r.2.2.2.2.1,r.2.2.2.2.2.1,r.2.2.2.2.2.2.1,r.2.2.2.2.2.2.2.1,r.2.2.2.2.2.2.2.2.1,r.2.2.2.2.2.2.2.2.2)) i) t = sl4 r t:=by
  intro r hr
  rw [hr] at f
  refine ⟨h.cell hM (by omega) (y:=(r.1,r.2.1,r.2.2.1,p,r.2.2.2.2.1,r.2.2.2.2.2.1,r.2.2.2.2.2.2.1,r.2.2.2.2.2.2.2.1,r.2.2.2.2.2.2.2.2.1,r.2.2.2.2.2.2.2.2.2)) (fun k hk=>?_) (fun t=>?_) ?_ ⟨rfl,rfl,rfl,rfl⟩,fun t=>?_⟩
  ·
   rw [hr]
   match k,hk with
   | 0,_=>rfl
   | 1,_=>rfl
   | 2,_=>rfl
   | 3,_=>rfl
   | 4,_=>rfl
   | 5,_=>rfl
   | 6,_=>rfl
   | 7,_=>rfl
   | 8,_=>rfl
   | 9,_=>rfl
  ·
   rw [hr]
   match t with
   | 0=>rfl
   | 1=>rfl
   | 2=>rfl
   | s + 3=>rfl
  ·
   obtain ⟨r0,r1,r2,r3,r4,r5,r6,r7,r8,r9⟩:=r
   simp only [nrw,sl4,Prod.mk.injEq,true_and] at f
   obtain ⟨rfl,rfl,rfl,rfl,rfl,rfl⟩:=f
   rfl
  ·
   rw [Nv.rat_set hC,if_pos rfl]
   match t with
   | 0=>rfl
   | 1=>rfl
   | 2=>rfl
   | s + 3=>rfl
 obtain ⟨z1,z2⟩:=key _ rfl
 rw [e] at z1
 exact ⟨_,_,z1,u.set hi' _,z2⟩
theorem OwnC.fld4 {w : World} {lo hi q n cap i : Nat} {C : List Nv.Rw} {M M' : List Nw} {x : Nw} (h : OwnC w lo hi (.slice (some ⟨q,0,none⟩) n cap) C M') (u : Upd M M' i x) (hi' : i < M.length) (p : Int) :
  ∃ C2 M2,OwnC (w.setCell ⟨q,i * 10 + 4,none⟩ (.int .i64 p)) lo hi (.slice (some ⟨q,0,none⟩) n cap) C2 M2 ∧ Upd M M2 i { x with ol:=p } ∧ ∀ t,sl4 (Nv.rat C2 i) t = sl4 (Nv.rat C i) t:=by
 have hM : i < M'.length:=by rw [u.len]; exact hi'
 have hC : i < C.length:=by rw [h.len]; exact hM
 have f:=h.fl i hM
 have e:=u.at'
 have key : ∀ r : Nv.Rw,Nv.rat C i = r → OwnC (w.setCell ⟨q,i * 10 + 4,none⟩ (.int .i64 p)) lo hi (.slice (some ⟨q,0,none⟩) n cap) (C.set i (r.1,r.2.1,r.2.2.1,r.2.2.2.1,p,r.2.2.2.2.2.1,r.2.2.2.2.2.2.1,r.2.2.2.2.2.2.2.1,r.2.2.2.2.2.2.2.2.1,r.2.2.2.2.2.2.2.2.2)) (M'.set i { nod M' i with ol:=p }) ∧ ∀ t,sl4 (Nv.rat (C.set i (r.1,r.2.1,r.2.2.1,r.2.2.2.1,p,r.2.2.2.2.2.1,r.2.2.2.2.2.2.1,r.2.2.2.2.2.2.2.1,r.2.2.2.2.2.2.2.2.1,r.2.2.2.2.2.2.2.2.2)) i) t = sl4 r t:=by
  intro r hr
  rw [hr] at f
  refine ⟨h.cell hM (by omega) (y:=(r.1,r.2.1,r.2.2.1,r.2.2.2.1,p,r.2.2.2.2.2.1,r.2.2.2.2.2.2.1,r.2.2.2.2.2.2.2.1,r.2.2.2.2.2.2.2.2.1,r.2.2.2.2.2.2.2.2.2)) (fun k hk=>?_) (fun t=>?_) ?_ ⟨rfl,rfl,rfl,rfl⟩,fun t=>?_⟩
  ·
   rw [hr]
   match k,hk with
   | 0,_=>rfl
   | 1,_=>rfl
   | 2,_=>rfl
   | 3,_=>rfl
   | 4,_=>rfl
   | 5,_=>rfl
   | 6,_=>rfl
   | 7,_=>rfl
   | 8,_=>rfl
   | 9,_=>rfl
  ·
   rw [hr]
   match t with
   | 0=>rfl
   | 1=>rfl
   | 2=>rfl
   | s + 3=>rfl
  ·
   obtain ⟨r0,r1,r2,r3,r4,r5,r6,r7,r8,r9⟩:=r
   simp only [nrw,sl4,Prod.mk.injEq,true_and] at f
   obtain ⟨rfl,rfl,rfl,rfl,rfl,rfl⟩:=f
   rfl
  ·
   rw [Nv.rat_set hC,if_pos rfl]
   match t with
   | 0=>rfl
   | 1=>rfl
   | 2=>rfl
   | s + 3=>rfl
 obtain ⟨z1,z2⟩:=key _ rfl
 rw [e] at z1
 exact ⟨_,_,z1,u.set hi' _,z2⟩
theorem OwnC.fld5 {w : World} {lo hi q n cap i : Nat} {C : List Nv.Rw} {M M' : List Nw} {x : Nw} (h : OwnC w lo hi (.slice (some ⟨q,0,none⟩) n cap) C M') (u : Upd M M' i x) (hi' : i < M.length) (p : Int) :
  ∃ C2 M2,OwnC (w.setCell ⟨q,i * 10 + 5,none⟩ (.int .i64 p)) lo hi (.slice (some ⟨q,0,none⟩) n cap) C2 M2 ∧ Upd M M2 i { x with nw:=p } ∧ ∀ t,sl4 (Nv.rat C2 i) t = sl4 (Nv.rat C i) t:=by
 have hM : i < M'.length:=by rw [u.len]; exact hi'
 have hC : i < C.length:=by rw [h.len]; exact hM
 have f:=h.fl i hM
 have e:=u.at'
 have key : ∀ r : Nv.Rw,Nv.rat C i = r → OwnC (w.setCell ⟨q,i * 10 + 5,none⟩ (.int .i64 p)) lo hi (.slice (some ⟨q,0,none⟩) n cap) (C.set i (r.1,r.2.1,r.2.2.1,r.2.2.2.1,r.2.2.2.2.1,p,r.2.2.2.2.2.2.1,r.2.2.2.2.2.2.2.1,r.2.2.2.2.2.2.2.2.1,r.2.2.2.2.2.2.2.2.2)) (M'.set i { nod M' i with nw:=p }) ∧ ∀ t,sl4 (Nv.rat (C.set i (r.1,r.2.1,r.2.2.1,r.2.2.2.1,r.2.2.2.2.1,p,r.2.2.2.2.2.2.1,r.2.2.2.2.2.2.2.1,r.2.2.2.2.2.2.2.2.1,r.2.2.2.2.2.2.2.2.2)) i) t = sl4 r t:=by
  intro r hr
  rw [hr] at f
  refine ⟨h.cell hM (by omega) (y:=(r.1,r.2.1,r.2.2.1,r.2.2.2.1,r.2.2.2.2.1,p,r.2.2.2.2.2.2.1,r.2.2.2.2.2.2.2.1,r.2.2.2.2.2.2.2.2.1,r.2.2.2.2.2.2.2.2.2)) (fun k hk=>?_) (fun t=>?_) ?_ ⟨rfl,rfl,rfl,rfl⟩,fun t=>?_⟩
  ·
   rw [hr]
   match k,hk with
   | 0,_=>rfl
   | 1,_=>rfl
   | 2,_=>rfl
   | 3,_=>rfl
   | 4,_=>rfl
   | 5,_=>rfl
   | 6,_=>rfl
   | 7,_=>rfl
   | 8,_=>rfl
   | 9,_=>rfl
  ·
   rw [hr]
   match t with
   | 0=>rfl
   | 1=>rfl
   | 2=>rfl
   | s + 3=>rfl
  ·
   obtain ⟨r0,r1,r2,r3,r4,r5,r6,r7,r8,r9⟩:=r
   simp only [nrw,sl4,Prod.mk.injEq,true_and] at f
   obtain ⟨rfl,rfl,rfl,rfl,rfl,rfl⟩:=f
   rfl
  ·
   rw [Nv.rat_set hC,if_pos rfl]
   match t with
   | 0=>rfl
   | 1=>rfl
   | 2=>rfl
   | s + 3=>rfl
 obtain ⟨z1,z2⟩:=key _ rfl
 rw [e] at z1
 exact ⟨_,_,z1,u.set hi' _,z2⟩
theorem OwnC.fld6 {w : World} {lo hi q n cap i : Nat} {C : List Nv.Rw} {M M' : List Nw} {x : Nw} (h : OwnC w lo hi (.slice (some ⟨q,0,none⟩) n cap) C M') (u : Upd M M' i x) (hi' : i < M.length) (p : Int) :
  ∃ C2 M2,OwnC (w.setCell ⟨q,i * 10 + 6,none⟩ (.int .i64 p)) lo hi (.slice (some ⟨q,0,none⟩) n cap) C2 M2 ∧ Upd M M2 i { x with tm:=p } ∧ ∀ t,sl4 (Nv.rat C2 i) t = sl4 (Nv.rat C i) t:=by
 have hM : i < M'.length:=by rw [u.len]; exact hi'
 have hC : i < C.length:=by rw [h.len]; exact hM
 have f:=h.fl i hM
 have e:=u.at'
 have key : ∀ r : Nv.Rw,Nv.rat C i = r → OwnC (w.setCell ⟨q,i * 10 + 6,none⟩ (.int .i64 p)) lo hi (.slice (some ⟨q,0,none⟩) n cap) (C.set i (r.1,r.2.1,r.2.2.1,r.2.2.2.1,r.2.2.2.2.1,r.2.2.2.2.2.1,p,r.2.2.2.2.2.2.2.1,r.2.2.2.2.2.2.2.2.1,r.2.2.2.2.2.2.2.2.2)) (M'.set i { nod M' i with tm:=p }) ∧ ∀ t,sl4 (Nv.rat (C.set i (r.1,r.2.1,r.2.2.1,r.2.2.2.1,r.2.2.2.2.1,r.2.2.2.2.2.1,p,r.2.2.2.2.2.2.2.1,r.2.2.2.2.2.2.2.2.1,r.2.2.2.2.2.2.2.2.2)) i) t = sl4 r t:=by
  intro r hr
  rw [hr] at f
  refine ⟨h.cell hM (by omega) (y:=(r.1,r.2.1,r.2.2.1,r.2.2.2.1,r.2.2.2.2.1,r.2.2.2.2.2.1,p,r.2.2.2.2.2.2.2.1,r.2.2.2.2.2.2.2.2.1,r.2.2.2.2.2.2.2.2.2)) (fun k hk=>?_) (fun t=>?_) ?_ ⟨rfl,rfl,rfl,rfl⟩,fun t=>?_⟩
  ·
   rw [hr]
   match k,hk with
   | 0,_=>rfl
   | 1,_=>rfl
   | 2,_=>rfl
   | 3,_=>rfl
   | 4,_=>rfl
   | 5,_=>rfl
   | 6,_=>rfl
   | 7,_=>rfl
   | 8,_=>rfl
   | 9,_=>rfl
  ·
   rw [hr]
   match t with
   | 0=>rfl
   | 1=>rfl
   | 2=>rfl
   | s + 3=>rfl
  ·
   obtain ⟨r0,r1,r2,r3,r4,r5,r6,r7,r8,r9⟩:=r
   simp only [nrw,sl4,Prod.mk.injEq,true_and] at f
   obtain ⟨rfl,rfl,rfl,rfl,rfl,rfl⟩:=f
   rfl
  ·
   rw [Nv.rat_set hC,if_pos rfl]
   match t with
   | 0=>rfl
   | 1=>rfl
   | 2=>rfl
   | s + 3=>rfl
 obtain ⟨z1,z2⟩:=key _ rfl
 rw [e] at z1
 exact ⟨_,_,z1,u.set hi' _,z2⟩
theorem OwnC.fld9 {w : World} {lo hi q n cap i : Nat} {C : List Nv.Rw} {M M' : List Nw} {x : Nw} (h : OwnC w lo hi (.slice (some ⟨q,0,none⟩) n cap) C M') (u : Upd M M' i x) (hi' : i < M.length) (p : ByteArray) :
  ∃ C2 M2,OwnC (w.setCell ⟨q,i * 10 + 9,none⟩ (.string p)) lo hi (.slice (some ⟨q,0,none⟩) n cap) C2 M2 ∧ Upd M M2 i { x with apex:=p } ∧ ∀ t,sl4 (Nv.rat C2 i) t = sl4 (Nv.rat C i) t:=by
 have hM : i < M'.length:=by rw [u.len]; exact hi'
 have hC : i < C.length:=by rw [h.len]; exact hM
 have f:=h.fl i hM
 have e:=u.at'
 have key : ∀ r : Nv.Rw,Nv.rat C i = r → OwnC (w.setCell ⟨q,i * 10 + 9,none⟩ (.string p)) lo hi (.slice (some ⟨q,0,none⟩) n cap) (C.set i (r.1,r.2.1,r.2.2.1,r.2.2.2.1,r.2.2.2.2.1,r.2.2.2.2.2.1,r.2.2.2.2.2.2.1,r.2.2.2.2.2.2.2.1,r.2.2.2.2.2.2.2.2.1,p)) (M'.set i { nod M' i with apex:=p }) ∧ ∀ t,sl4 (Nv.rat (C.set i (r.1,r.2.1,r.2.2.1,r.2.2.2.1,r.2.2.2.2.1,r.2.2.2.2.2.1,r.2.2.2.2.2.2.1,r.2.2.2.2.2.2.2.1,r.2.2.2.2.2.2.2.2.1,p)) i) t = sl4 r t:=by
  intro r hr
  rw [hr] at f
  refine ⟨h.cell hM (by omega) (y:=(r.1,r.2.1,r.2.2.1,r.2.2.2.1,r.2.2.2.2.1,r.2.2.2.2.2.1,r.2.2.2.2.2.2.1,r.2.2.2.2.2.2.2.1,r.2.2.2.2.2.2.2.2.1,p)) (fun k hk=>?_) (fun t=>?_) ?_ ⟨rfl,rfl,rfl,rfl⟩,fun t=>?_⟩
  ·
   rw [hr]
   match k,hk with
   | 0,_=>rfl
   | 1,_=>rfl
   | 2,_=>rfl
   | 3,_=>rfl
   | 4,_=>rfl
   | 5,_=>rfl
   | 6,_=>rfl
   | 7,_=>rfl
   | 8,_=>rfl
   | 9,_=>rfl
  ·
   rw [hr]
   match t with
   | 0=>rfl
   | 1=>rfl
   | 2=>rfl
   | s + 3=>rfl
  ·
   obtain ⟨r0,r1,r2,r3,r4,r5,r6,r7,r8,r9⟩:=r
   simp only [nrw,sl4,Prod.mk.injEq,true_and] at f
   obtain ⟨rfl,rfl,rfl,rfl,rfl,rfl⟩:=f
   rfl
  ·
   rw [Nv.rat_set hC,if_pos rfl]
   match t with
   | 0=>rfl
   | 1=>rfl
   | 2=>rfl
   | s + 3=>rfl
 obtain ⟨z1,z2⟩:=key _ rfl
 rw [e] at z1
 exact ⟨_,_,z1,u.set hi' _,z2⟩
theorem OwnC.sls {w : World} {lo hi q n cap i : Nat} {C : List Nv.Rw} {L : List Nw} (h : OwnC w lo hi (.slice (some ⟨q,0,none⟩) n cap) C L) (hi' : i < L.length) : w.cell? ⟨q,i * 10,none⟩ = some (sv (sl4 (Nv.rat C i) 0)) ∧ w.cell? ⟨q,i * 10 + 1,none⟩ = some (sv (sl4 (Nv.rat C i) 1)) ∧ w.cell? ⟨q,i * 10 + 7,none⟩ = some (sv (sl4 (Nv.rat C i) 2)) ∧ w.cell? ⟨q,i * 10 + 8,none⟩ = some (sv (sl4 (Nv.rat C i) 3)):=by
 have hC : i < C.length:=by rw [h.len]; exact hi'
 exact ⟨h.row.at hC (j:=0) (by omega),h.row.at hC (j:=1) (by omega),h.row.at hC (j:=7) (by omega),h.row.at hC (j:=8) (by omega)⟩
def costN (x : Nw) : Nat:=5 * x.book.length + 3 * x.mem.length + 5 + 3 * x.buc.length + 2 * x.log.length + 1
def mark1 (k : Nat) (x : Nw) : Nw :=
 ⟨En.markX k x.book.length,Mm.markX (k + 5 * x.book.length) x.mem.length,((k + 5 * x.book.length + 3 * x.mem.length : Nat) : Int),((k + 5 * x.book.length + 3 * x.mem.length + 1 : Nat) : Int),((k + 5 * x.book.length + 3 * x.mem.length + 2 : Nat) : Int),((k + 5 * x.book.length + 3 * x.mem.length + 3 : Nat) : Int),((k + 5 * x.book.length + 3 * x.mem.length + 4 : Nat) : Int),
 Bu.markX (k + 5 * x.book.length + 3 * x.mem.length + 5) x.buc.length,Lg.markL (k + 5 * x.book.length + 3 * x.mem.length + 5 + 3 * x.buc.length) x.log.length,Lg.mt (k + 5 * x.book.length + 3 * x.mem.length + 5 + 3 * x.buc.length + 2 * x.log.length)⟩
def cost : List Nw → Nat
 | []=>0
 | r :: L=>costN r + cost L
def markR : Nat → List Nw → List Nw
 | _,[]=>[]
 | k,r :: L=>mark1 k r :: markR (k + costN r) L
theorem markR_length : ∀ (L : List Nw) (k : Nat),(markR k L).length = L.length
 | [],_=>rfl
 | r :: L,k=>by simp only [markR,List.length_cons,markR_length L]
theorem cost_app (L M : List Nw) : cost (L ++ M) = cost L + cost M:=by
 induction L with
 | nil=>simp [cost]
 | cons r L ih=>simp only [List.cons_append,cost,ih]; omega
theorem cost_take {L : List Nw} {i : Nat} (h : i < L.length) : cost (L.take (i + 1)) = cost (L.take i) + costN (nod L i):=by
 rw [take_nod h,cost_app]
 simp [cost]
theorem cost_take_le (L : List Nw) (i : Nat) : cost (L.take i) ≤ cost L:=by
 have:=cost_app (L.take i) (L.drop i)
 rw [List.take_append_drop] at this
 omega
theorem nod_markR : ∀ (L : List Nw) (k i : Nat),i < L.length → nod (markR k L) i = mark1 (k + cost (L.take i)) (nod L i)
 | [],_,i,h=>absurd h (Nat.not_lt_zero _)
 | r :: L,k,0,_=>by simp [markR,nod,cost]
 | r :: L,k,i + 1,h=>by
  have:=nod_markR L (k + costN r) i (by simpa using h)
  have e1 : nod (markR k (r :: L)) (i + 1) = nod (markR (k + costN r) L) i:=by simp [markR,nod]
  have e2 : nod (r :: L) (i + 1) = nod L i:=by simp [nod]
  rw [e1,e2,this,List.take_succ_cons]
  simp only [cost]
  rw [Nat.add_assoc]
def MkP (lo hi : Nat) (v : Value) (L : List Nw) (k : Nat) (w : World) (e : Ending) (w' : World) : Prop:=e = .returned (.int .i64 ((k + cost L : Nat) : Int)) ∧ Own w' lo hi v (markR k L) ∧ Nd.Mk TS lo hi w w'
theorem MkP.of {lo hi : Nat} {v : Value} {L : List Nw} {k : Nat} {w w' : World} {e : Ending} (h : e = .returned (.int .i64 ((k + cost L : Nat) : Int))) (h1 : Own w' lo hi v (markR k L)) (h2 : Nd.Mk TS lo hi w w') : MkP lo hi v L k w e w':=⟨h,h1,h2⟩
theorem MkP.out {lo hi : Nat} {v : Value} {L : List Nw} {k : Nat} {w w' : World} {e : Ending} (h : MkP lo hi v L k w e w') : e = .returned (.int .i64 ((k + cost L : Nat) : Int)) ∧ Own w' lo hi v (markR k L) ∧ Nd.Mk TS lo hi w w':=h
end Go.Proofs.YtgbnkkjjgodilaaGreatDoor.Ns
namespace Go.Proofs.YtgbnkkjjgodilaaGreatDoor.Ns
open Go.ChangeShapes Go.WideShapes Go.ChangeAt Go.RowKit
open Vv (Sl sv hidIt)
open Nd (Nw RdN OwnN)
open Rp (OnlyIn own_apart row_in row_other)
open Nd (on)
open Rc (BelowBy wp_region_below calls_below calls_same)
theorem heldS_any (a : Option Addr) (cap : Nat) (L : List Nw) (k : Nat) (w : World) (h : Rd w a (markR k L)) (h1 : 1 ≤ k) (h2 : k + cost L ≤ 1099511627776) (hl : L.length ≤ 1048576) :
  Calls Tryz.prog 34 #[.slice a L.length cap,.int .i64 k] w fun e w'=>e = .returned (.int .i64 ((k + cost L : Nat) : Int)) ∧ Below w.heap.size w w':=by
 have HT:=hidIt (fun i (hi : i < L.length)=>cost_take hi)
 have HTL:=hidIt (fun i=>cost_take_le L i)
 have HE : Hid (cost (L.take L.length) = cost L):=hidIt (by rw [List.take_length])
 have HML:=hidIt (markR_length L k)
 have HRM:=hidIt (fun i (hi : i < L.length)=>nod_markR L k i hi)
 have HR:=hidIt h
 clear h
 generalize hn : L.length = m at *
 have HN:=hidIt hn
 clear hn
 go_enter Tryz.func34,Tryz.ntmps34
 go_wp2_with (fail)
 go_loopw [1,5] (fun z y wx=>∃ (i : Nat),y = .int .i64 i ∧ z = .int .i64 ((k + cost (L.take i) : Nat) : Int) ∧ i ≤ m ∧ Hid (Below w.heap.size w wx)) (fun _ y _=>(m - intOf y).toNat)
 case atStart=>exact ⟨0,rfl,by simp [cost],by omega,hidIt (Below.refl _ _)⟩
 case round =>
  obtain ⟨i,rfl,rfl,him,HB⟩:=hrel
  by_cases hin : i < m
  ·
   have hin' : (i : Int) < (m : Int):=by omega
   have hi0 : (0 : Int) ≤ (i : Int):=by omega
   have hct:=HT.out i hin
   have hle:=HTL.out (i + 1)
   obtain ⟨q,off,e,mm,b,g,ea,c0,c1,c2,c3,c4,c5,c6,c7,c8,c9,rN⟩:=(HR.out.kept HB.out).one (i:=i) (by rw [HML.out]; exact hin)
   subst ea
   rw [HRM.out i hin] at c2 c3 c4 c5 c6 c9 rN
   have hcN : costN (nod L i) = 5 * (nod L i).book.length + 3 * (nod L i).mem.length + 5 + 3 * (nod L i).buc.length + 2 * (nod L i).log.length + 1:=rfl
   generalize hkx : k + cost (L.take i) = kx at *
   generalize nod L i = x at *
   generalize hct1 : cost (L.take (i + 1)) = ct1 at *
   have HCT:=hidIt hct1
   clear hct1
   have hk1 : 1 ≤ kx:=by omega
   have hkk : k + ct1 = kx + 5 * x.book.length + 3 * x.mem.length + 5 + 3 * x.buc.length + 2 * x.log.length + 1:=by omega
   have hbd : kx + 5 * x.book.length + 3 * x.mem.length + 5 + 3 * x.buc.length + 2 * x.log.length + 1 ≤ 1099511627776:=by omega
   have l1 : e.2.1 = x.book.length:=rN.e.len.trans (En.markX_length _ _)
   have l2 : mm.2.1 = x.mem.length:=rN.m.len.trans (Mm.markX_length _ _)
   have l3 : b.2.1 = x.buc.length:=rN.b.len.trans (Bu.markX_length _ _)
   have l4 : g.2.1 = x.log.length:=rN.g.len.trans (Lg.markL_length _ _)
   have R1 : Hid (En.Rd wr e.1 (En.markX kx x.book.length)):=hidIt rN.e.rd
   have R2 : Hid (Mm.Rd wr mm.1 (Mm.markX (kx + 5 * x.book.length) x.mem.length)):=hidIt rN.m.rd
   have R3 : Hid (Bu.Rd wr b.1 (Bu.markX (kx + 5 * x.book.length + 3 * x.mem.length + 5) x.buc.length)):=hidIt rN.b.rd
   have R4 : Hid (Lg.Rd wr g.1 (Lg.markL (kx + 5 * x.book.length + 3 * x.mem.length + 5 + 3 * x.buc.length) x.log.length)):=hidIt rN.g.rd
   have C1:=hidIt (fun W (r : En.Rd W e.1 (En.markX kx x.book.length))=>En.heldS_any e.1 e.2.2 x.book.length kx W r (by omega) (by omega))
   have C2:=hidIt (fun W (r : Mm.Rd W mm.1 (Mm.markX (kx + 5 * x.book.length) x.mem.length))=>Mm.heldS_any mm.1 mm.2.2 x.mem.length (kx + 5 * x.book.length) W r (by omega) (by omega))
   have C3:=hidIt (fun W (r : Bu.Rd W b.1 (Bu.markX (kx + 5 * x.book.length + 3 * x.mem.length + 5) x.buc.length))=>Bu.heldS_any b.1 b.2.2 x.buc.length (kx + 5 * x.book.length + 3 * x.mem.length + 5) W r (by omega) (by omega))
   have C4:=hidIt (fun W (r : Lg.Rd W g.1 (Lg.markL (kx + 5 * x.book.length + 3 * x.mem.length + 5 + 3 * x.buc.length) x.log.length))=>Lg.heldLineS_any g.1 g.2.2 x.log.length (kx + 5 * x.book.length + 3 * x.mem.length + 5 + 3 * x.buc.length) W r (by omega) (by omega))
   have CX:=hidIt (fun W=>Lg.markText_any (kx + 5 * x.book.length + 3 * x.mem.length + 5 + 3 * x.buc.length + 2 * x.log.length) W (by omega) (by omega))
   simp only [mark1] at c2 c3 c4 c5 c6 c9
   have bq : q < wr.heap.size:=World.block_lt_of_cell? _ _ c0
   generalize x.book.length = n1 at *
   generalize x.mem.length = n2 at *
   generalize x.buc.length = n3 at *
   generalize x.log.length = n4 at *
   generalize hK1 : kx + 5 * n1 = k1 at *
   generalize hK2 : k1 + 3 * n2 = k2 at *
   generalize hK3 : k2 + 5 + 3 * n3 = k4 at *
   generalize hK4 : k4 + 2 * n4 = k5 at *
   obtain ⟨e0,e1,e2⟩:=e
   obtain ⟨t0,t1,t2⟩:=mm
   obtain ⟨b0,b1,b2⟩:=b
   obtain ⟨g0,g1,g2⟩:=g
   simp only [sv] at c0 c1 c7 c8 l1 l2 l3 l4 C1 C2 C3 C4 R1 R2 R3 R4
   subst l1 l2 l3 l4
   have z1 : ((k2 + 1 : Nat) : Int) = (k2 : Int) + 1:=by omega
   have z2 : ((k2 + 2 : Nat) : Int) = (k2 : Int) + 1 + 1:=by omega
   have z3 : ((k2 + 3 : Nat) : Int) = (k2 : Int) + 1 + 1 + 1:=by omega
   have z4 : ((k2 + 4 : Nat) : Int) = (k2 : Int) + 1 + 1 + 1 + 1:=by omega
   have z5 : ((k2 + 5 : Nat) : Int) = (k2 : Int) + 1 + 1 + 1 + 1 + 1:=by omega
   rw [z1] at c3
   rw [z2] at c4
   rw [z3] at c5
   rw [z4] at c6
   simp only [z5] at C3
   have y0 : (((k2 : Int)) != ((k2 : Int))) = false:=by simp
   have y1 : (((k2 : Int) + 1) != ((k2 : Int) + 1)) = false:=by simp
   have y2 : (((k2 : Int) + 1 + 1) != ((k2 : Int) + 1 + 1)) = false:=by simp
   have y3 : (((k2 : Int) + 1 + 1 + 1) != ((k2 : Int) + 1 + 1 + 1)) = false:=by simp
   have y4 : (((k2 : Int) + 1 + 1 + 1 + 1) != ((k2 : Int) + 1 + 1 + 1 + 1)) = false:=by simp
   have ym : ((Lg.mt k5).toList == (Lg.mt k5).toList) = true:=by simp
   have p1 : ¬ (k1 : Int) < 0:=by omega
   have p2 : ¬ (k2 : Int) < 0:=by omega
   have p4 : ¬ (k4 : Int) < 0:=by omega
   have p5 : ¬ (k5 : Int) < 0:=by omega
   have hb5 : k5 + 1 ≤ 1099511627776:=by omega
   have hb2 : k2 + 5 ≤ 1099511627776:=by omega
   have HKK:=hidIt hkk
   clear rN hkk hct hle hbd hkx hK1 hK2 hK3 hK4 hcN z1 z2 z3 z4 z5
   go_wp2_with (fail)
   refine (C1.out _ R1.out).mono ?_
   rintro en w1 ⟨rfl,ka⟩
   have c1w1 : w1.cell? ⟨q,off + i * 10 + 1,none⟩ = some (.slice t0 t1 t2):=by rw [ka.cell bq]; exact c1
   have c2w1 : w1.cell? ⟨q,off + i * 10 + 2,none⟩ = some (.int .i64 ((k2 : Int))):=by rw [ka.cell bq]; exact c2
   have c3w1 : w1.cell? ⟨q,off + i * 10 + 3,none⟩ = some (.int .i64 ((k2 : Int) + 1)):=by rw [ka.cell bq]; exact c3
   have c4w1 : w1.cell? ⟨q,off + i * 10 + 4,none⟩ = some (.int .i64 ((k2 : Int) + 1 + 1)):=by rw [ka.cell bq]; exact c4
   have c5w1 : w1.cell? ⟨q,off + i * 10 + 5,none⟩ = some (.int .i64 ((k2 : Int) + 1 + 1 + 1)):=by rw [ka.cell bq]; exact c5
   have c6w1 : w1.cell? ⟨q,off + i * 10 + 6,none⟩ = some (.int .i64 ((k2 : Int) + 1 + 1 + 1 + 1)):=by rw [ka.cell bq]; exact c6
   have c7w1 : w1.cell? ⟨q,off + i * 10 + 7,none⟩ = some (.slice b0 b1 b2):=by rw [ka.cell bq]; exact c7
   have c8w1 : w1.cell? ⟨q,off + i * 10 + 8,none⟩ = some (.slice g0 g1 g2):=by rw [ka.cell bq]; exact c8
   have c9w1 : w1.cell? ⟨q,off + i * 10 + 9,none⟩ = some (.string (Lg.mt k5)):=by rw [ka.cell bq]; exact c9
   have HB1:=hidIt (on HB.out ka)
   have R2a:=hidIt (R2.out.kept ka)
   have R3a:=hidIt (R3.out.kept ka)
   have R4a:=hidIt (R4.out.kept ka)
   have bq1 : q < w1.heap.size:=Nat.lt_of_lt_of_le bq ka.size
   clear ka c0 c1 c2 c3 c4 c5 c6 c7 c8 c9 R1 R2 R3 R4 HB C1
   go_wp2_with (fail)
   refine (C2.out _ R2a.out).mono ?_
   rintro en w2 ⟨rfl,ka⟩
   have c2w2 : w2.cell? ⟨q,off + i * 10 + 2,none⟩ = some (.int .i64 ((k2 : Int))):=by rw [ka.cell bq1]; exact c2w1
   have c3w2 : w2.cell? ⟨q,off + i * 10 + 3,none⟩ = some (.int .i64 ((k2 : Int) + 1)):=by rw [ka.cell bq1]; exact c3w1
   have c4w2 : w2.cell? ⟨q,off + i * 10 + 4,none⟩ = some (.int .i64 ((k2 : Int) + 1 + 1)):=by rw [ka.cell bq1]; exact c4w1
   have c5w2 : w2.cell? ⟨q,off + i * 10 + 5,none⟩ = some (.int .i64 ((k2 : Int) + 1 + 1 + 1)):=by rw [ka.cell bq1]; exact c5w1
   have c6w2 : w2.cell? ⟨q,off + i * 10 + 6,none⟩ = some (.int .i64 ((k2 : Int) + 1 + 1 + 1 + 1)):=by rw [ka.cell bq1]; exact c6w1
   have c7w2 : w2.cell? ⟨q,off + i * 10 + 7,none⟩ = some (.slice b0 b1 b2):=by rw [ka.cell bq1]; exact c7w1
   have c8w2 : w2.cell? ⟨q,off + i * 10 + 8,none⟩ = some (.slice g0 g1 g2):=by rw [ka.cell bq1]; exact c8w1
   have c9w2 : w2.cell? ⟨q,off + i * 10 + 9,none⟩ = some (.string (Lg.mt k5)):=by rw [ka.cell bq1]; exact c9w1
   have HB2:=hidIt (on HB1.out ka)
   have R3b:=hidIt (R3a.out.kept ka)
   have R4b:=hidIt (R4a.out.kept ka)
   have bq2 : q < w2.heap.size:=Nat.lt_of_lt_of_le bq1 ka.size
   clear ka c1w1 c2w1 c3w1 c4w1 c5w1 c6w1 c7w1 c8w1 c9w1 R2a R3a R4a HB1 C2
   go_wp2_with (fail)
   refine (C3.out _ R3b.out).mono ?_
   rintro en w3 ⟨rfl,ka⟩
   have c8w3 : w3.cell? ⟨q,off + i * 10 + 8,none⟩ = some (.slice g0 g1 g2):=by rw [ka.cell bq2]; exact c8w2
   have c9w3 : w3.cell? ⟨q,off + i * 10 + 9,none⟩ = some (.string (Lg.mt k5)):=by rw [ka.cell bq2]; exact c9w2
   have HB3:=hidIt (on HB2.out ka)
   have R4c:=hidIt (R4b.out.kept ka)
   have bq3 : q < w3.heap.size:=Nat.lt_of_lt_of_le bq2 ka.size
   clear ka c2w2 c3w2 c4w2 c5w2 c6w2 c7w2 c8w2 c9w2 R3b R4b HB2 C3
   go_wp2_with (fail)
   refine (C4.out _ R4c.out).mono ?_
   rintro en w4 ⟨rfl,ka⟩
   have c9w4 : w4.cell? ⟨q,off + i * 10 + 9,none⟩ = some (.string (Lg.mt k5)):=by rw [ka.cell bq3]; exact c9w3
   have HB4:=hidIt (on HB3.out ka)
   clear ka c8w3 c9w3 R4c HB3 C4
   haveI:=BelowBy.one w4
   have f9:=fun p : BelowBy w4=>p.cell c9w4
   have CXp:=hidIt (fun p : BelowBy w4=>CX.out p.world)
   clear c9w4
   go_wp2_with (fail)
   refine wp_region_below (by kernel_rfl) (by kernel_rfl) ?_
   repeat (go_big_quiet_step (first | (go_at_call 59; exact calls_below (CXp.out _))))
   refine wpQuiet_nil ?_
   intro _ hw'
   obtain ⟨pq,rfl⟩:=hw'
   have HB5:=hidIt (on HB4.out pq.h)
   generalize pq.world = w5 at HB5 ⊢
   clear f9 CXp
   go_wp2_with (fail)
   refine ⟨⟨i + 1,by simp,?_,by omega,HB5⟩,by simp [intOf]; omega⟩
   have z:=HKK.out
   rw [HCT.out,z]
   rfl
  ·
   have hin' : ¬ (i : Int) < (m : Int):=by omega
   obtain rfl : i = m:=by omega
   rw [HE.out]
   go_wp2_with (fail)
   go_ret
   first | exact ⟨rfl,HB.out⟩ | exact ⟨by simp,HB.out⟩
end Go.Proofs.YtgbnkkjjgodilaaGreatDoor.Ns
namespace Go.Proofs.YtgbnkkjjgodilaaGreatDoor.Ns
open Go.ChangeShapes Go.WideShapes Go.ChangeAt Go.RowKit
open Vv (Sl sv hidIt)
open Nd (Nw RdN OwnN)
open Rp (OnlyIn own_apart row_in row_other)
open Nd (on)
theorem markS_any (lo hi : Nat) (v : Value) (L : List Nw) (k : Nat) (w : World) (h : Own w lo hi v L) (h1 : 1 ≤ k) (h2 : k + cost L ≤ 1099511627776) (hl : L.length ≤ 1048576) :
  Calls Tryz.prog 32 #[v,.int .i64 k] w fun e w'=>MkP lo hi v L k w e w':=by
 obtain ⟨C,h⟩:=h
 obtain ⟨a,cap,ev,hcap,hcm,hna⟩:=Own.form ⟨C,h⟩
 have HT:=hidIt (fun i (hi : i < L.length)=>cost_take hi)
 have HTL:=hidIt (fun i=>cost_take_le L i)
 have HE : Hid (cost (L.take L.length) = cost L):=hidIt (by rw [List.take_length])
 have HML:=hidIt (markR_length L k)
 have HRM:=hidIt (fun i (hi : i < L.length)=>nod_markR L k i hi)
 subst ev
 generalize hn : L.length = m at *
 have HN:=hidIt hn
 have HO:=hidIt h
 clear hn h
 go_enter Tryz.func32,Tryz.ntmps32
 go_wp2_with (fail)
 go_loopw [1,5] (fun z y wx=>∃ (i : Nat) (C : List Nv.Rw) (M : List Nw),y = .int .i64 i ∧ z = .int .i64 ((k + cost (L.take i) : Nat) : Int) ∧ i ≤ m ∧ M.length = m ∧ Hid (∀ j,j < i → nod M j = nod (markR k L) j) ∧ Hid (∀ j,i ≤ j → nod M j = nod L j) ∧ Hid (OwnC wx lo hi (.slice a m cap) C M) ∧ Hid (Nd.Mk TS lo hi w wx)) (fun _ y _=>(m - intOf y).toNat)
 case atStart=>exact ⟨0,C,L,rfl,by simp [cost],by omega,HN.out,hidIt (fun j hj=>by omega),hidIt (fun j _=>rfl),HO,hidIt (mk_refl _ _ _)⟩
 case round =>
  obtain ⟨i,C,M,rfl,rfl,him,hM,HD,HU,HOx,HY⟩:=hrel
  have HM:=hidIt hM
  clear hM HO
  by_cases hin : i < m
  ·
   have hin' : (i : Int) < (m : Int):=by omega
   have hi0 : (0 : Int) ≤ (i : Int):=by omega
   have hiM : i < M.length:=by rw [HM.out]; exact hin
   have hct:=HT.out i hin
   have hle:=HTL.out (i + 1)
   have hRi:=HRM.out i hin
   have hx:=HU.out i (Nat.le_refl _)
   obtain ⟨q,ea⟩ : ∃ q,a = some ⟨q,0,none⟩:=by
    obtain ⟨a',c',e',_,_,r,_,hs⟩:=HOx.out.row.form
    obtain ⟨b,off,eb,_⟩:=r.all (i:=i) (by rw [HOx.out.len]; exact hiM)
    obtain ⟨g,eg,_⟩:=hs _ eb
    rw [eg] at eb
    exact ⟨g,(Value.slice.inj e').1.trans eb⟩
   subst ea
   have U0:=Upd.refl M i
   rw [hx] at U0
   have n0:=HOx.out.nd i hiM
   rw [hx] at n0
   obtain ⟨s0,s1,_,_⟩:=HOx.out.sls hiM
   have hcN : costN (nod L i) = 5 * (nod L i).book.length + 3 * (nod L i).mem.length + 5 + 3 * (nod L i).buc.length + 2 * (nod L i).log.length + 1:=rfl
   generalize hkx : k + cost (L.take i) = kx at *
   generalize nod L i = x at *
   generalize hct1 : cost (L.take (i + 1)) = ct1 at *
   have HCT:=hidIt hct1
   clear hct1
   have HU0:=hidIt U0
   have N0:=hidIt n0
   have HRi:=hidIt hRi
   have hk1 : 1 ≤ kx:=by omega
   have hkk : k + ct1 = kx + 5 * x.book.length + 3 * x.mem.length + 5 + 3 * x.buc.length + 2 * x.log.length + 1:=by omega
   have hbd : kx + 5 * x.book.length + 3 * x.mem.length + 5 + 3 * x.buc.length + 2 * x.log.length + 1 ≤ 1099511627776:=by omega
   have CE:=hidIt (En.markS_any lo (sv (sl4 (Nv.rat C i) 0)) x.book kx wr n0.e hk1 (by omega))
   have CM:=hidIt (fun W (o : Mm.Own W lo (sv (sl4 (Nv.rat C i) 1)) x.mem)=>Mm.markS_any lo (sv (sl4 (Nv.rat C i) 1)) x.mem (kx + 5 * x.book.length) W o (by omega) (by omega))
   have CB:=hidIt (fun v W (o : Bu.Own W lo v x.buc)=>Bu.markS_any lo v x.buc (kx + 5 * x.book.length + 3 * x.mem.length + 5) W o (by omega) (by omega))
   have CG:=hidIt (fun v W (o : Lg.Own W lo v x.log)=>Lg.markLineS_any lo v x.log (kx + 5 * x.book.length + 3 * x.mem.length + 5 + 3 * x.buc.length) W o (by omega) (by omega))
   have CX:=hidIt (fun W=>Lg.markText_any (kx + 5 * x.book.length + 3 * x.mem.length + 5 + 3 * x.buc.length + 2 * x.log.length) W (by omega) (by omega))
   unfold mark1 at HRi
   generalize hn1 : x.book.length = n1 at *
   generalize hn2 : x.mem.length = n2 at *
   generalize hn3 : x.buc.length = n3 at *
   generalize hn4 : x.log.length = n4 at *
   generalize hK1 : kx + 5 * n1 = k1 at *
   generalize hK2 : k1 + 3 * n2 = k2 at *
   generalize hK3 : k2 + 5 + 3 * n3 = k4 at *
   generalize hK4 : k4 + 2 * n4 = k5 at *
   clear n0 U0 hRi hx hcN hn1 hn2 hn3 hn4
   generalize hc0 : sl4 (Nv.rat C i) 0 = e at *
   generalize hc1 : sl4 (Nv.rat C i) 1 = mm at *
   have HC0:=hidIt hc0
   have HC1:=hidIt hc1
   clear hc0 hc1
   obtain ⟨e0,e1,e2⟩:=e
   obtain ⟨t0,t1,t2⟩:=mm
   simp only [sv] at s0 s1 CE CM
   have hb2 : k2 + 5 ≤ 1099511627776:=by omega
   have hb5 : k5 + 1 ≤ 1099511627776:=by omega
   have HKK:=hidIt hkk
   have e5 : ((k2 + 5 : Nat) : Int) = (k2 : Int) + 1 + 1 + 1 + 1 + 1:=by omega
   simp only [e5] at CB
   clear e5
   clear hkk hct hle hbd hkx hK1 hK2 hK3 hK4
   go_wp2_with (fail)
   refine CE.out.mono ?_
   rintro en w1 ⟨rfl,o1,y1⟩
   obtain ⟨M1,h1',u1,Z1⟩:=HOx.out.mkE HU0.out hiM (by rw [HC0.out]; exact o1) (by rw [HC0.out]; exact y1)
   have H1:=hidIt h1'
   have U1:=hidIt u1
   have HY1:=hidIt (mk_on HY.out Z1 (by decide))
   obtain ⟨_,s1',_,_⟩:=h1'.sls (i:=i) (by rw [u1.len]; exact hiM)
   have n1':=h1'.nd i (by rw [u1.len]; exact hiM)
   rw [u1.at'] at n1'
   have oM1 : Mm.Own w1 lo (sv (t0,t1,t2)) x.mem:=by rw [← HC1.out]; exact n1'.m
   rw [HC1.out] at s1'
   simp only [sv] at s1' oM1
   have OM1:=hidIt oM1
   clear s0 s1 o1 y1 h1' u1 Z1 n1' oM1 CE HY HOx HU0 N0
   go_wp2_with (fail)
   refine (CM.out _ OM1.out).mono ?_
   rintro en w2 ⟨rfl,o2,y2⟩
   obtain ⟨M2,h2',u2,Z2⟩:=H1.out.mkM U1.out hiM (by rw [HC1.out]; exact o2) (by rw [HC1.out]; exact y2)
   have HY2:=hidIt (mk_on HY1.out Z2 (by decide))
   have hi2 : i < M2.length:=by rw [u2.len]; exact hiM
   have hC2 : i < C.length:=by rw [h2'.len]; exact hi2
   have c2:=h2'.row.at hC2 (j:=2) (by omega)
   have c3:=h2'.row.at hC2 (j:=3) (by omega)
   have c4:=h2'.row.at hC2 (j:=4) (by omega)
   have c5:=h2'.row.at hC2 (j:=5) (by omega)
   have c6:=h2'.row.at hC2 (j:=6) (by omega)
   have f2:=h2'.row.free (i * 10 + 2)
   have f3:=h2'.row.free (i * 10 + 3)
   have f4:=h2'.row.free (i * 10 + 4)
   have f5:=h2'.row.free (i * 10 + 5)
   have f6:=h2'.row.free (i * 10 + 6)
   obtain ⟨_,_,s2',_⟩:=h2'.sls hi2
   obtain ⟨Ca,Ma,ha,ua,ta⟩:=h2'.fld2 u2 hiM ((k2 : Int))
   obtain ⟨Cb,Mb,hb,ub,tb⟩:=ha.fld3 ua hiM ((k2 : Int) + 1)
   obtain ⟨Cc,Mc,hc,uc,tc⟩:=hb.fld4 ub hiM ((k2 : Int) + 1 + 1)
   obtain ⟨Cd,Md,hd,ud,td⟩:=hc.fld5 uc hiM ((k2 : Int) + 1 + 1 + 1)
   obtain ⟨Ce,Me,he,ue,te⟩:=hd.fld6 ud hiM ((k2 : Int) + 1 + 1 + 1 + 1)
   have q2 : sl4 (Nv.rat Ce i) 2 = sl4 (Nv.rat C i) 2:=by rw [te,td,tc,tb,ta]
   have ZQ : Nd.Mk [49] lo hi w2 ((((((w2).setCell ⟨q,i * 10 + 2,none⟩ (.int .i64 ((k2 : Int)))).setCell ⟨q,i * 10 + 2 + 1,none⟩ (.int .i64 ((k2 : Int) + 1))).setCell ⟨q,i * 10 + 2 + 2,none⟩ (.int .i64 ((k2 : Int) + 1 + 1))).setCell ⟨q,i * 10 + 2 + 3,none⟩ (.int .i64 ((k2 : Int) + 1 + 1 + 1))).setCell ⟨q,i * 10 + 2 + 4,none⟩ (.int .i64 ((k2 : Int) + 1 + 1 + 1 + 1))):=Nd.Mk.of_row h2'.row (((((( Only.refl q w2).setCell (i * 10 + 2) _).setCell (i * 10 + 3) _).setCell (i * 10 + 4) _).setCell (i * 10 + 5) _).setCell (i * 10 + 6) _) (Nat.le_refl _) h2'.blk
   have HE5 : Hid (OwnC ((((((w2).setCell ⟨q,i * 10 + 2,none⟩ (.int .i64 ((k2 : Int)))).setCell ⟨q,i * 10 + 2 + 1,none⟩ (.int .i64 ((k2 : Int) + 1))).setCell ⟨q,i * 10 + 2 + 2,none⟩ (.int .i64 ((k2 : Int) + 1 + 1))).setCell ⟨q,i * 10 + 2 + 3,none⟩ (.int .i64 ((k2 : Int) + 1 + 1 + 1))).setCell ⟨q,i * 10 + 2 + 4,none⟩ (.int .i64 ((k2 : Int) + 1 + 1 + 1 + 1))) lo hi (.slice (some ⟨q,0,none⟩) m cap) Ce Me):=hidIt he
   have UE5:=hidIt ue
   have HY5 : Hid (Nd.Mk TS lo hi w ((((((w2).setCell ⟨q,i * 10 + 2,none⟩ (.int .i64 ((k2 : Int)))).setCell ⟨q,i * 10 + 2 + 1,none⟩ (.int .i64 ((k2 : Int) + 1))).setCell ⟨q,i * 10 + 2 + 2,none⟩ (.int .i64 ((k2 : Int) + 1 + 1))).setCell ⟨q,i * 10 + 2 + 3,none⟩ (.int .i64 ((k2 : Int) + 1 + 1 + 1))).setCell ⟨q,i * 10 + 2 + 4,none⟩ (.int .i64 ((k2 : Int) + 1 + 1 + 1 + 1)))):=hidIt (mk_on HY2.out ZQ (by decide))
   have nE:=he.nd i (by rw [ue.len]; exact hiM)
   rw [ue.at'] at nE
   have oB : Hid (Bu.Own ((((((w2).setCell ⟨q,i * 10 + 2,none⟩ (.int .i64 ((k2 : Int)))).setCell ⟨q,i * 10 + 2 + 1,none⟩ (.int .i64 ((k2 : Int) + 1))).setCell ⟨q,i * 10 + 2 + 2,none⟩ (.int .i64 ((k2 : Int) + 1 + 1))).setCell ⟨q,i * 10 + 2 + 3,none⟩ (.int .i64 ((k2 : Int) + 1 + 1 + 1))).setCell ⟨q,i * 10 + 2 + 4,none⟩ (.int .i64 ((k2 : Int) + 1 + 1 + 1 + 1))) lo (sv (sl4 (Nv.rat Ce i) 2)) x.buc):=hidIt nE.b
   rw [q2] at oB
   have HQ2:=hidIt q2
   generalize hc2 : sl4 (Nv.rat C i) 2 = bb at s2' oB HQ2
   obtain ⟨b0,b1,b2⟩:=bb
   simp only [Nv.rcell,sv] at c2 c3 c4 c5 c6 s2' oB
   clear hc2 ha hb hc hd he ua ub uc ud ue ta tb tc td te nE q2 ZQ o2 y2 h2' u2 Z2 H1 U1 HY1 HY2 OM1 CM s1' hi2 hC2
   go_wp2_with (fail)
   generalize (((((w2).setCell ⟨q,i * 10 + 2,none⟩ (.int .i64 ((k2 : Int)))).setCell ⟨q,i * 10 + 2 + 1,none⟩ (.int .i64 ((k2 : Int) + 1))).setCell ⟨q,i * 10 + 2 + 2,none⟩ (.int .i64 ((k2 : Int) + 1 + 1))).setCell ⟨q,i * 10 + 2 + 3,none⟩ (.int .i64 ((k2 : Int) + 1 + 1 + 1))).setCell ⟨q,i * 10 + 2 + 4,none⟩ (.int .i64 ((k2 : Int) + 1 + 1 + 1 + 1)) = wE at HE5 HY5 oB ⊢
   clear c2 f2 c3 f3 c4 f4 c5 f5 c6 f6 s2'
   refine (CB.out _ _ oB.out).mono ?_
   rintro en w6 ⟨rfl,o6,y6⟩
   obtain ⟨M6,h6,u6,Z6⟩:=HE5.out.mkB UE5.out hiM (by rw [HQ2.out]; exact o6) (by rw [HQ2.out]; exact y6)
   have hi6 : i < M6.length:=by rw [u6.len]; exact hiM
   obtain ⟨_,_,_,s3⟩:=h6.sls hi6
   have n6:=h6.nd i hi6
   rw [u6.at'] at n6
   have oG : Hid (Lg.Own w6 lo (sv (sl4 (Nv.rat Ce i) 3)) x.log):=hidIt n6.g
   have H6:=hidIt h6
   have U6:=hidIt u6
   have HY6:=hidIt (mk_on HY5.out Z6 (by decide))
   have HQ3 : Hid (sl4 (Nv.rat Ce i) 3 = sl4 (Nv.rat Ce i) 3):=hidIt rfl
   generalize hc3 : sl4 (Nv.rat Ce i) 3 = gg at s3 oG HQ3
   have HC3:=hidIt hc3
   obtain ⟨g0,g1,g2⟩:=gg
   simp only [sv] at s3 oG
   clear hc3 o6 y6 h6 u6 Z6 n6 CB oB HE5 UE5 HY5 HQ2 HQ3 hi6
   go_wp2_with (fail)
   refine (CG.out _ _ oG.out).mono ?_
   rintro en w7 ⟨rfl,o7,y7⟩
   obtain ⟨M7,h7,u7,Z7⟩:=H6.out.mkG U6.out hiM (by rw [HC3.out]; exact o7) (by rw [HC3.out]; exact y7)
   have H7:=hidIt h7
   have U7:=hidIt u7
   have HY7:=hidIt (mk_on HY6.out Z7 (by decide))
   clear s3 o7 y7 h7 u7 Z7 CG oG H6 U6 HY6 HC3
   go_wp2_with (fail)
   refine (CX.out _).mono ?_
   rintro en w8 ⟨rfl,k8⟩
   have h8:=H7.out.kept k8
   have hi8 : i < M7.length:=by rw [U7.out.len]; exact hiM
   have hC8 : i < Ce.length:=by rw [h8.len]; exact hi8
   have c9:=h8.row.at hC8 (j:=9) (by omega)
   have f9:=h8.row.free (i * 10 + 9)
   obtain ⟨C9,M9,h9,u9,_⟩:=h8.fld9 U7.out hiM (Lg.mt k5)
   have ZQ9 : Nd.Mk [49] lo hi w8 (w8.setCell ⟨q,i * 10 + 9,none⟩ (.string (Lg.mt k5))):=Nd.Mk.of_row h8.row ((Only.refl q w8).setCell (i * 10 + 9) _) (Nat.le_refl _) h8.blk
   have H9:=hidIt h9
   have U9:=hidIt u9
   have HY9:=hidIt (mk_on (mk_on HY7.out (Nd.Mk.of_below k8) (by decide)) ZQ9 (by decide))
   simp only [Nv.rcell] at c9
   clear h8 hi8 hC8 h9 u9 ZQ9 k8 H7 U7 HY7 CX
   go_wp2_with (fail)
   refine ⟨⟨i + 1,C9,M9,by simp,?_,by omega,by rw [U9.out.len]; exact HM.out,hidIt (fun j hj=>?_),hidIt (fun j hj=>?_),H9,HY9⟩,by simp [intOf]; omega⟩
   ·
    have z:=HKK.out
    rw [HCT.out,z]
    rfl
   ·
    by_cases hj2 : j = i
    ·
     subst hj2
     rw [U9.out.at',HRi.out]
     rfl
    ·
     rw [U9.out.oth j hj2]
     exact HD.out j (by omega)
   ·
    rw [U9.out.oth j (by omega)]
    exact HU.out j (by omega)
  ·
   have hin' : ¬ (i : Int) < (m : Int):=by omega
   obtain rfl : i = m:=by omega
   have eM : M = markR k L:=ext_nod (by rw [HM.out,HML.out]) (fun j hj=>HD.out j (by rw [HM.out] at hj; omega))
   subst eM
   rw [HE.out]
   go_wp2_with (fail)
   go_ret
   exact MkP.of rfl ⟨C,HOx.out⟩ HY.out
end Go.Proofs.YtgbnkkjjgodilaaGreatDoor.Ns
namespace Go.Proofs.YtgbnkkjjgodilaaGreatDoor.Kc
open Go.ChangeShapes Go.WideShapes Go.ChangeAt Go.RowKit
open Vv (Sl sv hidIt)
open Nd (Nw on)
open Rp (OnlyIn own_apart row_in row_other)
theorem own_ints {w w' : World} {lo hi b n : Nat} {v u : Value} {L : List Nw} {xs : List Value} (h : Ns.Own w lo hi v L) (o : w.ownsRow b 2 1 u n xs) (Y : Only (u.ownBlock.getD w.heap.size) w w') : Ns.Own w' lo hi v L:=by
 obtain ⟨C,h⟩:=h
 exact ⟨C,h.len,row_other h.row o Y (own_apart h.row o (by decide)),h.blk,h.fl,fun i hi=>⟨row_other (h.nd i hi).e o Y (own_apart (h.nd i hi).e o (by decide)),row_other (h.nd i hi).m o Y (own_apart (h.nd i hi).m o (by decide)),row_other (h.nd i hi).b o Y (own_apart (h.nd i hi).b o (by decide)),row_other (h.nd i hi).g o Y (own_apart (h.nd i hi).g o (by decide))⟩,h.bd,h.dj,Nat.le_trans h.hi' Y.size,h.lo'⟩
def costK (c : Cw) : Nat:=Ns.cost c.nodes + c.clock.length
def markK (k : Nat) (c : Cw) : Cw:=⟨c.now,Ns.markR k c.nodes,Iv.markI (k + Ns.cost c.nodes) c.clock.length⟩
def MkP (lo hi : Nat) (c : Cw) (n k : Sl) (q : Nat) (w : World) (e : Ending) (w' : World) : Prop:=e = .returned (.int .i64 ((q + costK c : Nat) : Int)) ∧ OwnK w' lo hi (markK q c) n k ∧ OnlyIn lo hi w w'
theorem MkP.of {lo hi : Nat} {c : Cw} {n k : Sl} {q : Nat} {w w' : World} {e : Ending} (h : e = .returned (.int .i64 ((q + costK c : Nat) : Int))) (h1 : OwnK w' lo hi (markK q c) n k) (h2 : OnlyIn lo hi w w') : MkP lo hi c n k q w e w':=⟨h,h1,h2⟩
theorem MkP.out {lo hi : Nat} {c : Cw} {n k : Sl} {q : Nat} {w w' : World} {e : Ending} (h : MkP lo hi c n k q w e w') : e = .returned (.int .i64 ((q + costK c : Nat) : Int)) ∧ OwnK w' lo hi (markK q c) n k ∧ OnlyIn lo hi w w':=h
theorem mark_any (lo hi : Nat) (c : Cw) (n k : Sl) (q : Nat) (w : World) (h : OwnK w lo hi c n k) (h1 : 1 ≤ q) (h2 : q + costK c ≤ 1099511627776) (hl : c.nodes.length ≤ 1048576) :
  Calls Tryz.prog 12 #[kv c n k,.int .i64 q] w fun e w'=>MkP lo hi c n k q w e w':=by
 have MK:=hidIt (fun (e : Ending) w'=>MkP.of (lo:=lo) (hi:=hi) (c:=c) (n:=n) (k:=k) (q:=q) (w:=w) (w':=w') (e:=e))
 obtain ⟨no,ns,ck⟩:=c
 obtain ⟨n0,n1,n2⟩:=n
 obtain ⟨k0,k1,k2⟩:=k
 unfold costK at h2 MK
 unfold markK at MK
 simp only at h2 hl MK
 have kA:=(Below.refl w.heap.size w).alloc (Nat.le_refl _) (.cells #[.int .i64 no,.slice n0 n1 n2,.slice k0 k1 k2] 30)
 have h':=h.kept kA
 have CN:=hidIt ((Ns.markS_any lo hi (sv (n0,n1,n2)) ns q _ h'.on h1 (by omega) hl).mono (fun e w' hz=>hz.out))
 have CK:=hidIt (fun W (o : Iv.Own W lo (sv (k0,k1,k2)) ck)=>Iv.markInt64S_any lo (sv (k0,k1,k2)) ck (q + Ns.cost ns) W o (by omega) (by omega))
 have BX:=hidIt (Bo.Box.new w #[.int .i64 no,.slice n0 n1 n2,.slice k0 k1 k2] 30)
 have hhi:=hidIt h.on.lo_le
 have OK0:=hidIt h'.ok
 have HKB:=hidIt h.b
 have HA:=hidIt kA
 have d1:=BX.out.c 1 (v:=.slice n0 n1 n2) rfl
 clear kA h' h
 have hE : q + (Ns.cost ns + ck.length) = q + Ns.cost ns + ck.length:=by omega
 rw [hE] at MK
 generalize hq2 : q + Ns.cost ns + ck.length = q2 at *
 generalize q + Ns.cost ns = q1 at *
 clear hE hq2 h2
 simp only [kv,kc,sv] at CN CK ⊢
 go_enter Tryz.func12,Tryz.ntmps12
 go_wp2_with (fail)
 generalize hW : w.alloc (.cells #[.int .i64 no,.slice n0 n1 n2,.slice k0 k1 k2] 30) = W0 at CN BX OK0 HA ⊢
 refine CN.out.mono ?_
 rintro en w1 ⟨rfl,oN,mK⟩
 have hl2:=hhi.out.2
 have BX1:=hidIt (mK.box BX.out (by omega))
 have OK1 : Hid (Iv.Own w1 lo (.slice k0 k1 k2) ck):=hidIt (mK.stay lo 2 1 ck.length (.slice k0 k1 k2) (Iv.icells ck) OK0.out (by decide))
 have ON1:=hidIt oN
 have Y1:=hidIt ((OnlyIn.of_below (lo:=lo) (hi:=hi) HA.out).trans mK.only)
 have d2:=BX1.out.c 2 (v:=.slice k0 k1 k2) rfl
 clear oN mK d1 OK0 CN HA hW
 go_wp2_with (fail)
 refine (CK.out _ OK1.out).mono ?_
 rintro en w2 ⟨rfl,oK,yK⟩
 have ON2:=hidIt (own_ints ON1.out OK1.out yK)
 have Y2:=hidIt (Y1.out.trans (Nd.Mk.of_row OK1.out yK (Nat.le_refl _) HKB.out).only)
 have OK2:=hidIt oK
 clear oK yK d2
 go_wp2_with (fail)
 go_ret
 exact MK.out _ _ rfl ⟨ON2.out,OK2.out,HKB.out⟩ Y2.out
theorem held_any (c : Cw) (n k : Sl) (q : Nat) (w : World) (h : RdK w (markK q c) n k) (h1 : 1 ≤ q) (h2 : q + costK c ≤ 1099511627776) (hl : c.nodes.length ≤ 1048576) :
  Calls Tryz.prog 13 #[kv (markK q c) n k,.int .i64 q] w fun e w'=>e = .returned (.int .i64 ((q + costK c : Nat) : Int)) ∧ Below w.heap.size w w':=by
 obtain ⟨no,ns,ck⟩:=c
 obtain ⟨n0,n1,n2⟩:=n
 obtain ⟨k0,k1,k2⟩:=k
 obtain ⟨z1,rN,cN,z2,rK,cK⟩:=h
 unfold costK at h2 ⊢
 unfold markK at z1 rN z2 rK ⊢
 simp only [Ns.markR_length,Iv.markI_length] at z1 rN z2 rK h2 hl ⊢
 have CN:=hidIt (fun W (r : Ns.Rd W n0 (Ns.markR q ns))=>Ns.heldS_any n0 n2 ns q W r h1 (by omega) hl)
 have CK:=hidIt (fun W (r : Iv.Rd W k0 (Iv.markI (q + Ns.cost ns) ck.length))=>Iv.heldInt64S_any k0 k2 ck.length (q + Ns.cost ns) W r (by omega) (by omega))
 have RN:=hidIt rN
 have RK:=hidIt rK
 subst z1 z2
 have hE : q + (Ns.cost ns + ck.length) = q + Ns.cost ns + ck.length:=by omega
 rw [hE]
 clear rN rK cN cK hE
 have p1 : ¬ ((q + Ns.cost ns : Nat) : Int) < 0:=by omega
 have p2 : ¬ ((q + Ns.cost ns + ck.length : Nat) : Int) < 0:=by omega
 generalize q + Ns.cost ns + ck.length = q2 at *
 generalize q + Ns.cost ns = q1 at *
 generalize ns.length = m1 at *
 generalize ck.length = m2 at *
 have BX:=hidIt (Bo.Box.new w #[.int .i64 no,.slice n0 m1 n2,.slice k0 m2 k2] 30)
 have HB:=hidIt ((Below.refl w.heap.size w).alloc (Nat.le_refl _) (.cells #[.int .i64 no,.slice n0 m1 n2,.slice k0 m2 k2] 30))
 have d1:=BX.out.c 1 (v:=.slice n0 m1 n2) rfl
 simp only [kv,kc,sv]
 go_enter Tryz.func13,Tryz.ntmps13
 go_wp2_with (fail)
 refine (CN.out _ (RN.out.kept HB.out)).mono ?_
 rintro en w1 ⟨rfl,ka⟩
 have HB1:=hidIt (on HB.out ka)
 have BX1:=hidIt (BX.out.kept ka)
 have d2:=BX1.out.c 2 (v:=.slice k0 m2 k2) rfl
 clear ka d1 HB BX CN
 go_wp2_with (fail)
 refine (CK.out _ (RK.out.kept HB1.out)).mono ?_
 rintro en w2 ⟨rfl,ka⟩
 have HB2:=hidIt (on HB1.out ka)
 clear ka d2
 go_wp2_with (fail)
 go_ret
 exact ⟨rfl,HB2.out⟩
end Go.Proofs.YtgbnkkjjgodilaaGreatDoor.Kc
namespace Go.Proofs.YtgbnkkjjgodilaaGreatDoor.Ns
open Go.ChangeShapes Go.WideShapes Go.ChangeAt Go.RowKit
open Vv (Sl sv hidIt)
open Nd (Nw RdN OwnN ShortN SmallN)
structure In (w : World) (a : Option Addr) (cap : Nat) (L : List Nw) : Prop where
 rd : Rd w a L
 na : a = none → cap = 0
 le : L.length ≤ cap
 cap : cap ≤ 9223372036854775807
 short : ∀ i,i < L.length → ShortN (nod L i)
theorem nod_map (m : Nat) (f : Nat → Nw) (i : Nat) (hi : i < m) : nod ((List.range m).map f) i = f i:=by
 unfold nod
 rw [List.getD_eq_getElem?_getD,List.getElem?_map,List.getElem?_range hi]
 rfl
theorem agg_ten {a0 a1 a2 a3 a4 a5 a6 a7 a8 a9 b0 b1 b2 b3 b4 b5 b6 b7 b8 b9 : Value} (h : (.agg #[a0,a1,a2,a3,a4,a5,a6,a7,a8,a9] : Value) = .agg #[b0,b1,b2,b3,b4,b5,b6,b7,b8,b9]) : a0 = b0 ∧ a1 = b1 ∧ a2 = b2 ∧ a3 = b3 ∧ a4 = b4 ∧ a5 = b5 ∧ a6 = b6 ∧ a7 = b7 ∧ a8 = b8 ∧ a9 = b9:=by
 simpa using h
theorem open_nodes_in {H : Type} {enc : TypeId × Value → H} {w : World} {base : Nat} {spare : Nat → Bool} {held : Bool} {v : Value} {fuel : Nat} {z : DataW H × List MemPlace}
  (hf : DataW.trod enc Tryz.prog w base spare held fuel 22 [v] = some z) : ∃ (a : Option Addr) (cap : Nat) (L : List Nw),v = .slice a L.length cap ∧ In w a cap L:=by
 rcases Go.Deep.open_slice Tryz.underlying22 hf with ⟨hcs,_⟩ | ⟨x,len,cap,m,n,D,Pl,hcs,_,hl,hc,hm,_,hx⟩
 ·
  simp at hcs
  subst hcs
  exact ⟨none,0,[],rfl,Rd.nil _ _,fun _=>rfl,Nat.zero_le _,by decide,fun i hi=>by simp at hi⟩
 ·
  simp at hcs
  subst hcs
  have hlm : len ≤ m:=by rw [hm]; split <;> omega
  have each : ∀ i,i < len → ∃ y : Nv.Rw × Nw,(∀ j,j < 10 → w.cell? (x.add (i * 10 + j)) = some (Nv.rcell y.1 j)) ∧ y.1 = nrw y.2 (sl4 y.1 0) (sl4 y.1 1) (sl4 y.1 2) (sl4 y.1 3) ∧ RdN w y.2 (sl4 y.1 0) (sl4 y.1 1) (sl4 y.1 2) (sl4 y.1 3) ∧ ShortN y.2:=by
   intro i hi
   obtain ⟨cs',h1,h2⟩:=hx i (by omega)
   rw [Nd.cellsN] at h1
   obtain ⟨_,hlen,hcell⟩:=World.cells?_some h1
   match cs',hlen with
   | [v0,v1,v2,v3,v4,v5,v6,v7,v8,v9],_ =>
    obtain ⟨y,e,m',b,g,ee,I⟩:=Nd.open_node_in h2
    obtain ⟨rfl,rfl,rfl,rfl,rfl,rfl,rfl,rfl,rfl,rfl⟩:=agg_ten ee
    refine ⟨(nrw y e m' b g,y),fun j hj=>?_,rfl,I.rd,I.short⟩
    have e:=hcell j hj
    rw [Go.Deep.add_add] at e
    rw [e]
    match j,hj with
    | 0,_=>rfl
    | 1,_=>rfl
    | 2,_=>rfl
    | 3,_=>rfl
    | 4,_=>rfl
    | 5,_=>rfl
    | 6,_=>rfl
    | 7,_=>rfl
    | 8,_=>rfl
    | 9,_=>rfl
  haveI : Inhabited (Nv.Rw × Nw):=⟨(Nv.rat [] 0,zN)⟩
  obtain ⟨f,hf'⟩:=Go.Deep.choose_lt each
  refine ⟨some x,cap,(List.range len).map (fun i=>(f i).2),by simp,⟨(List.range len).map (fun i=>(f i).1),by simp,⟨fun i hi=>?_⟩,fun i hi=>?_,fun i hi=>?_⟩,(fun e=>by cases e),by simpa using hl,hc,fun i hi=>?_⟩
  ·
   have hi' : i < len:=by simpa using hi
   have z0:=(hf' 0 (by omega)).1 0 (by omega)
   obtain ⟨b,off,spot⟩:=x
   have hspot : spot = none:=by simpa [Addr.add] using World.cell?_spot z0
   subst hspot
   refine ⟨b,off,rfl,fun j hj=>?_⟩
   have d0:=(hf' i hi').1 j hj
   rw [Go.WideShapes.add_plain] at d0
   rw [Nv.rat_map _ _ _ hi']
   first
    | exact d0
    | (rw [← Nat.add_assoc] at d0; exact d0)
  ·
   have hi' : i < len:=by simpa using hi
   rw [Nv.rat_map _ _ _ hi',nod_map _ _ _ hi']
   exact (hf' i hi').2.1
  ·
   have hi' : i < len:=by simpa using hi
   rw [Nv.rat_map _ _ _ hi',nod_map _ _ _ hi']
   exact (hf' i hi').2.2.1
  ·
   have hi' : i < len:=by simpa using hi
   rw [nod_map _ _ _ hi']
   exact (hf' i hi').2.2.2
end Go.Proofs.YtgbnkkjjgodilaaGreatDoor.Ns
