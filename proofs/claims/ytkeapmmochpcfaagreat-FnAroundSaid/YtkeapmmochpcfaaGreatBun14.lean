/- Goroutines: QInw. -/
import Derived.Test.YtkeapmmochpcfaaGreatBun13
set_option maxRecDepth 100000
set_option maxHeartbeats 32000000
set_option linter.unusedVariables false
namespace Go.Proofs.YtkeapmmochpcfaaGreat.Wt
open Go Go.Conc
open Nf (Says More Adding Outs Again Sema Swap Looks InB Ph Adds)
open Go.ConcN (WD cnt Vc Ssum Fsum sumTo upd upd_ne upd_same sumTo_upd WgLive Has RelBy WSit RW DWs Vc_upd deafBehind_idle)
open Go.ConcR (KK WgAt stA smA rd wr mk Payload DC0 g_of_ofEvents Bk bk_of_mute ofEvent_loc_mark)
set_option linter.unusedSectionVars false
variable [Payload]
def Less2 (a b : Nat × Nat) : Prop:=a.1 < b.1 ∨ (a.1 = b.1 ∧ a.2 < b.2)
section
variable (P : Program) (ty : TypeId) (Wg Ch cap n : Nat) (v x : Nat → Value) (Shun : Loc → Prop) (la : Nat → Prop) (T0 N0 : Nat) (w0 : World) (B0 : Nat) (Hd Nx : List Nat → Goroutine → World → Prop)
def Inv (μ : Nat × Nat) (m : Machine) (t : Trace) : Prop :=
 ∃ (gs : Array Goroutine) (w : World) (sl : Option (Nat × Nat)) (j : Nat) (D : Nat → WD) (bx : Nat → Option Nat) (os : List Nat) (tg : Tg) (f0 d0 : Nat) (q : Nat → Nat) (l : List Nat) (a : Goroutine) (st sm : Int),
  m = crowd gs w sl ∧ gs[0]? = some a ∧ Csit P ty Wg Ch n v x la Hd Nx tg j f0 d0 os a w ∧ Cm P ty Wg Ch cap v x Shun la T0 N0 w0 B0 j gs w t D bx os d0 q l ∧ WgAt ty Wg w st sm ∧ Md j D tg st sm ∧
  μ = (rnk n (Vc j D) tg + Ssum j D,f0 + 2 * Fsum j D + 2 * sumTo N0 q)
end
section
variable {P : Program} {ty : TypeId} {Wg Ch cap n : Nat} {v x : Nat → Value} {Shun : Loc → Prop} {la : Nat → Prop} {T0 N0 : Nat} {w0 : World} {B0 : Nat} {Hd Nx : List Nat → Goroutine → World → Prop}
  {gs : Array Goroutine} {w w' : World} {sl : Option (Nat × Nat)} {j : Nat} {D : Nat → WD} {bx bx' : Nat → Option Nat} {os : List Nat} {tg : Tg} {f0 d0 : Nat} {q : Nat → Nat} {l : List Nat} {a : Goroutine} {st sm : Int} {t : Trace}
theorem less_worker {f' : Nat} {tg' : Tg} {i : Nat} (hi : i < j) {y : WD} (hf : f' ≤ f0 + 1) (ht : tg' = tg ∨ (tg = .bk ∧ tg' = .sm)) (hlt : y.stage < (D i).stage ∨ (y.stage = (D i).stage ∧ y.fuel + 1 = (D i).fuel)) :
  Less2 (rnk n (Vc j (upd D i y)) tg' + Ssum j (upd D i y),f' + 2 * Fsum j (upd D i y) + 2 * sumTo N0 q) (rnk n (Vc j D) tg + Ssum j D,f0 + 2 * Fsum j D + 2 * sumTo N0 q):=by
 have e1:=sumTo_upd D y cnt hi
 have e2:=sumTo_upd D y WD.stage hi
 have e3:=sumTo_upd D y WD.fuel hi
 rw [rnk_retag n _ ht]
 simp only [Vc,Ssum,Fsum,Less2] at *
 rcases hlt with h1 | ⟨h1,h2⟩
 ·
  have hc : cnt y ≤ cnt (D i):=by simp only [cnt]; split <;> split <;> omega
  have:=rnk_mono n (v':=sumTo j fun a=>cnt (upd D i y a)) (v:=sumTo j fun a=>cnt (D a)) (by omega) tg
  omega
 ·
  have ec : cnt y = cnt (D i):=by simp only [cnt,h1]
  have ev : (sumTo j fun a=>cnt (upd D i y a)) = sumTo j fun a=>cnt (D a):=by omega
  rw [ev]
  omega
theorem inv_worker (hHd : ∀ os g w,Hd os g w → g.status = .running) (ha : gs[0]? = some a) (hcs : Csit P ty Wg Ch n v x la Hd Nx tg j f0 d0 os a w) (hcm : Cm P ty Wg Ch cap v x Shun la T0 N0 w0 B0 j gs w t D bx os d0 q l)
  {i : Nat} (hi : i < j) {g g' : Goroutine} {es : Array Event} {y : WD} {st' sm' : Int} (hg : gs[N0 + i]? = some g) (hgo : stepG P false g w = .go g' w' es) (hrs : RS ty Wg la os w w')
  (hsit : Wsit P ty Wg Ch (v i) (x i) y.stage y.fuel y.deaf (bx' (N0 + i)) g' w') (hleft : ∀ i',i' < j → i' ≠ i → Left ty Wg (bx (N0 + i')) w w') (hbx : ∀ k,k ≠ N0 + i → bx' k = bx k)
  (hph : Ph Shun T0 Wg N0 j bx' w'.heap.size (t ++ MemOp.ofEvents (N0 + i) g.frame.fn g.frame.place es)) (hdeaf : deafBehind (D i).deaf es = y.deaf)
  (hrel : y.stage ≤ 6 → ∃ r,RelBy (stA Wg) (t ++ MemOp.ofEvents (N0 + i) g.frame.fn g.frame.place es) (N0 + i) r ∧ T0 ≤ r) (hch : w'.heap[Ch]? = w.heap[Ch]?) (hst : y.stage ≤ 7 ↔ (D i).stage ≤ 7) (hlie : Lie Wg Ch la w0 B0 bx' os w')
  (hwg : WgAt ty Wg w' st' sm') (hmd : ∀ tg',(tg' = tg ∨ (tg = .bk ∧ tg' = .sm)) → (mayWake P g = true → g'.status = .running → tg' ≠ .bk) → Md j (upd D i y) tg' st' sm')
  (hlt : y.stage < (D i).stage ∨ (y.stage = (D i).stage ∧ y.fuel + 1 = (D i).fuel)) :
  ∃ m₁ ops μ',runT P (crowd gs w sl) (N0 + i) = (.next m₁,ops) ∧ Less2 μ' (rnk n (Vc j D) tg + Ssum j D,f0 + 2 * Fsum j D + 2 * sumTo N0 q) ∧ Inv P ty Wg Ch cap n v x Shun la T0 N0 w0 B0 Hd Nx μ' m₁ (t ++ ops):=by
 have hpos:=hcm.ph.pos
 obtain ⟨tg',f',hcs',hf',ht,hw⟩:=hcs.stirred hHd hrs g g'
 have hi0 : (N0 + i == 0) = false:=by simp; omega
 refine ⟨_,_,_,runT_crowd_go (P:=P) (sl:=sl) (i:=N0 + i) hg (by rw [hi0]; exact hgo),less_worker (f':=f') (tg':=tg') (y:=y) hi hf' ht hlt,
  _,w',sl,j,upd D i y,bx',os,tg',f',d0,q,l,woken P g g' w' a,st',sm',rfl,by rw [Go.ConcN.get_map_set _ _ _ _ (by omega),ha]; rfl,hcs',hcm.stepW hi hsit hleft hbx hph hdeaf hrel hch hst hlie,hwg,hmd tg' ht hw,rfl⟩
theorem ofEvents_nil (g : Nat) (fn : FuncId) (pos : String) : MemOp.ofEvents g fn pos #[] = #[]:=rfl
theorem inv_leaver (hHd : ∀ os g w,Hd os g w → g.status = .running) (ha : gs[0]? = some a) (hcs : Csit P ty Wg Ch n v x la Hd Nx tg j f0 d0 os a w) (hcm : Cm P ty Wg Ch cap v x Shun la T0 N0 w0 B0 j gs w t D bx os d0 q l)
  (hwg : WgAt ty Wg w st sm) (hmd : Md j D tg st sm) {k : Nat} (h0 : 0 < k) (hk : k < N0) {g : Goroutine} (hg : gs[k]? = some g) (hrun : g.status = .running) :
  ∃ m₁ ops μ',runT P (crowd gs w sl) k = (.next m₁,ops) ∧ Less2 μ' (rnk n (Vc j D) tg + Ssum j D,f0 + 2 * Fsum j D + 2 * sumTo N0 q) ∧ Inv P ty Wg Ch cap n v x Shun la T0 N0 w0 B0 Hd Nx μ' m₁ (t ++ ops):=by
 have hq:=hcm.old k g h0 hk hg
 cases hqk : q k with
 | zero=>rw [hqk] at hq; rw [hq.1] at hrun; cases hrun
 | succ c =>
  rw [hqk] at hq
  rcases hq with ⟨hf,_⟩ | ⟨_,g',es,hm,hst,hq'⟩
  ·
   rw [hf] at hrun; cases hrun
  ·
   obtain ⟨tg',f',hcs',hf',ht,hw⟩:=hcs.stirred hHd (RS.refl w) g g'
   have hk0 : (k == 0) = false:=by simp; omega
   have e3 : sumTo N0 (upd q k c) + (c + 1) = sumTo N0 q + c:=by
    have:=sumTo_upd q c id hk
    simpa [hqk] using this
   refine ⟨_,_,(rnk n (Vc j D) tg' + Ssum j D,f' + 2 * Fsum j D + 2 * sumTo N0 (upd q k c)),runT_crowd_go (P:=P) (sl:=sl) (i:=k) hg (by rw [hk0]; exact hst w),?_,
    _,w,sl,j,D,bx,os,tg',f',d0,upd q k c,l,woken P g g' w a,st,sm,rfl,by rw [Go.ConcN.get_map_set _ _ _ _ (by omega),ha]; rfl,hcs',hcm.stepL h0 hk hm hq',hwg,hmd.retag ht,rfl⟩
   rw [rnk_retag n _ ht]
   refine .inr ⟨rfl,?_⟩
   show f' + 2 * Fsum j D + 2 * sumTo N0 (upd q k c) < f0 + 2 * Fsum j D + 2 * sumTo N0 q
   omega
end
end Go.Proofs.YtkeapmmochpcfaaGreat.Wt
namespace Go.Proofs.YtkeapmmochpcfaaGreat.Wt
open Go Go.Conc
open Nf (Says More Adding Outs Again Sema Swap Looks InB Ph Adds)
open Go.ConcN (WD cnt Vc Ssum Fsum sumTo upd upd_ne upd_same sumTo_upd WgLive Has RelBy WSit RW DWs EvW AsideCell deafBehind_idle bk_cell)
open Go.ConcR (KK WgAt stA smA rd wr mk Payload DC0 g_of_ofEvents Bk bk_of_mute ofEvent_loc_mark ofEvent_cell)
set_option linter.unusedSectionVars false
variable [Payload]
section
variable {P : Program} {ty : TypeId} {Wg Ch cap n : Nat} {v x : Nat → Value} {Shun : Loc → Prop} {la : Nat → Prop} {T0 N0 : Nat} {w0 : World} {B0 : Nat} {Hd Nx : List Nat → Goroutine → World → Prop}
  {gs : Array Goroutine} {w w' : World} {sl : Option (Nat × Nat)} {j : Nat} {D : Nat → WD} {bx bx' : Nat → Option Nat} {os : List Nat} {tg : Tg} {f0 d0 : Nat} {q : Nat → Nat} {l : List Nat} {a : Goroutine} {st sm : Int} {t : Trace}
theorem Lie.turn {c : Nat} (h : Lie Wg Ch la w0 B0 bx os w) (ha : Aside c w w') (hc : c = Wg ∨ B0 ≤ c) : Lie Wg Ch la w0 B0 bx os w' :=
 ⟨h.box,h.wg,h.ch,fun b hb=>by rw [ha.size]; exact h.list b hb,fun b hb=>by rw [ha.size]; exact h.own b hb,by rw [ha.size]; exact h.chl,fun b hb h1 h2=>(ha.block b (by omega)).trans (h.base b hb h1 h2),by rw [ha.size]; exact h.size,by rw [ha.os,ha.output]; exact h.sys⟩
theorem Lie.laid (h : Lie Wg Ch la w0 B0 bx os w) (hW : Wg < w.heap.size) (o : Obj) (k : Nat) : Lie Wg Ch la w0 B0 (fun i=>if i = k then some w.heap.size else bx i) os (lay w o):=by
 have hs : (lay w o).heap.size = w.heap.size + 1:=by simp [lay]
 have hk : ∀ b,b < w.heap.size → (lay w o).heap[b]? = w.heap[b]?:=fun b hb=>by show (w.heap.push o)[b]? = _; rw [Array.getElem?_push,if_neg (Nat.ne_of_lt hb)]
 have:=h.size
 refine ⟨fun i b hb=>?_,h.wg,h.ch,fun b hb=>by have:=h.list b hb; omega,fun b hb=>by have:=h.own b hb; omega,by have:=h.chl; omega,fun b hb h1 h2=>(hk b (by omega)).trans (h.base b hb h1 h2),by omega,h.sys⟩
 by_cases e : i = k
 ·
  simp only [e,if_true,Option.some.injEq] at hb
  subst hb
  exact ⟨by have:=h.chl; omega,fun hl=>by have:=h.list _ hl; omega,fun ho=>by have:=h.own _ ho; omega,h.size⟩
 ·
  simp only [e,if_false] at hb
  exact h.box i b hb
theorem lay_old (o : Obj) {b : Nat} (hb : b < w.heap.size) : (lay w o).heap[b]? = w.heap[b]?:=by show (w.heap.push o)[b]? = _; rw [Array.getElem?_push,if_neg (Nat.ne_of_lt hb)]
theorem adds_bk {B g : Nat} {fn : FuncId} {pos : String} {es : Array Event} (hW : Wg < B) (h : ∀ e ∈ es,Bk Wg e) : ∀ op ∈ MemOp.ofEvents g fn pos es,Adds Shun Wg bx B g op:=by
 intro op hop
 obtain ⟨e,he,rfl⟩:=Go.Conc.mem_ofEvents hop
 rcases h e he with h1 | h1 | ⟨ad,wr,rfl,hb⟩
 ·
  exact ⟨rfl,fun y hy=>by simp [ofEvent_loc_mark h1,MemAct.touch?] at hy,by simp [ofEvent_loc_mark h1],fun y hy=>by simp [ofEvent_loc_mark h1,MemAct.touch?] at hy⟩
 ·
  exact ⟨rfl,fun y hy=>by simp [ofEvent_loc_mark h1,MemAct.touch?] at hy,by simp [ofEvent_loc_mark h1],fun y hy=>by simp [ofEvent_loc_mark h1,MemAct.touch?] at hy⟩
 ·
  refine ⟨rfl,fun y hy=>?_,by simp [ofEvent_cell],fun y hy=>?_⟩
  ·
   simp only [ofEvent_cell,MemAct.touch?,Option.some.injEq] at hy
   subst hy
   show ad.block < B
   omega
  ·
   simp only [ofEvent_cell,MemAct.touch?,Option.some.injEq] at hy
   subst hy
   exact .inl ⟨⟨ad,rfl,hb⟩,by simp,by simp⟩
theorem step_worker (hHd : ∀ os g w,Hd os g w → g.status = .running) (hn : n ≤ 2147483647) (hcap : n ≤ cap) (ha : gs[0]? = some a) (hcs : Csit P ty Wg Ch n v x la Hd Nx tg j f0 d0 os a w) (hcm : Cm P ty Wg Ch cap v x Shun la T0 N0 w0 B0 j gs w t D bx os d0 q l)
  (hwg : WgAt ty Wg w st sm) (hmd : Md j D tg st sm) {i : Nat} (hi : i < j) {g : Goroutine} (hg : gs[N0 + i]? = some g) (hrun : g.status = .running) (h7 : (D i).stage ≠ 8) :
  ∃ m₁ ops μ',runT P (crowd gs w sl) (N0 + i) = (.next m₁,ops) ∧ Less2 μ' (rnk n (Vc j D) tg + Ssum j D,f0 + 2 * Fsum j D + 2 * sumTo N0 q) ∧ Inv P ty Wg Ch cap n v x Shun la T0 N0 w0 B0 Hd Nx μ' m₁ (t ++ ops):=by
 obtain ⟨g₁,hg₁,hs⟩:=hcm.wk i hi
 obtain rfl : g = g₁:=by rw [hg] at hg₁; exact Option.some.inj hg₁
 have hpos:=hcm.ph.pos
 have hlow:=hcm.ph.low
 have hbound:=hcs.bound
 generalize hst : (D i).stage = s at hs
 generalize hfu : (D i).fuel = m at hs
 generalize hde : (D i).deaf = dd at hs
 generalize hbx : bx (N0 + i) = bi at hs
 have hdk : Deaf t (N0 + i) = dd:=by rw [hcm.deafW i hi,hde]
 have wki : N0 ≤ N0 + i ∧ N0 + i < N0 + j:=by omega
 -- the library's bookkeeping: at most the group's block turns
 have bookG : ∀ {g' : Goroutine} {w' : World} {es : Array Event} {s' m' dd' : Nat} {st' sm' : Int},stepG P false g w = .go g' w' es → Aside Wg w w' → WgAt ty Wg w' st' sm' → (∀ e ∈ es,Bk Wg e) →
   (∀ jx e,es[jx]? = some e → (MemAct.ofEvent e).touch? = none ∨ 0 < deafBehind dd (es.extract 0 jx)) → Wsit P ty Wg Ch (v i) (x i) s' m' dd' bi g' w' → deafBehind dd es = dd' → s ≤ 6 → s' ≤ 6 →
   (∀ tg',(tg' = tg ∨ (tg = .bk ∧ tg' = .sm)) → (mayWake P g = true → g'.status = .running → tg' ≠ .bk) → Md j (upd D i ⟨s',m',dd'⟩) tg' st' sm') → (s' < s ∨ (s' = s ∧ m' + 1 = m)) →
   ∃ m₁ ops μ',runT P (crowd gs w sl) (N0 + i) = (.next m₁,ops) ∧ Less2 μ' (rnk n (Vc j D) tg + Ssum j D,f0 + 2 * Fsum j D + 2 * sumTo N0 q) ∧ Inv P ty Wg Ch cap n v x Shun la T0 N0 w0 B0 Hd Nx μ' m₁ (t ++ ops):=by
  intro g' w' es s' m' dd' st' sm' hgo hAs hwg' hbk hd hs' hdd h6 h6' hmode' hlt
  have live : WgLive ty Wg w → WgLive ty Wg w':=fun _=>⟨_,_,hwg'⟩
  refine inv_worker hHd ha hcs hcm hi hg hgo ⟨fun b hb=>hAs.block b (fun e=>hcm.lie.wg.2.1 (e ▸ hb)),fun b hb=>hAs.block b (fun e=>hcm.lie.wg.2.2 (e ▸ hb)),live⟩ (y:=⟨s',m',dd'⟩) (bx':=bx) (by rw [hbx]; exact hs')
   (fun i' _ _=>⟨live,fun b hb=>hAs.block b (hcm.ph.boxes _ _ hb).2.1⟩) (fun _ _=>rfl) (by rw [hAs.size]; exact hcm.ph.app (.inr (.inl wki)) (adds_bk hlow hbk)) (by rw [hde]; exact hdd)
   (fun _=>let ⟨r,hr,hT⟩:=hcm.rel i hi (by omega); ⟨r,hr.book hdk _ _ hbk hd,hT⟩) (hAs.block Ch (Ne.symm hcm.lie.wg.1)) (by rw [hst]; dsimp only; omega) (hcm.lie.turn hAs (.inl rfl)) hwg' hmode' (by rw [hst,hfu]; exact hlt)
 have book : ∀ {g' : Goroutine} {w' : World} {es : Array Event} {s' m' dd' : Nat} {st' sm' : Int},stepG P false g w = .go g' w' es → Aside Wg w w' → WgAt ty Wg w' st' sm' → (∀ e ∈ es,Bk Wg e) →
   (∀ jx e,es[jx]? = some e → (MemAct.ofEvent e).touch? = none ∨ 0 < deafBehind dd (es.extract 0 jx)) → Wsit P ty Wg Ch (v i) (x i) s' m' dd' bi g' w' → deafBehind dd es = dd' → s ≤ 6 → s' ≤ 6 →
   Md j (upd D i ⟨s',m',dd'⟩) tg st' sm' → (s' < s ∨ (s' = s ∧ m' + 1 = m)) →
   ∃ m₁ ops μ',runT P (crowd gs w sl) (N0 + i) = (.next m₁,ops) ∧ Less2 μ' (rnk n (Vc j D) tg + Ssum j D,f0 + 2 * Fsum j D + 2 * sumTo N0 q) ∧ Inv P ty Wg Ch cap n v x Shun la T0 N0 w0 B0 Hd Nx μ' m₁ (t ++ ops) :=
  fun hgo hAs hwg' hbk hd hs' hdd h6 h6' hmode' hlt=>bookG hgo hAs hwg' hbk hd hs' hdd h6 h6' (fun _ ht _=>hmode'.retag ht) hlt
 -- nothing turns,nothing is listed
 have idle : ∀ {g' : Goroutine} {m' : Nat},stepG P false g w = .go g' w #[] → Wsit P ty Wg Ch (v i) (x i) s m' dd bi g' w → m' + 1 = m →
   ∃ m₁ ops μ',runT P (crowd gs w sl) (N0 + i) = (.next m₁,ops) ∧ Less2 μ' (rnk n (Vc j D) tg + Ssum j D,f0 + 2 * Fsum j D + 2 * sumTo N0 q) ∧ Inv P ty Wg Ch cap n v x Shun la T0 N0 w0 B0 Hd Nx μ' m₁ (t ++ ops):=by
  intro g' m' hgo hs' hm
  exact inv_worker hHd ha hcs hcm hi hg hgo (RS.refl w) (y:=⟨s,m',dd⟩) (bx':=bx) (by rw [hbx]; exact hs') (fun _ _ _=>Left.refl w) (fun _ _=>rfl) (by rw [ofEvents_nil,Array.append_empty]; exact hcm.ph) (by rw [hde]; rfl)
   (fun h6=>by rw [ofEvents_nil,Array.append_empty]; exact hcm.rel i hi (by rw [hst]; exact h6)) rfl (by rw [hst]) hcm.lie hwg (fun tg' ht _=>(hmd.same hst.symm).retag ht) (.inr ⟨hst.symm,by rw [hfu]; exact hm⟩)
 cases hs using Wsit.elim with
 | new h =>
  rcases Goes.cases h with hstop | ⟨m',rfl,hstep⟩
  ·
   obtain ⟨_,o,g',hgo,hhas,m₂,hk⟩:=hstop w trivial
   have hsz : (lay w o).heap.size = w.heap.size + 1:=by simp [lay]
   refine inv_worker hHd ha hcs hcm hi hg hgo ⟨fun b hb=>lay_old o (hcm.lie.list b hb),fun b hb=>lay_old o (hcm.lie.own b hb).1,live_block (lay_old o hlow)⟩ (y:=⟨9,m₂,0⟩) (bx':=fun k=>if k = N0 + i then some w.heap.size else bx k)
    (by simp only [if_true]; exact .boxed hk hhas) (fun i' _ _=>⟨live_block (lay_old o hlow),fun b hb=>lay_old o (hcm.ph.boxes _ _ hb).1⟩) (fun k hk=>by simp [hk])
    (by rw [ofEvents_nil,Array.append_empty,hsz]; exact hcm.ph.box wki hbx (Nat.le_refl _)) (by rw [hde]; rfl) (fun h6=>by simp at h6) (lay_old o hcm.lie.chl) (by rw [hst]; simp) (hcm.lie.laid hlow o _)
    (by show (lay w o).heap[Wg]? = _; rw [lay_old o hlow]; exact hwg) (fun tg' ht _=>(hmd.counted hi (by omega) (by simp)).retag ht) (.inl (by rw [hst]; simp))
  ·
   obtain ⟨g',w',es,hgo,⟨rfl,rfl⟩,hg'⟩:=hstep w trivial
   exact idle hgo (.new hg') rfl
 | boxed h hhas =>
  rename_i b
  rcases Goes.cases h with hstop | ⟨m',rfl,hstep⟩
  ·
   obtain ⟨_,g',es,hgo,hes,m₂,hk⟩:=hstop w rfl
   refine inv_worker hHd ha hcs hcm hi hg hgo (RS.refl w) (y:=⟨8,m₂,0⟩) (bx':=bx) (by rw [hbx]; exact .read hk hhas) (fun _ _ _=>Left.refl w) (fun _ _=>rfl)
    (hcm.ph.app (.inr (.inl wki)) (fun op hop=>?_)) (by rw [hde]; exact deafBehind_idle (fun e he=>by obtain ⟨ad,_,rfl⟩:=hes e he; simp) 0) (fun h6=>by simp at h6) rfl (by rw [hst]; simp) hcm.lie hwg
    (fun tg' ht _=>(hmd.counted hi (by omega) (by simp)).retag ht) (.inl (by rw [hst]; simp))
   obtain ⟨e,he,rfl⟩:=Go.Conc.mem_ofEvents hop
   obtain ⟨ad,hab,rfl⟩:=hes e he
   refine ⟨rfl,fun y hy=>?_,by simp [MemAct.ofEvent],fun y hy=>?_⟩
   ·
    simp only [MemAct.ofEvent,MemAct.touch?,Option.some.injEq] at hy
    subst hy
    show ad.block < _
    have:=(hcm.ph.boxes _ _ hbx).1
    omega
   ·
    simp only [MemAct.ofEvent,MemAct.touch?,Option.some.injEq] at hy
    subst hy
    exact .inr (.inr ⟨by omega,by simp,b,hbx,⟨ad,rfl,hab⟩⟩)
  ·
   obtain ⟨g',w',es,hgo,⟨rfl,rfl⟩,hg'⟩:=hstep w rfl
   exact idle hgo (.boxed hg' hhas) rfl
 | read h hhas=>exact absurd hst h7
 | lib h hs7 =>
  rename_i b
  have hbb:=hcm.ph.boxes _ _ hbx
  have hRW : RW ty Wg b 1 0 (1 - 1) w w:=RW.refl w
  cases h with
  | r0 h =>
   rcases Goes.cases h with hstop | ⟨m',rfl,hstep⟩
   ·
    obtain ⟨_,hhas,g',hgo,m₂,hk⟩:=hstop w hRW
    refine inv_worker hHd ha hcs hcm hi hg hgo (RS.refl w) (y:=⟨6,m₂,0⟩) (bx':=bx) (by rw [hbx]; exact .lib (.k1 hk) (by simp)) (fun _ _ _=>Left.refl w) (fun _ _=>rfl)
     (hcm.ph.app (.inr (.inl wki)) (fun op hop=>?_)) (by rw [hde]; rfl) (fun _=>⟨t.size,RelBy.new hdk _ _,hcm.ph.since⟩) rfl (by rw [hst]; simp) hcm.lie hwg
     (fun tg' ht _=>(hmd.counted hi (by omega) (by simp)).retag ht) (.inl (by rw [hst]; simp))
    obtain ⟨e,he,rfl⟩:=Go.Conc.mem_ofEvents hop
    simp at he
    subst he
    exact ⟨rfl,fun y hy=>by simp [MemAct.ofEvent,mk,MemAct.touch?] at hy,by simp [MemAct.ofEvent,mk],fun y hy=>by simp [MemAct.ofEvent,mk,MemAct.touch?] at hy⟩
   ·
    obtain ⟨g',w',es,hgo,⟨hac,hev⟩,hg'⟩:=hstep w hRW
    have hAs : Aside b w w':=⟨hac.tape,hac.os,hac.output,hac.size,fun c hc=>hac.block c hc⟩
    have hl:=hcm.lie.box _ _ hbx
    have live : WgLive ty Wg w → WgLive ty Wg w':=live_block (hac.block Wg (Ne.symm hbb.2.1))
    have hadds : ∀ op ∈ MemOp.ofEvents (N0 + i) g.frame.fn g.frame.place es,Adds Shun Wg bx w.heap.size (N0 + i) op:=by
     intro op hop
     obtain ⟨e,he,rfl⟩:=Go.Conc.mem_ofEvents hop
     have ht : ∀ y,(MemAct.ofEvent e).touch? = some y → Go.ConcN.ShN Wg y.loc ∧ y.kind ≠ .plain ∧ y.kind ≠ .said:=fun y hy=>by
      rcases ((hev e he).1 0 "").2 y hy with h1 | h1 | h1
      ·
       exact h1
      ·
       exact h1.elim
      ·
       exact h1.1.elim
     refine ⟨rfl,fun y hy=>?_,fun hm=>(hev e he).2.2.2 (Go.ConcR.loc_of_ofEvent hm),fun y hy=>?_⟩
     ·
      obtain ⟨⟨ad,h1,h2⟩,_⟩:=ht y hy
      rw [h1]
      show ad.block < _
      omega
     ·
      obtain ⟨⟨ad,h1,h2⟩,h3,h4⟩:=ht y hy
      exact .inl ⟨⟨ad,h1,h2⟩,h3,fun e=>absurd e h4⟩
    exact inv_worker hHd ha hcs hcm hi hg hgo ⟨fun c hc=>hac.block c (fun e=>hl.2.1 (e ▸ hc)),fun c hc=>hac.block c (fun e=>hl.2.2.1 (e ▸ hc)),live⟩ (y:=⟨7,m',0⟩) (bx':=bx) (by rw [hbx]; exact .lib (.r0 hg') (by simp))
     (fun i' hi' hne=>⟨live,fun c hc=>hac.block c (fun e=>hne (by have:=hcm.ph.apart _ _ _ (e ▸ hc) hbx; omega))⟩) (fun _ _=>rfl) (by rw [hac.size]; exact hcm.ph.app (.inr (.inl wki)) hadds)
     (by rw [hde]; exact deafBehind_idle (fun e he=>⟨(hev e he).2.1,(hev e he).2.2.1⟩) 0) (fun h6=>by simp at h6) (hac.block Ch (Ne.symm hl.1)) (by rw [hst]) (hcm.lie.turn hAs (.inr hl.2.2.2)) ((hac.block Wg (Ne.symm hbb.2.1)).trans hwg)
     (fun tg' ht _=>(hmd.same hst.symm).retag ht) (.inr ⟨hst.symm,hfu.symm⟩)
  | k1 h =>
   rcases Goes.cases h with hstop | ⟨m',rfl,hstep⟩
   ·
    obtain ⟨_,g',hgo,m₂,hk⟩:=hstop w hRW
    exact book hgo (.refl Wg w) hwg (by intro e he; simp at he; subst he; exact .inl rfl) (by intro jx e he; exact .inl (by have:=Array.mem_of_getElem? he; simp at this; subst this; rfl)) (.lib (.d1 hk) (by omega)) rfl (by omega) (by omega) (hmd.counted hi (by omega) (by simp)) (.inl (by omega))
   ·
    obtain ⟨g',w',es,hgo,⟨rfl,rfl⟩,hg'⟩:=hstep w hRW
    exact idle hgo (.lib (.k1 hg') (by omega)) rfl
  | d1 h =>
   rcases Goes.cases h with hstop | ⟨m',rfl,hstep⟩
   ·
    obtain ⟨_,hall⟩:=hstop w hRW
    have bk2 : ∀ e ∈ #[rd (stA Wg),wr (stA Wg)],Bk Wg e:=by intro e he; simp at he; rcases he with rfl | rfl <;> exact bk_cell _ _ rfl
    have df2 : ∀ jx e,(#[rd (stA Wg),wr (stA Wg)] : Array Event)[jx]? = some e → (MemAct.ofEvent e).touch? = none ∨ 0 < deafBehind 1 ((#[rd (stA Wg),wr (stA Wg)] : Array Event).extract 0 jx):=by
     intro jx e he
     match jx,he with
     | 0,_=>exact .inr (by simp [deafBehind])
     | 1,_=>exact .inr (by simp [deafBehind,rd])
     | jx + 2,he=>simp at he
    obtain ⟨rfl,vv,wt,hwt,hv,rfl,h4,h1⟩:=hmd.held hi (by omega) (by omega)
    obtain ⟨g',hgo,hl,hq⟩:=hall vv wt hwt hv hwg
    by_cases hc : vv = 0 ∧ wt = 1
    ·
     obtain ⟨m₂,hk⟩:=hl hc
     exact book hgo (aside_setCell w (stA Wg) _) (hwg.setSt _) bk2 df2 (.lib (.d2 hk) (by omega)) rfl (by omega) (by omega) (h4 hc _ rfl) (.inl (by omega))
    ·
     obtain ⟨qq,hq⟩:=hq hc
     exact book hgo (aside_setCell w (stA Wg) _) (hwg.setSt _) bk2 df2 (.lib (.quit hq) (by omega)) rfl (by omega) (by omega) (h1 hc _ rfl) (.inl (by omega))
   ·
    obtain ⟨g',w',es,hgo,⟨rfl,rfl⟩,hg'⟩:=hstep w hRW
    exact idle hgo (.lib (.d1 hg') (by omega)) rfl
  | d2 h =>
   rcases Goes.cases h with hstop | ⟨m',rfl,hstep⟩
   ·
    obtain ⟨_,hx⟩:=hstop w hRW
    obtain ⟨_,_,rfl,rfl⟩:=hmd.isLast hi (by omega)
    simp only [hst] at hwg
    obtain ⟨g',hgo,m₂,hk⟩:=hx (by simpa using hwg)
    refine book hgo (.refl Wg w) hwg (by intro e he; simp at he; subst he; exact bk_cell _ _ rfl) (by intro jx e he; match jx,he with | 0,_=>exact .inr (by simp [deafBehind]) | jx + 1,he=>simp at he) (.lib (.d3 hk) (by omega)) rfl (by omega) (by omega) ?_ (.inl (by omega))
    exact hmd.down hi (by omega) (x:=⟨3,m₂,1⟩) (.inl rfl)
   ·
    obtain ⟨g',w',es,hgo,⟨rfl,rfl⟩,hg'⟩:=hstep w hRW
    exact idle hgo (.lib (.d2 hg') (by omega)) rfl
  | d3 h =>
   rcases Goes.cases h with hstop | ⟨m',rfl,hstep⟩
   ·
    obtain ⟨_,hx⟩:=hstop w hRW
    obtain ⟨_,_,rfl,rfl⟩:=hmd.isLast hi (by omega)
    simp only [hst] at hwg
    obtain ⟨g',hgo,m₂,hk⟩:=hx (by simpa using hwg)
    refine book hgo (aside_setCell w (stA Wg) _) (hwg.setSt 0) (by intro e he; simp at he; subst he; exact bk_cell _ _ rfl) (by intro jx e he; match jx,he with | 0,_=>exact .inr (by simp [deafBehind]) | jx + 1,he=>simp at he) (.lib (.d4 hk) (by omega)) rfl (by omega) (by omega) ?_ (.inl (by omega))
    exact hmd.down hi (by omega) (x:=⟨2,m₂,1⟩) (.inr rfl)
   ·
    obtain ⟨g',w',es,hgo,⟨rfl,rfl⟩,hg'⟩:=hstep w hRW
    exact idle hgo (.lib (.d3 hg') (by omega)) rfl
  | d4 h =>
   rcases Goes.cases h with hstop | ⟨m',rfl,hstep⟩
   ·
    obtain ⟨_,hmw,hx⟩:=hstop w hRW
    obtain ⟨_,_,rfl,rfl⟩:=hmd.isLast hi (by omega)
    simp only [hst] at hwg
    obtain ⟨g',hgo,qq,hq⟩:=hx (by simpa using hwg)
    have hrun' : g'.status = .running:=by
     cases qq with
     | zero=>exact absurd hq.2 (by decide)
     | succ qq=>exact hq.elim (fun z=>absurd z.2 (by decide)) (fun z=>z.1)
    refine bookG hgo (aside_setCell w (smA Wg) _) (hwg.setSm 1) (es:=semEvents (smA Wg)) ?_ ?_ (.lib (.quit hq) (by omega)) (by simp [deafBehind,semEvents]) (by omega) (by omega) (fun tg' ht hw=>?_) (.inl (by omega))
    ·
     intro e he
     simp [semEvents] at he
     rcases he with rfl | rfl | rfl | rfl
     ·
      exact .inl rfl
     ·
      exact bk_cell _ _ rfl
     ·
      exact bk_cell _ _ rfl
     ·
      exact .inr (.inl rfl)
    ·
     intro jx e he
     match jx,he with
     | 0,he=>simp [semEvents] at he; subst he; exact .inl rfl
     | 1,_=>exact .inr (by simp [deafBehind,semEvents])
     | 2,_=>exact .inr (by simp [deafBehind,semEvents])
     | 3,he=>simp [semEvents] at he; subst he; exact .inl rfl
     | jx + 4,he=>simp [semEvents] at he
    ·
     simp only [if_true]
     exact hmd.raise hi hst ht (hw hmw hrun') rfl
   ·
    obtain ⟨g',w',es,hgo,⟨rfl,rfl⟩,hg'⟩:=hstep w hRW
    exact idle hgo (.lib (.d4 hg') (by omega)) rfl
  | quit h =>
   cases m with
   | zero=>rw [h.1] at hrun; cases hrun
   | succ qq =>
    rcases h with ⟨hf,_⟩ | ⟨_,g',es,hmute,hstep,hq⟩
    ·
     rw [hf] at hrun; cases hrun
    ·
     have hno : ∀ jx e,es[jx]? = some e → (MemAct.ofEvent e).touch? = none ∨ 0 < deafBehind dd (es.extract 0 jx):=fun jx e he=>.inl (touch_mute (hmute e (Array.mem_of_getElem? he)))
     exact book (hstep w) (.refl Wg w) hwg (fun e he=>bk_of_mute (hmute e he)) hno (.lib (.quit hq) (by omega)) rfl (by omega) (by omega) (hmd.same hst.symm) (.inr ⟨rfl,rfl⟩)
end
end Go.Proofs.YtkeapmmochpcfaaGreat.Wt
namespace Go.Proofs.YtkeapmmochpcfaaGreat.Wt
open Go Go.Conc
open Nf (Says More Adding Outs Again Sema Swap Looks InB Ph Adds)
open Go.ConcN (WD cnt Vc Ssum Fsum sumTo upd upd_ne upd_same sumTo_upd WgLive Has RelBy WSit RW DWs)
open Go.ConcR (KK WgAt stA smA rd wr mk Payload DC0 g_of_ofEvents)
set_option linter.unusedSectionVars false
variable [Payload]
section
variable {P : Program} {ty : TypeId} {Wg Ch cap n : Nat} {v x : Nat → Value} {Shun : Loc → Prop} {la : Nat → Prop} {T0 N0 : Nat} {w0 : World} {B0 : Nat} {Hd Nx : List Nat → Goroutine → World → Prop}
  {gs : Array Goroutine} {w w' : World} {sl : Option (Nat × Nat)} {j : Nat} {D : Nat → WD} {bx bx' : Nat → Option Nat} {os : List Nat} {tg : Tg} {f0 d0 : Nat} {q : Nat → Nat} {l : List Nat} {a : Goroutine} {st sm : Int} {t : Trace}
theorem Csit.offers (hHd : ∀ os g w,Hd os g w → g.status = .running) (h : Csit P ty Wg Ch n v x la Hd Nx tg j f0 d0 os a w) (c : Nat) (b : Bool) : offersAt a c b = []:=by
 rcases h.status hHd with ⟨hs,_⟩ | ⟨_,rfl⟩
 ·
  exact offersAt_of_not_blocked (by rw [hs]; simp) c b
 ·
  cases h using Csit.elim with
  | bk hb =>
   have:=(hb w (RS.refl w)).2.1
   simp [offersAt,this]
theorem no_partners (hHd : ∀ os g w,Hd os g w → g.status = .running) (ha : gs[0]? = some a) (hcs : Csit P ty Wg Ch n v x la Hd Nx tg j f0 d0 os a w) (hcm : Cm P ty Wg Ch cap v x Shun la T0 N0 w0 B0 j gs w t D bx os d0 q l) (i c : Nat) (b : Bool) : partners (gs.setIfInBounds i ph) c b = []:=by
 refine partners_nil fun k z hz=>?_
 by_cases e : k = i
 ·
  subst e
  by_cases hlt : k < gs.size
  ·
   rw [Array.getElem?_setIfInBounds_self_of_lt hlt] at hz
   cases hz
   rfl
  ·
   rw [Array.getElem?_eq_none (by simpa using hlt)] at hz; cases hz
 ·
  rw [Array.getElem?_setIfInBounds_ne (Ne.symm e)] at hz
  rcases Nat.eq_zero_or_pos k with rfl | hk
  ·
   rw [ha] at hz; cases hz
   exact hcs.offers hHd c b
  ·
   refine offersAt_of_not_blocked ?_ c b
   rcases Nat.lt_or_ge k N0 with hlt | hge
   ·
    rcases (hcm.old k z hk hlt hz).status with h | h <;> rw [h] <;> simp
   ·
    have hkj : k < N0 + j:=by have:=(Array.getElem?_eq_some_iff.1 hz).1; rw [hcm.size] at this; exact this
    obtain ⟨z',hz',hs⟩:=hcm.wk (k - N0) (by omega)
    rw [show N0 + (k - N0) = k by omega,hz] at hz'
    cases hz'
    rcases hs.status with h | h <;> rw [h] <;> simp
theorem step_send (hHd : ∀ os g w,Hd os g w → g.status = .running) (hcap : n ≤ cap) (ha : gs[0]? = some a) (hcs : Csit P ty Wg Ch n v x la Hd Nx tg j f0 d0 os a w) (hcm : Cm P ty Wg Ch cap v x Shun la T0 N0 w0 B0 j gs w t D bx os d0 q l)
  (hwg : WgAt ty Wg w st sm) (hmd : Md j D tg st sm) {i : Nat} (hi : i < j) {g : Goroutine} (hg : gs[N0 + i]? = some g) (h8 : (D i).stage = 8) :
  ∃ m₁ ops μ',runT P (crowd gs w sl) (N0 + i) = (.next m₁,ops) ∧ Less2 μ' (rnk n (Vc j D) tg + Ssum j D,f0 + 2 * Fsum j D + 2 * sumTo N0 q) ∧ Inv P ty Wg Ch cap n v x Shun la T0 N0 w0 B0 Hd Nx μ' m₁ (t ++ ops):=by
 obtain ⟨g₁,hg₁,hs⟩:=hcm.wk i hi
 obtain rfl : g = g₁:=by rw [hg] at hg₁; exact Option.some.inj hg₁
 have hpos:=hcm.ph.pos
 have hbound:=hcs.bound
 have hi0 : (N0 + i == 0) = false:=by simp; omega
 generalize hst : (D i).stage = s at hs h8
 generalize hfu : (D i).fuel = m at hs
 generalize hde : (D i).deaf = dd at hs
 generalize hbx : bx (N0 + i) = bi at hs
 cases hs using Wsit.elim with
 | new h=>cases h8
 | boxed h _=>cases h8
 | lib h h7=>omega
 | read h hhas =>
  rename_i b
  rcases Goes.cases h with hstop | ⟨m',rfl,hstep⟩
  ·
   obtain ⟨_,g2,z,bl,sh,hgo,m₂,hparts⟩:=hstop w rfl
   obtain ⟨tm,hch⟩:=hcm.chan
   have hroom : (l.map v).toArray.size < cap:=by
    have:=room hcm.perm hi (by omega)
    simp
    omega
   have hrunT:=crowd_send_room (P:=P) (sl:=sl) (i:=N0 + i) hg (by rw [hi0]; exact hgo) hch hroom (no_partners hHd ha hcs hcm _ _ _)
   have hne : ∀ c,c ≠ Ch → (w.setChan Ch cap ((l.map v).toArray.push (v i)) false (l.length + 1) 0 tm).heap[c]? = w.heap[c]?:=fun c hc=>heap_setChan_ne w _ _ _ _ _ _ (Ne.symm hc)
   have hlv : WgLive ty Wg (w.setChan Ch cap ((l.map v).toArray.push (v i)) false (l.length + 1) 0 tm):=live_block (hne _ hcm.lie.wg.1) ⟨_,_,hwg⟩
   have hb:=hcm.lie.box _ _ hbx
   have hsit : Wsit P ty Wg Ch (v i) (x i) 7 m₂ 0 (bx (N0 + i)) (g2.finishComm P #[scase Ch (v i) z] sh 0 undef false) (w.setChan Ch cap ((l.map v).toArray.push (v i)) false (l.length + 1) 0 tm):=by
    rw [hbx]
    exact .lib (.r0 (hparts _ hlv (has_stay hhas (hne _ hb.1)))) (Nat.le_refl _)
   have hu : ∀ op ∈ MemOp.ofEvents (N0 + i) g.frame.fn g.frame.place #[] ++ #[{ g:=N0 + i,fn:=g2.frame.fn,pos:=g2.frame.place,act:=.send Ch l.length },{ g:=N0 + i,fn:=g2.frame.fn,pos:=g2.frame.place,act:=.sendDone Ch l.length }],Mute3 Wg op:=by
    intro op hop
    rw [ofEvents_nil,Array.empty_append] at hop
    simp only [List.mem_toArray,List.mem_cons,List.not_mem_nil,or_false] at hop
    rcases hop with rfl | rfl <;> exact ⟨rfl,by simp,by simp,by simp⟩
   refine ⟨_,_,_,hrunT,less_worker (f':=f0) (tg':=tg) (y:=⟨7,m₂,0⟩) hi (by omega) (.inl rfl) (.inl (by rw [hst]; simp)),
    _,_,sl,j,upd D i ⟨7,m₂,0⟩,bx,os,tg,f0,d0,q,l ++ [i],a,st,sm,rfl,?_,hcs.rely ⟨fun c hc=>hne c (fun e=>hcm.lie.ch.1 (e ▸ hc)),fun c hc=>hne c (fun e=>hcm.lie.ch.2 (e ▸ hc)),fun _=>hlv⟩,
    hcm.send hi hst hde hch hu hsit,?_,hmd.counted hi (by omega) (by simp),rfl⟩
   ·
    rw [Array.getElem?_setIfInBounds_ne (by omega)]; exact ha
   ·
    exact (hne _ hcm.lie.wg.1).trans hwg
  ·
   obtain ⟨g',w',es,hgo,⟨rfl,rfl⟩,hg'⟩:=hstep w rfl
   exact inv_worker hHd ha hcs hcm hi hg hgo (RS.refl _) (y:=⟨8,m',0⟩) (bx':=bx) (by rw [hbx]; exact .read hg' hhas) (fun _ _ _=>Left.refl _) (fun _ _=>rfl) (by rw [ofEvents_nil,Array.append_empty]; exact hcm.ph) (by rw [hde]; rfl)
    (fun h6=>by simp at h6) rfl (by rw [hst]) hcm.lie hwg (fun tg' ht _=>(hmd.same hst.symm).retag ht) (.inr ⟨hst.symm,by rw [hfu]⟩)
end
end Go.Proofs.YtkeapmmochpcfaaGreat.Wt
namespace Go.Proofs.YtkeapmmochpcfaaGreat.Wt
open Go Go.Conc
open Nf (Says More Adding Outs Again Sema Swap Looks InB Ph Adds Pst)
open Go.ConcN (WD cnt Vc Ssum Fsum sumTo upd upd_ne upd_same sumTo_upd WgLive Has RelBy WSit RW DWs bk_cell Vc_le)
open Go.ConcR (KK WgAt stA smA rd wr mk Payload DC0 g_of_ofEvents Bk ofEvent_mk ofEvent_cell)
set_option linter.unusedSectionVars false
variable [Payload]
section
variable (P : Program) (ty : TypeId) (Wg Ch cap n : Nat) (v : Nat → Value) (Shun : Loc → Prop) (la : Nat → Prop) (N0 : Nat) (w0 : World) (B0 : Nat) (Nx : List Nat → Goroutine → World → Prop)
def Over (m : Machine) (t : Trace) : Prop :=
 ∃ (gs : Array Goroutine) (w : World) (sl : Option (Nat × Nat)) (os : List Nat) (q : Nat → Nat) (l : List Nat) (g : Goroutine),
  m = crowd gs w sl ∧ gs[0]? = some g ∧ gs.size = N0 + n ∧ (∃ k,Goes P true (RS ty Wg la os) DC0 (Nx os) k g w) ∧ Leavers P t gs q ∧ Pst (fun l=>Shun l ∨ InB Wg l) w.heap.size t ∧ WgAt ty Wg w 0 0 ∧
  (∃ tm,w.heap[Ch]? = some (.chan cap (l.map v).toArray false l.length 0 tm)) ∧ l.Perm (List.range n) ∧ (∃ bx,Lie Wg Ch la w0 B0 bx os w)
end
section
variable {P : Program} {ty : TypeId} {Wg Ch cap n : Nat} {v x : Nat → Value} {Shun : Loc → Prop} {la : Nat → Prop} {T0 N0 : Nat} {w0 : World} {B0 : Nat} {Hd Nx : List Nat → Goroutine → World → Prop}
  {gs : Array Goroutine} {w w' : World} {sl : Option (Nat × Nat)} {j : Nat} {D : Nat → WD} {bx bx' : Nat → Option Nat} {os os' : List Nat} {tg tg' : Tg} {f0 f' d0 : Nat} {q : Nat → Nat} {l : List Nat} {a a' : Goroutine} {st sm st' sm' : Int} {t : Trace} {es : Array Event}
theorem inv_starter (ha : gs[0]? = some a) (hcm : Cm P ty Wg Ch cap v x Shun la T0 N0 w0 B0 j gs w t D bx os d0 q l) (hgo : stepG P true a w = .go a' w' es)
  (hleft : ∀ i,i < j → Left ty Wg (bx (N0 + i)) w w') (hph : Ph Shun T0 Wg N0 j bx w'.heap.size (t ++ MemOp.ofEvents 0 a.frame.fn a.frame.place es)) (hch : w'.heap[Ch]? = w.heap[Ch]?) (hlie : Lie Wg Ch la w0 B0 bx os' w')
  (hcs' : Csit P ty Wg Ch n v x la Hd Nx tg' j f' (deafBehind d0 es) os' a' w') (hwg : WgAt ty Wg w' st' sm') (hmd : Md j D tg' st' sm') (hlt : rnk n (Vc j D) tg' < rnk n (Vc j D) tg ∨ (rnk n (Vc j D) tg' = rnk n (Vc j D) tg ∧ f' < f0)) :
  ∃ m₁ ops μ',runT P (crowd gs w sl) 0 = (.next m₁,ops) ∧ Less2 μ' (rnk n (Vc j D) tg + Ssum j D,f0 + 2 * Fsum j D + 2 * sumTo N0 q) ∧ Inv P ty Wg Ch cap n v x Shun la T0 N0 w0 B0 Hd Nx μ' m₁ (t ++ ops):=by
 have hpos:=hcm.ph.pos
 refine ⟨_,_,(rnk n (Vc j D) tg' + Ssum j D,f' + 2 * Fsum j D + 2 * sumTo N0 q),runT_crowd_go (P:=P) (sl:=sl) (i:=0) ha (by simpa using hgo),?_,
  _,w',sl,j,D,bx,os',tg',f',deafBehind d0 es,q,l,a',st',sm',rfl,Go.ConcN.get_map_set_same _ _ _ (by rw [hcm.size]; omega),hcs',hcm.step0 hleft hph hch hlie,hwg,hmd,rfl⟩
 simp only [Less2]
 omega
theorem adds_mk {B : Nat} {m : Mark} {fn : FuncId} {pos : String} (hW : Wg < B) (hm : m = .disable ∨ m = .enable ∨ m = .acquire (stA Wg) ∨ m = .read (smA Wg) ∨ m = .write (smA Wg)) : ∀ op ∈ MemOp.ofEvents 0 fn pos #[mk m],Adds Shun Wg bx B 0 op:=by
 intro op hop
 obtain ⟨e,he,rfl⟩:=Go.Conc.mem_ofEvents hop
 simp at he
 subst he
 rcases hm with rfl | rfl | rfl | rfl | rfl
 ·
  exact ⟨rfl,fun y hy=>by simp [ofEvent_mk,MemAct.touch?] at hy,by simp [ofEvent_mk],fun y hy=>by simp [ofEvent_mk,MemAct.touch?] at hy⟩
 ·
  exact ⟨rfl,fun y hy=>by simp [ofEvent_mk,MemAct.touch?] at hy,by simp [ofEvent_mk],fun y hy=>by simp [ofEvent_mk,MemAct.touch?] at hy⟩
 ·
  exact ⟨rfl,fun y hy=>by simp [ofEvent_mk,MemAct.touch?] at hy,by simp [ofEvent_mk],fun y hy=>by simp [ofEvent_mk,MemAct.touch?] at hy⟩
 ·
  refine ⟨rfl,fun y hy=>?_,by simp [ofEvent_mk],fun y hy=>?_⟩ <;> simp only [ofEvent_mk,MemAct.touch?,Option.some.injEq] at hy <;> subst hy
  ·
   exact hW
  ·
   exact .inl ⟨⟨_,rfl,rfl⟩,by simp,fun _=>rfl⟩
 ·
  refine ⟨rfl,fun y hy=>?_,by simp [ofEvent_mk],fun y hy=>?_⟩ <;> simp only [ofEvent_mk,MemAct.touch?,Option.some.injEq] at hy <;> subst hy
  ·
   exact hW
  ·
   exact .inl ⟨⟨_,rfl,rfl⟩,by simp,fun _=>rfl⟩
theorem adds_ds {fn : FuncId} {pos : String} (hlie : Lie Wg Ch la w0 B0 bx os w) (hsh : ∀ l,Shun l → ∃ a : Addr,l = .cell a ∧ a.block < B0 ∧ ¬ la a.block) (h : DS la os w w' es) : ∀ op ∈ MemOp.ofEvents 0 fn pos es,Adds Shun Wg bx w.heap.size 0 op:=by
 intro op hop
 obtain ⟨e,he,rfl⟩:=Go.Conc.mem_ofEvents hop
 obtain ⟨ad,wr,rfl,hb⟩:=h.events e he
 have hlt : ad.block < w.heap.size:=by
  rcases hb with h1 | h1
  ·
   exact (hlie.own _ h1).1
  ·
   exact hlie.list _ h1.1
 refine ⟨rfl,fun y hy=>?_,by simp [MemAct.ofEvent],fun y hy=>?_⟩ <;> simp only [MemAct.ofEvent,MemAct.touch?,Option.some.injEq] at hy <;> subst hy
 ·
  exact hlt
 ·
  refine .inr (.inl ⟨rfl,?_,fun k b hk=>?_,fun hs=>?_⟩)
  ·
   rintro ⟨_,e,e2⟩
   cases e
   rcases hb with h1 | h1
   ·
    exact hlie.wg.2.2 (e2 ▸ h1)
   ·
    exact hlie.wg.2.1 (e2 ▸ h1.1)
  ·
   rintro ⟨_,e,e2⟩
   cases e
   rcases hb with h1 | h1
   ·
    exact (hlie.box k b hk).2.2.1 (e2 ▸ h1)
   ·
    exact (hlie.box k b hk).2.1 (e2 ▸ h1.1)
  ·
   obtain ⟨_,e,e2,e3⟩:=hsh _ hs
   cases e
   rcases hb with h1 | h1
   ·
    have:=(hlie.own _ h1).2; omega
   ·
    exact absurd h1.1 e3
theorem Lie.ds (h : Lie Wg Ch la w0 B0 bx os w) (hd : DS la os w w' es) : Lie Wg Ch la w0 B0 bx os w' :=
 ⟨h.box,h.wg,h.ch,fun b hb=>by rw [hd.size]; exact h.list b hb,fun b hb=>by rw [hd.size]; exact h.own b hb,by rw [hd.size]; exact h.chl,fun b hb h1 h2=>(hd.others b (fun ho=>by have:=(h.own b ho).2; omega)).trans (h.base b hb h1 h2),by rw [hd.size]; exact h.size,by rw [hd.sys.1,hd.sys.2]; exact h.sys⟩
theorem Lie.mine (h : Lie Wg Ch la w0 B0 bx os w) (hb : ∀ k b,bx k = some b → b < w.heap.size) (hW : Wg < w.heap.size) (o : Obj) : Lie Wg Ch la w0 B0 bx (w.heap.size :: os) (lay w o):=by
 have hs : (lay w o).heap.size = w.heap.size + 1:=by simp [lay]
 have:=h.size
 refine ⟨fun k b hk=>?_,⟨h.wg.1,h.wg.2.1,?_⟩,⟨h.ch.1,?_⟩,fun b hb=>by have:=h.list b hb; omega,fun b hb=>?_,by have:=h.chl; omega,fun b hb h1 h2=>(lay_old o (by omega)).trans (h.base b hb h1 h2),by omega,h.sys⟩
 ·
  have h1:=h.box k b hk
  exact ⟨h1.1,h1.2.1,by simp only [List.mem_cons,not_or]; exact ⟨by have:=hb k b hk; omega,h1.2.2.1⟩,h1.2.2.2⟩
 ·
  simp only [List.mem_cons,not_or]; exact ⟨by omega,h.wg.2.2⟩
 ·
  simp only [List.mem_cons,not_or]; exact ⟨by have:=h.chl; omega,h.ch.2⟩
 ·
  rcases List.mem_cons.1 hb with rfl | hb
  ·
   omega
  ·
   have:=h.own b hb; omega
end
end Go.Proofs.YtkeapmmochpcfaaGreat.Wt
namespace Go.Proofs.YtkeapmmochpcfaaGreat.Wt
open Go Go.Conc
open Nf (Says More Adding Outs Again Sema Swap Looks InB Ph Adds Pst)
open Go.ConcN (WD cnt Vc Ssum Fsum sumTo upd upd_ne upd_same sumTo_upd sumTo_congr WgLive Has RelBy WSit RW DWs bk_cell Vc_le deafBehind_idle)
open Go.ConcR (KK WgAt stA smA rd wr mk Payload DC0 g_of_ofEvents Bk ofEvent_mk ofEvent_cell)
set_option linter.unusedSectionVars false
variable [Payload]
section
variable {P : Program} {ty : TypeId} {Wg Ch cap n : Nat} {v x : Nat → Value} {Shun : Loc → Prop} {la : Nat → Prop} {T0 N0 : Nat} {w0 : World} {B0 : Nat} {Hd Nx : List Nat → Goroutine → World → Prop}
  {gs : Array Goroutine} {w : World} {sl : Option (Nat × Nat)} {j : Nat} {D : Nat → WD} {bx : Nat → Option Nat} {os : List Nat} {tg : Tg} {f0 d0 : Nat} {q : Nat → Nat} {l : List Nat} {a : Goroutine} {st sm : Int} {t : Trace}
theorem bk_sem : ∀ e ∈ semEvents (smA Wg),Bk Wg e:=by
 intro e he
 simp [semEvents] at he
 rcases he with rfl | rfl | rfl | rfl
 ·
  exact .inl rfl
 ·
  exact bk_cell _ _ rfl
 ·
  exact bk_cell _ _ rfl
 ·
  exact .inr (.inl rfl)
theorem step_starter (hHd : ∀ os g w,Hd os g w → g.status = .running) (hn : n ≤ 2147483647) (hsh : ∀ l,Shun l → ∃ a : Addr,l = .cell a ∧ a.block < B0 ∧ ¬ la a.block)
  (hLk : ∀ os g w,Hd os g w → ∃ k,Goes P true (RS ty Wg la os) DC0 (Looks P (RS ty Wg la os) ty Wg (Hd os) (Nx os)) k g w)
  (ha : gs[0]? = some a) (hcs : Csit P ty Wg Ch n v x la Hd Nx tg j f0 d0 os a w) (hcm : Cm P ty Wg Ch cap v x Shun la T0 N0 w0 B0 j gs w t D bx os d0 q l)
  (hwg : WgAt ty Wg w st sm) (hmd : Md j D tg st sm) (hrun : a.status = .running) :
  (∃ m₁ ops,runT P (crowd gs w sl) 0 = (.next m₁,ops) ∧ Over P ty Wg Ch cap n v Shun la N0 w0 B0 Nx m₁ (t ++ ops)) ∨
  (∃ m₁ ops μ',runT P (crowd gs w sl) 0 = (.next m₁,ops) ∧ Less2 μ' (rnk n (Vc j D) tg + Ssum j D,f0 + 2 * Fsum j D + 2 * sumTo N0 q) ∧ Inv P ty Wg Ch cap n v x Shun la T0 N0 w0 B0 Hd Nx μ' m₁ (t ++ ops)):=by
 have hpos:=hcm.ph.pos
 have hlow:=hcm.ph.low
 have hbound:=hcs.bound
 have hVj:=Vc_le j D
 -- a step of its own
 have own : ∀ {a' : Goroutine} {w' : World} {es : Array Event} {tg' : Tg} {f' : Nat},stepG P true a w = .go a' w' es → DS la os w w' es → Csit P ty Wg Ch n v x la Hd Nx tg' j f' d0 os a' w' → Md j D tg' st sm →
   (rnk n (Vc j D) tg' < rnk n (Vc j D) tg ∨ (rnk n (Vc j D) tg' = rnk n (Vc j D) tg ∧ f' < f0)) →
   ∃ m₁ ops μ',runT P (crowd gs w sl) 0 = (.next m₁,ops) ∧ Less2 μ' (rnk n (Vc j D) tg + Ssum j D,f0 + 2 * Fsum j D + 2 * sumTo N0 q) ∧ Inv P ty Wg Ch cap n v x Shun la T0 N0 w0 B0 Hd Nx μ' m₁ (t ++ ops):=by
  intro a' w' es tg' f' hgo hd hcs' hmd' hlt
  have hdf : deafBehind d0 es = d0:=deafBehind_idle (fun e he=>by obtain ⟨ad,wr,rfl,_⟩:=hd.events e he; simp) d0
  exact inv_starter ha hcm hgo (fun i _=>⟨live_block (hd.others _ hcm.lie.wg.2.2),fun b hb=>hd.others b (hcm.lie.box _ b hb).2.2.1⟩) (by rw [hd.size]; exact hcm.ph.app (.inl rfl) (adds_ds hcm.lie hsh hd)) (hd.others _ hcm.lie.ch.2) (hcm.lie.ds hd)
   (by rw [hdf]; exact hcs') ((hd.others _ hcm.lie.wg.2.2).trans hwg) hmd' hlt
 have idle : ∀ {a' : Goroutine} {w' : World} {es : Array Event} {f' : Nat},stepG P true a w = .go a' w' es → DC0 w w' es → Csit P ty Wg Ch n v x la Hd Nx tg j f' d0 os a' w' → f' < f0 →
   ∃ m₁ ops μ',runT P (crowd gs w sl) 0 = (.next m₁,ops) ∧ Less2 μ' (rnk n (Vc j D) tg + Ssum j D,f0 + 2 * Fsum j D + 2 * sumTo N0 q) ∧ Inv P ty Wg Ch cap n v x Shun la T0 N0 w0 B0 Hd Nx μ' m₁ (t ++ ops) :=
  fun hgo hd hcs' hf=>own hgo (DS.of_dc0 la hd) hcs' hmd (.inr ⟨rfl,hf⟩)
 -- a word
 have say : ∀ {a' : Goroutine} {m : Mark} {tg' : Tg} {f' : Nat},stepG P true a w = .go a' w #[mk m] → (m = .disable ∨ m = .enable ∨ m = .acquire (stA Wg) ∨ m = .read (smA Wg) ∨ m = .write (smA Wg)) →
   Csit P ty Wg Ch n v x la Hd Nx tg' j f' (deafBehind d0 #[mk m]) os a' w → Md j D tg' st sm → rnk n (Vc j D) tg' < rnk n (Vc j D) tg →
   ∃ m₁ ops μ',runT P (crowd gs w sl) 0 = (.next m₁,ops) ∧ Less2 μ' (rnk n (Vc j D) tg + Ssum j D,f0 + 2 * Fsum j D + 2 * sumTo N0 q) ∧ Inv P ty Wg Ch cap n v x Shun la T0 N0 w0 B0 Hd Nx μ' m₁ (t ++ ops) :=
  fun hgo hm hcs' hmd' hlt=>inv_starter ha hcm hgo (fun _ _=>Left.refl w) (hcm.ph.app (.inl rfl) (adds_mk hlow hm)) rfl hcm.lie hcs' hwg hmd' (.inl hlt)
 -- the group's block turns,or is looked at
 have turn : ∀ {a' : Goroutine} {w' : World} {es : Array Event} {tg' : Tg} {f' : Nat} {st' sm' : Int},stepG P true a w = .go a' w' es → Aside Wg w w' → (∀ e ∈ es,Bk Wg e) → WgAt ty Wg w' st' sm' →
   Csit P ty Wg Ch n v x la Hd Nx tg' j f' (deafBehind d0 es) os a' w' → Md j D tg' st' sm' → rnk n (Vc j D) tg' < rnk n (Vc j D) tg →
   ∃ m₁ ops μ',runT P (crowd gs w sl) 0 = (.next m₁,ops) ∧ Less2 μ' (rnk n (Vc j D) tg + Ssum j D,f0 + 2 * Fsum j D + 2 * sumTo N0 q) ∧ Inv P ty Wg Ch cap n v x Shun la T0 N0 w0 B0 Hd Nx μ' m₁ (t ++ ops) :=
  fun hgo hAs hbk hwg' hcs' hmd' hlt=>inv_starter ha hcm hgo (fun i _=>⟨fun _=>⟨_,_,hwg'⟩,fun b hb=>hAs.block b (hcm.ph.boxes _ _ hb).2.1⟩) (by rw [hAs.size]; exact hcm.ph.app (.inl rfl) (adds_bk hlow hbk)) (hAs.block Ch (Ne.symm hcm.lie.wg.1)) (hcm.lie.turn hAs (.inl rfl)) hcs' hwg' hmd' (.inl hlt)
 have bk1 : ∀ e ∈ #[rd (stA Wg)],Bk Wg e:=by intro e he; simp at he; subst he; exact bk_cell _ _ rfl
 have bk2 : ∀ e ∈ #[rd (stA Wg),wr (stA Wg)],Bk Wg e:=by intro e he; simp at he; rcases he with rfl | rfl <;> exact bk_cell _ _ rfl
 have look : ∀ {k : Nat},Goes P true (RS ty Wg la os) DC0 (Looks P (RS ty Wg la os) ty Wg (Hd os) (Nx os)) k a w → early tg → pend tg = 0 → d0 = 1 → j = n → (8 * Vc j D + 5 < rnk n (Vc j D) tg ∨ (8 * Vc j D + 5 = rnk n (Vc j D) tg ∧ k = f0)) →
   ∃ m₁ ops μ',runT P (crowd gs w sl) 0 = (.next m₁,ops) ∧ Less2 μ' (rnk n (Vc j D) tg + Ssum j D,f0 + 2 * Fsum j D + 2 * sumTo N0 q) ∧ Inv P ty Wg Ch cap n v x Shun la T0 N0 w0 B0 Hd Nx μ' m₁ (t ++ ops):=by
  intro k h he hp hd1 hjn hrk
  obtain ⟨hop,hst,hsm,_⟩:=hmd.early he
  subst hd1 hsm hjn
  rw [hp,Nat.add_zero] at hst
  rcases Goes.cases h with hstop | ⟨k',rfl,hstep⟩
  ·
   obtain ⟨_,hall⟩:=hstop w (RS.refl w)
   obtain ⟨g',hgo,hz,hnz⟩:=hall (Vc j D) (by omega) (by rw [← hst]; exact hwg)
   by_cases h0 : Vc j D = 0
   ·
    obtain ⟨m₂,hk⟩:=hz h0
    have hst0 : st = 0:=by rw [hst,h0]; simp
    exact turn hgo (.refl Wg w) bk1 hwg (.ke hk) (by rw [hst0]; exact .fin trivial (hop.vc0 h0)) (by show 3 < _; omega)
   ·
    obtain ⟨m₂,hk⟩:=hnz h0
    exact turn hgo (.refl Wg w) bk1 hwg (.sw hk) (Md.mk_early hop trivial (by rw [hst]; simp [pends]) (fun vs e=>by cases e; omega)) (by show 8 * Vc j D + 4 < _; omega)
  ·
   obtain ⟨g',w',es,hgo,hd,hg'⟩:=hstep w (RS.refl w)
   exact own hgo (DS.of_dc0 la hd) (.lk hg') (Md.mk_early hop trivial (by rw [hst]; simp [pends]) (fun vs e=>by cases e)) (by show 8 * Vc j D + 5 < _ ∨ (8 * Vc j D + 5 = _ ∧ _); omega)
 cases hcs using Csit.elim with
 | s7 hr h =>
  rename_i r
  rcases Goes.cases h with hstop | ⟨m',rfl,hstep⟩
  ·
   obtain ⟨_,o,g',hgo,m₁,m₂,hk⟩:=hstop w (RS.refl w)
   have hsz : (lay w o).heap.size = w.heap.size + 1:=by simp [lay]
   obtain ⟨hop,hst,hsm,_⟩:=hmd.early trivial
   subst hsm
   refine .inr (inv_starter ha hcm hgo (fun i _=>⟨live_block (lay_old o hlow),fun b hb=>lay_old o (hcm.ph.boxes _ _ hb).1⟩) (by rw [ofEvents_nil,Array.append_empty,hsz]; exact hcm.ph.mono (by omega)) (lay_old o hcm.lie.chl) (hcm.lie.mine (fun k b hb=>(hcm.ph.boxes _ _ hb).1) hlow o)
    (.s6 (r:=r) hr hk) ((lay_old o hlow).trans hwg) (Md.mk_early hop trivial (by rw [hst]; simp [pends]) (fun vs e=>by cases e)) (.inl (by simp [rnks])))
  ·
   obtain ⟨g',w',es,hgo,hd,hg'⟩:=hstep w (RS.refl w)
   exact .inr (own hgo hd (.s7 hr hg') hmd (.inr ⟨rfl,by omega⟩))
 | s6 hr h =>
  rcases Goes.cases h with hstop | ⟨m',rfl,hstep⟩
  ·
   obtain ⟨_,g',hgo,m₂,hk⟩:=hstop w (RS.refl w)
   obtain ⟨hop,hst,hsm,_⟩:=hmd.early trivial
   subst hsm
   exact .inr (say hgo (.inl rfl) (.s5 hr hk) (Md.mk_early hop trivial (by rw [hst]; simp [pends]) (fun vs e=>by cases e)) (by simp [rnks]))
  ·
   obtain ⟨g',w',es,hgo,hd,hg'⟩:=hstep w (RS.refl w)
   exact .inr (own hgo hd (.s6 hr hg') hmd (.inr ⟨rfl,by omega⟩))
 | s5 hr h =>
  rename_i r m2
  rcases Goes.cases h with hstop | ⟨m',rfl,hstep⟩
  ·
   obtain ⟨_,hall⟩:=hstop w (RS.refl w)
   obtain ⟨hop,hst,hsm,_⟩:=hmd.early trivial
   subst hsm
   have hst' : st = (Vc (n - (r + 1)) D : Int) * KK:=by rw [hst]; simp [pends]
   obtain ⟨g',hgo,hz,hnz⟩:=hall (Vc (n - (r + 1)) D) (by omega) (by rw [← hst']; exact hwg)
   have hmd' : ∀ s,s ≤ 4 → Md (n - (r + 1)) D (.sp r s) (((Vc (n - (r + 1)) D : Int) + 1) * KK) 0:=fun s hs=>Md.mk_early hop trivial (by simp [pends,hs]) (fun vs e=>by cases e)
   by_cases h0 : Vc (n - (r + 1)) D = 0
   ·
    obtain ⟨m₂,hk⟩:=hz h0
    exact .inr (turn hgo (aside_setCell w (stA Wg) _) bk2 (hwg.setSt _) (.s4 hr hk) (hmd' 4 (by omega)) (by simp [rnks]))
   ·
    obtain ⟨m₂,hk⟩:=hnz h0
    exact .inr (turn hgo (aside_setCell w (stA Wg) _) bk2 (hwg.setSt _) (.s3 hr hk) (hmd' 3 (by omega)) (by simp [rnks]))
  ·
   obtain ⟨g',w',es,hgo,hd,hg'⟩:=hstep w (RS.refl w)
   exact .inr (idle hgo hd (.s5 hr hg') (by omega))
 | s4 hr h =>
  rcases Goes.cases h with hstop | ⟨m',rfl,hstep⟩
  ·
   obtain ⟨_,g',hgo,m₂,hk⟩:=hstop w (RS.refl w)
   obtain ⟨hop,hst,hsm,_⟩:=hmd.early trivial
   subst hsm
   exact .inr (say hgo (.inr (.inr (.inr (.inl rfl)))) (.s3 hr hk) (Md.mk_early hop trivial (by rw [hst]; simp [pends]) (fun vs e=>by cases e)) (by simp [rnks]))
  ·
   obtain ⟨g',w',es,hgo,hd,hg'⟩:=hstep w (RS.refl w)
   exact .inr (idle hgo hd (.s4 hr hg') (by omega))
 | s3 hr h =>
  rcases Goes.cases h with hstop | ⟨m',rfl,hstep⟩
  ·
   obtain ⟨_,g',hgo,m₂,hk⟩:=hstop w (RS.refl w)
   obtain ⟨hop,hst,hsm,_⟩:=hmd.early trivial
   subst hsm
   exact .inr (say hgo (.inr (.inl rfl)) (.s2 hr (goes_flat RS.refl (goes_weak (fun _ _ _ h=>DS.of_dc0 la h) hk))) (Md.mk_early hop trivial (by rw [hst]; simp [pends]) (fun vs e=>by cases e)) (by simp [rnks]))
  ·
   obtain ⟨g',w',es,hgo,hd,hg'⟩:=hstep w (RS.refl w)
   exact .inr (idle hgo hd (.s3 hr hg') (by omega))
 | s2 hr h =>
  rename_i r
  rcases Goes.cases h with hstop | ⟨m',rfl,hstep⟩
  ·
   obtain ⟨_,g',child,hgo,⟨mc,hc⟩,hnx⟩:=hstop w (RS.refl w)
   have hrunT:=runT_crowd_spawn (P:=P) (sl:=sl) (i:=0) ha (by simpa using hgo)
   have hu : ∀ op ∈ (MemOp.ofEvents 0 a.frame.fn a.frame.place #[]).push { g:=0,fn:=a.frame.fn,pos:=a.frame.place,act:=.go gs.size } |>.push { g:=gs.size,fn:=child.frame.fn,pos:=a.frame.place,act:=.start },Mute3 Wg op:=by
    intro op hop
    rw [ofEvents_nil] at hop
    simp only [List.push_toArray,List.nil_append,List.cons_append,List.mem_toArray,List.mem_cons,List.not_mem_nil,or_false] at hop
    rcases hop with rfl | rfl <;> exact ⟨rfl,by simp,by simp,by simp⟩
   have hcm':=hcm.start (g':=g') hu hc
   have ev : Vc (n - (r + 1) + 1) (upd D (n - (r + 1)) ⟨10,mc,0⟩) = Vc (n - (r + 1)) D + 1:=by
    simp only [Vc,sumTo,upd_same]
    rw [sumTo_congr (g:=fun a=>cnt (D a)) (fun a ha=>by rw [upd_ne D _ (by omega)])]
    simp [cnt]
   have es' : Ssum (n - (r + 1) + 1) (upd D (n - (r + 1)) ⟨10,mc,0⟩) = Ssum (n - (r + 1)) D + 10:=by
    simp only [Ssum,sumTo,upd_same]
    rw [sumTo_congr (g:=fun a=>(D a).stage) (fun a ha=>by rw [upd_ne D _ (by omega)])]
   have hget : ((gs.setIfInBounds 0 g').push child)[0]? = some g':=by
    rw [Array.getElem?_push_lt (by simp [hcm.size]; omega),← Array.getElem?_eq_getElem,Array.getElem?_setIfInBounds_self_of_lt (by rw [hcm.size]; omega)]
   right
   cases r with
   | zero =>
    obtain ⟨m₂,hk⟩:=hnx
    have ej : n - (0 + 1) + 1 = n:=by omega
    have hm:=hmd.start (tg:=.kd) (x:=⟨10,mc,0⟩) (by omega) trivial rfl (fun _ e=>by cases e) (by simp)
    rw [ej] at hcm' hm ev es'
    exact ⟨_,_,_,hrunT,.inl (by show rnk n (Vc n (upd D (n - (0 + 1)) ⟨10,mc,0⟩)) .kd + Ssum n (upd D (n - (0 + 1)) ⟨10,mc,0⟩) < _; rw [es']; simp only [rnks]; omega),_,w,sl,n,_,bx,os,.kd,m₂,0,q,l,g',st,sm,rfl,hget,.kd hk,hcm',hwg,hm,rfl⟩
   | succ r =>
    obtain ⟨m₂,hk⟩:=hnx
    have ej : n - (r + 1 + 1) + 1 = n - (r + 1):=by omega
    have hm:=hmd.start (tg:=.sp r 7) (x:=⟨10,mc,0⟩) (by omega) trivial rfl (fun _ e=>by cases e) (by simp)
    rw [ej] at hcm' hm ev es'
    exact ⟨_,_,_,hrunT,.inl (by show rnk n (Vc (n - (r + 1)) (upd D (n - (r + 1 + 1)) ⟨10,mc,0⟩)) (.sp r 7) + Ssum (n - (r + 1)) (upd D (n - (r + 1 + 1)) ⟨10,mc,0⟩) < _; rw [es']; simp only [rnks]; omega),_,w,sl,n - (r + 1),_,bx,os,.sp r 7,m₂,0,q,l,g',st,sm,rfl,hget,.s7 (by omega) hk,hcm',hwg,hm,rfl⟩
  ·
   obtain ⟨g',w',es,hgo,hd,hg'⟩:=hstep w (RS.refl w)
   exact .inr (own hgo hd (.s2 hr hg') hmd (.inr ⟨rfl,by omega⟩))
 | kd h =>
  rcases Goes.cases h with hstop | ⟨m',rfl,hstep⟩
  ·
   obtain ⟨_,g',hgo,m₂,hk⟩:=hstop w (RS.refl w)
   obtain ⟨hop,hst,hsm,_⟩:=hmd.early trivial
   subst hsm
   exact .inr (say hgo (.inl rfl) (.hd hk) (Md.mk_early hop trivial (by rw [hst]; simp [pends]) (fun vs e=>by cases e)) (by simp only [rnks]; omega))
  ·
   obtain ⟨g',w',es,hgo,hd,hg'⟩:=hstep w (RS.refl w)
   exact .inr (own hgo hd (.kd hg') hmd (.inr ⟨rfl,by omega⟩))
 | hd h =>
  rcases Goes.cases h with hstop | ⟨m',rfl,hstep⟩
  ·
   obtain ⟨k,hk⟩:=hLk _ _ _ (hstop w (RS.refl w))
   exact .inr (look hk trivial rfl rfl rfl (.inl (by simp [rnks])))
  ·
   obtain ⟨g',w',es,hgo,hd,hg'⟩:=hstep w (RS.refl w)
   exact .inr (idle hgo hd (.hd hg') (by omega))
 | lk h=>exact .inr (look h trivial rfl rfl rfl (.inr ⟨rfl,rfl⟩))
 | sw h =>
  rename_i vs
  rcases Goes.cases h with hstop | ⟨m',rfl,hstep⟩
  ·
   obtain ⟨_,hall⟩:=hstop w (RS.refl w)
   obtain ⟨hop,hst,hsm,hvs⟩:=hmd.early trivial
   have hvs:=hvs vs rfl
   subst hsm
   have hst' : st = (Vc n D : Int) * KK:=by rw [hst]; simp [pends]
   obtain ⟨hhit,hmiss⟩:=hall (Vc n D) (by omega) (by rw [← hst']; exact hwg)
   by_cases hv : Vc n D = vs
   ·
    obtain ⟨g',hgo,m₂,hk⟩:=hhit hv
    exact .inr (turn hgo (aside_setCell w (stA Wg) _) bk2 (hwg.setSt _) (.wr hk) (.reg (.inl rfl) hop (by omega)) (by simp only [rnks]; omega))
   ·
    obtain ⟨g',hgo,m₂,hk⟩:=hmiss hv
    exact .inr (turn hgo (.refl Wg w) bk1 hwg (.hd hk) (Md.mk_early hop trivial (by rw [hst]; simp [pends]) (fun vs e=>by cases e)) (by simp only [rnks]; omega))
  ·
   obtain ⟨g',w',es,hgo,hd,hg'⟩:=hstep w (RS.refl w)
   exact .inr (idle hgo hd (.sw hg') (by omega))
 | wr h =>
  rcases Goes.cases h with hstop | ⟨m',rfl,hstep⟩
  ·
   obtain ⟨_,g',hgo,m₂,hk⟩:=hstop w (RS.refl w)
   exact .inr (say hgo (.inr (.inr (.inr (.inr rfl)))) (.sm hk) hmd.wr_sm (by simp [rnks]))
  ·
   obtain ⟨g',w',es,hgo,hd,hg'⟩:=hstep w (RS.refl w)
   exact .inr (idle hgo hd (.wr hg') (by omega))
 | sm h =>
  rcases Goes.cases h with hstop | ⟨m',rfl,hstep⟩
  ·
   obtain ⟨_,hoff,hwait,hget⟩:=hstop w (RS.refl w)
   rcases hmd.atSema with ⟨⟨s,hs⟩,hsm,hbk⟩ | ⟨rfl,rfl,hout⟩
   ·
    subst hsm
    exact .inr (own (hwait ⟨_,hwg⟩) (DS.of_dc0 la ⟨rfl,rfl⟩) (.bk hstop) hbk (.inr ⟨rfl,by omega⟩))
   ·
    obtain ⟨g',hgo,m₂,hk⟩:=hget hwg
    exact .inr (turn (tg':=.ag) hgo (aside_setCell w (smA Wg) _) bk_sem (hwg.setSm 0) (by rw [show deafBehind 1 (semEvents (smA Wg)) = 1 by simp [deafBehind,semEvents]]; exact .ag hk) (.fin trivial hout) (by simp [rnks]))
  ·
   obtain ⟨g',w',es,hgo,hd,hg'⟩:=hstep w (RS.refl w)
   exact .inr (idle hgo hd (.sm hg') (by omega))
 | bk h=>cases hrun
 | ag h =>
  rcases Goes.cases h with hstop | ⟨m',rfl,hstep⟩
  ·
   obtain ⟨_,hx⟩:=hstop w (RS.refl w)
   obtain ⟨hout,rfl,rfl⟩:=hmd.late trivial
   obtain ⟨g',hgo,m₂,hk⟩:=hx hwg
   exact .inr (turn hgo (.refl Wg w) bk1 hwg (.ke hk) (.fin trivial hout) (by simp [rnks]))
  ·
   obtain ⟨g',w',es,hgo,hd,hg'⟩:=hstep w (RS.refl w)
   exact .inr (idle hgo hd (.ag hg') (by omega))
 | ke h =>
  rcases Goes.cases h with hstop | ⟨m',rfl,hstep⟩
  ·
   obtain ⟨_,g',hgo,m₂,hk⟩:=hstop w (RS.refl w)
   obtain ⟨hout,rfl,rfl⟩:=hmd.late trivial
   exact .inr (say hgo (.inr (.inl rfl)) (.aq hk) (.fin trivial hout) (by simp [rnks]))
  ·
   obtain ⟨g',w',es,hgo,hd,hg'⟩:=hstep w (RS.refl w)
   exact .inr (idle hgo hd (.ke hg') (by omega))
 | aq h =>
  rcases Goes.cases h with hstop | ⟨m',rfl,hstep⟩
  ·
   obtain ⟨_,g',hgo,m₂,hk⟩:=hstop w (RS.refl w)
   obtain ⟨hout,rfl,rfl⟩:=hmd.late trivial
   left
   have hc:=hcm.step0 (g:=a) (g':=g') (fn:=a.frame.fn) (pos:=a.frame.place) (fun _ _=>Left.refl w) (hcm.ph.app (.inl rfl) (adds_mk hlow (.inr (.inr (.inl rfl))))) rfl hcm.lie
   have hdf : Deaf (t ++ MemOp.ofEvents 0 a.frame.fn a.frame.place #[mk (.acquire (stA Wg))]) 0 = 0:=hc.deaf0
   have e1 : MemOp.ofEvents 0 a.frame.fn a.frame.place #[mk (.acquire (stA Wg))] = #[{ g:=0,fn:=a.frame.fn,pos:=a.frame.place,act:=.mark (.acquire (stA Wg)) }]:=by rw [ofEvents_eq]; simp [ofEvent_mk]
   have hy : (t ++ #[({ g:=0,fn:=a.frame.fn,pos:=a.frame.place,act:=.mark (.acquire (stA Wg)) } : MemOp)])[t.size]? = some { g:=0,fn:=a.frame.fn,pos:=a.frame.place,act:=.mark (.acquire (stA Wg)) }:=by simp
   refine ⟨_,_,runT_crowd_go (P:=P) (sl:=sl) (i:=0) ha (by simpa using hgo),_,w,sl,os,(fun k=>if k < N0 then q k else (D (k - N0)).fuel),l,g',rfl,Go.ConcN.get_map_set_same _ _ _ (by rw [hcm.size]; omega),hc.size,⟨m₂,hk⟩,⟨fun k z hk0 hz=>?_,fun k hk=>?_⟩,
    hc.ph.finish hdf (q:=t.size) (by rw [e1,act?_of hy]) (by rw [e1]; simp [Trace.g?]) (by rw [e1]; exact ⟨0,by simp [Trace.g?],by rw [deaf_old (Nat.le_refl _)]; exact hcm.deaf0⟩) (fun k h1 h2=>?_),hwg,hcm.chan,?_,⟨bx,hcm.lie⟩⟩
   ·
    rcases Nat.lt_or_ge k N0 with hlt | hge
    ·
     simp only [hlt,if_true]
     exact hc.old k z hk0 hlt hz
    ·
     have hkj : k < N0 + n:=by have:=(Array.getElem?_eq_some_iff.1 hz).1; rw [hc.size] at this; exact this
     obtain ⟨z',hz',hs⟩:=hc.wk (k - N0) (by omega)
     have ek : N0 + (k - N0) = k:=by omega
     rw [ek,hz] at hz'
     cases hz'
     have hdw:=hc.deafW (k - N0) (by omega)
     rw [ek] at hdw
     rw [if_neg (by omega),hdw]
     have h1:=hout (k - N0) (by omega)
     generalize (D (k - N0)).stage = s at hs h1
     generalize bx (N0 + (k - N0)) = bb at hs
     subst h1
     cases hs using Wsit.elim with
     | lib h _=>cases h with | quit h=>exact h
   ·
    exact hc.above k (by rw [hc.size] at hk; exact hk)
   ·
    obtain ⟨r,hr,hT⟩:=hcm.rel (k - N0) (by omega) (by rw [hout _ (by omega)]; omega)
    rw [show N0 + (k - N0) = k by omega] at hr
    have hlt : r < t.size:=lt_of_act? hr.act
    exact ⟨r,hr.appOther g_of_ofEvents (by omega),hT,hlt⟩
   ·
    have:=hcm.perm
    rwa [List.filter_eq_self.2 (fun i hi=>by have:=hout i (List.mem_range.1 hi); simp [this])] at this
  ·
   obtain ⟨g',w',es,hgo,hd,hg'⟩:=hstep w (RS.refl w)
   exact .inr (idle hgo hd (.aq hg') (by omega))
end
end Go.Proofs.YtkeapmmochpcfaaGreat.Wt
