/- Goroutines: SgU. -/
import Derived.Test.YtkeapmmochpcfaaGreatBun17
import Derived.Test.YtkeapmmochpcfaaGreatBun12
import Derived.Conc.SmallLaws
import Derived.Test.YtkeapmmochpcfaaGreatBun11
set_option maxRecDepth 100000
set_option maxHeartbeats 32000000
set_option linter.unusedVariables false
namespace Go.Proofs.YtkeapmmochpcfaaGreat.Sd
open Go Go.Conc Go.ConcN Go.RowKit Go.Conc.Lib Go.ConcR.Gen Go.ConcN.Gen
open Go.ConcR (KK wgBlock WgAt stA smA rd wr mk Payload DC0 ofEvent_cell)
open Wt (NoOwn Stay lay Parts AtSend AtRead AtBox Any RS DS AtGo Allots Script Fi goes_weak goes_flat)
open Nf (Adding Says Looks Swap)
set_option linter.unusedSectionVars false
variable [Payload]
section
variable {lb lo n cap Wg Ch : Nat} {xs ys : Nat → Value} {cs : List Frame}
def opsW (fz : Func:=Tryz.f30) : Array Oper:=match sq1 (restK fz) with | .region _ o _=>o | _=>#[]
def NxW (lb lo n cap Wg Ch : Nat) (xs ys : Nat → Value) (cs : List Frame) (os : List Nat) (g : Goroutine) (w : World) : Prop:=∃ T,TokT lb lo n cap Wg Ch T ∧ g = G (waitF T []) cs ∧ LF lb lo n Wg xs ys w ∧ WgLive 86 Wg w
theorem look (hlW : lb ≠ Wg) (os : List Nat) (g : Goroutine) (w : World) (h : HdW lb lo n cap Wg Ch xs ys cs os g w) :
  ∃ k,Goes Tryz.prog true (RS 86 Wg (· = lb) os) DC0 (Looks Tryz.prog (RS 86 Wg (· = lb) os) 86 Wg (HdW lb lo n cap Wg Ch xs ys cs os) (NxW lb lo n cap Wg Ch xs ys cs os)) k g w:=by
 obtain ⟨T,⟨u0,u1,u2,u3,u4,u5,u6,u7,u8,u9,u10,u11,u12,u13,u14,u15,rfl⟩,hA⟩:=h
 have hTok : TokT lb lo n cap Wg Ch (sl lb lo n cap Wg Ch n u0 u1 u2 u3 u4 u5 u6 u7 u8 u9 u10 u11 u12 u13 u14 u15):=⟨_,_,_,_,_,_,_,_,_,_,_,_,_,_,_,_,rfl⟩
 have hT : ∀ w,LF lb lo n Wg xs ys w ∧ WgLive 86 Wg w → Goes Tryz.prog true (RS 86 Wg (· = lb) os) DC0 (NxW lb lo n cap Wg Ch xs ys cs os) 0 (G (waitF (sl lb lo n cap Wg Ch n u0 u1 u2 u3 u4 u5 u6 u7 u8 u9 u10 u11 u12 (.tuple #[]) u14 u15) []) cs) w:=fun w h w₁ h₁=>by
  have h2:=LF.rely h h₁
  exact ⟨_,⟨u0,u1,u2,u3,u4,u5,u6,u7,u8,u9,u10,u11,u12,_,u14,u15,rfl⟩,rfl,h2.1,h2.2⟩
 have hdst : (opsW[0]?).bind (·.dst) = some 20:=by kernel_rfl
 have hput : (⟨sl lb lo n cap Wg Ch n u0 u1 u2 u3 u4 u5 u6 u7 u8 u9 u10 u11 u12 u13 u14 u15,[]⟩ : Act).put ((opsW[0]?).bind (·.dst)) (.tuple #[]) = ⟨sl lb lo n cap Wg Ch n u0 u1 u2 u3 u4 u5 u6 u7 u8 u9 u10 u11 u12 (.tuple #[]) u14 u15,[]⟩:=by
  rw [hdst]; rfl
 obtain ⟨k,hk⟩:=Go.Proofs.YtkeapmmochpcfaaGreat.Nf.wait_goes (b₀:=b18) (a₀:=⟨sl lb lo n cap Wg Ch n u0 u1 u2 u3 u4 u5 u6 u7 u8 u9 u10 u11 u12 u13 u14 u15,[]⟩) (ops₀:=opsW) (i₀:=0) (rest₀:=[]) (k₀:=[.code (sq2 restK)]) (cs:=cs) (Nx:=NxW lb lo n cap Wg Ch xs ys cs os) (mT:=0) (R:=RS 86 Wg (· = lb) os) (F:=LF lb lo n Wg xs ys) wgLib (fun h hr=>LF.rely h hr) (fun w x h=>LF.set hlW _ w x h) (fun w x h=>LF.set hlW _ w x h) (fun w h=>by have:=hT w h; exact (congrArg (fun a=>Goes Tryz.prog true (RS 86 Wg (· = lb) os) DC0 (NxW lb lo n cap Wg Ch xs ys cs os) 0 (G (b18.at a [.inRegion opsW [],.code (sq2 restK)]) cs) w) hput).mpr this) g w hA
 exact ⟨k,goes_to (fun g w h=>looks_to (fun g w h=>⟨_,hTok,h⟩) h) hk⟩
end
end Go.Proofs.YtkeapmmochpcfaaGreat.Sd
namespace Go.Proofs.YtkeapmmochpcfaaGreat.Sd
open Go Go.Conc Go.ConcN Go.RowKit Go.Conc.Lib Go.ConcR.Gen Go.ConcN.Gen
open Go.ConcR (KK wgBlock WgAt stA smA rd wr mk Payload DC0 ofEvent_cell)
open Wt (NoOwn Stay lay Parts AtSend AtRead AtBox Any RS DS AtGo Allots Script Fi goes_weak goes_flat)
open Nf (Adding Says Looks Swap DM)
set_option linter.unusedSectionVars false
variable [Payload]
def HX (W : World) (h : Array Obj) (w : World) : Prop:=w.heap = h ∧ w.os = W.os ∧ w.output = W.output
theorem HX.rely {W : World} {h : Array Obj} {w w₁ : World} (hh : HX W h w) (r : AtRel w w₁) : HX W h w₁:=by
 obtain ⟨d,rfl⟩:=r; exact hh
section
variable {main : Bool} {b : Frame} {a : Act} {kk : List Item} {cs : List Frame} {w : World} {ops : Array Oper} {i : Nat} {rest : List Nat} {o : Oper}
theorem und60 : Tryz.prog.underlying 76 = some (.chan .both 32):=by kernel_rfl
theorem inf27 : ∃ i,Tryz.prog.info? 32 = some i ∧ i.bytes = 48:=by
 have h : (Tryz.prog.info? 32).map (·.bytes) = some 48:=by kernel_rfl
 obtain ⟨i,h1,h2⟩:=Option.map_eq_some_iff.1 h
 exact ⟨i,h1,h2⟩
theorem chan_at {x : Operand} (ho : ops[i]? = some o) (hw : Region.wanted o (yielded ops a.tmps) = true) (hk : b.kind ≠ .early) (hop : o.op = .makeChan 76 x) {n : Nat} (hn : n < 1000000) (hx : a.eval x = .int .i64 n) :
  stepG Tryz.prog main (G (b.at a (.inRegion ops (i :: rest) :: kk)) cs) w = .go (G (b.at (a.put o.dst (.chan (some w.heap.size))) (.inRegion ops rest :: kk)) cs) (w.alloc (.chan n #[] false 0 0 false)) #[]:=by
 obtain ⟨ti,hi,hb⟩:=inf27
 have hr : (execOp a.eval o).run Tryz.prog w = .ok (.value (.chan (some w.heap.size))) (w.alloc (.chan n #[] false 0 0 false)):=by
  unfold execOp
  simp only [hop,hx]
  simp [go_sem,run_makeChan und60 hi .i64 n (by omega) (by rw [hb]; omega)]
 have he : (execOp a.eval o).events Tryz.prog w #[] = #[]:=by
  unfold execOp
  simp only [hop,hx]
  simp [go_sem,events_makeChan und60 hi .i64 n (by omega) (by rw [hb]; omega)]
 rw [stepG_value ho hw hk hr]
 unfold listed
 rw [he,seen0]
theorem allocW_at (ho : ops[i]? = some o) (hw : Region.wanted o (yielded ops a.tmps) = true) (hk : b.kind ≠ .early) (hop : o.op = .alloc 86) :
  stepG Tryz.prog main (G (b.at a (.inRegion ops (i :: rest) :: kk)) cs) w = .go (G (b.at (a.put o.dst (.pointer (some ⟨w.heap.size,0,none⟩))) (.inRegion ops rest :: kk)) cs) (w.alloc (wgBlock 86 0 0)) #[]:=by
 have hr : (execOp a.eval o).run Tryz.prog w = .ok (.value (.pointer (some ⟨w.heap.size,0,none⟩))) (w.alloc (wgBlock 86 0 0)):=by
  unfold execOp
  simp only [hop]
  simp [go_sem,Instr.alloc,newVar,newRow,Value.cells,wgBlock]
 have he : (execOp a.eval o).events Tryz.prog w #[] = #[]:=by
  unfold execOp
  simp only [hop]
  simp [go_sem,Instr.alloc,newVar,newRow,Value.cells]
 rw [stepG_value ho hw hk hr]
 unfold listed
 rw [he,seen0]
end
def sl0 (lb lo n cap : Nat) : Array Value:=#[.slice (some ⟨lb,lo,none⟩) n cap,undef,undef,undef,undef,undef,undef,undef,undef,undef,undef,undef,undef,undef,undef,undef,undef,undef,undef,undef,undef,undef,undef]
def en (lb lo n cap : Nat) (cs : List Frame) (fz : Func:=Tryz.f30) : Goroutine:=G (b18.at ⟨sl0 lb lo n cap,[]⟩ [.code (body18 fz)]) cs
def At0 (W : World) (lb lo n cap : Nat) (cs : List Frame) (h : Array Obj) (g : Goroutine) (w : World) : Prop :=
 ∃ u0 u1 u2 u3 u4 u5 u6 u7 u8 u9 u10 u11 u12 u13 u14 u15,g = hd (sl lb lo n cap (h.size + 1) h.size 0 u0 u1 u2 u3 u4 u5 u6 u7 u8 u9 u10 u11 u12 u13 u14 u15) cs ∧ HX W ((h.push (.chan n #[] false 0 0 false)).push (wgBlock 86 0 0)) w
theorem start (W : World) (lb lo n cap : Nat) (hn : n < 1000000) (cs : List Frame) (h : Array Obj) (w : World) (hH : HX W h w) : Goes Tryz.prog true AtRel DM (At0 W lb lo n cap cs h) 40 (en lb lo n cap cs) w:=by
 have hS : ∀ w u0 u1 u2 u3 u4 u5 u6 u7 u8 u9 u10 u11 u12 u13 u14 u15,HX W ((h.push (.chan n #[] false 0 0 false)).push (wgBlock 86 0 0)) w → At0 W lb lo n cap cs h (hd (sl lb lo n cap (h.size + 1) h.size 0 u0 u1 u2 u3 u4 u5 u6 u7 u8 u9 u10 u11 u12 u13 u14 u15) cs) w :=
  fun w u0 u1 u2 u3 u4 u5 u6 u7 u8 u9 u10 u11 u12 u13 u14 u15 hh=>⟨u0,u1,u2,u3,u4,u5,u6,u7,u8,u9,u10,u11,u12,u13,u14,u15,rfl,hh⟩
 refine goes_weak (D:=DE (fun _=>False)) (fun _ _ _ h=>Array.eq_empty_iff_forall_not_mem.2 h) ?_
 revert hS
 unfold en hd sl sl0
 generalize hRK : Item.code restK = RK
 intro hS
 simp only [loopB,c4,inl,sq1,sq2,body18,Tryz.f30,Option.getD_some] at hS ⊢
 u_c stepG_seq HX.rely hH
 u_reg HX.rely hH
 u_op HX.rely hH
 u_c stepG_region_end HX.rely hH
 u_c stepG_seq HX.rely hH
 u_reg HX.rely hH
 u_op HX.rely hH
 u_op HX.rely hH
 refine Goes.step rfl (fun w₁ h₁=>?_)
 replace hH:=HX.rely hH h₁
 clear h₁
 rw [chan_at rfl rfl (by decide) rfl hn rfl]
 refine ⟨fun e he=>by simp at he,?_⟩
 have hs : w₁.heap.size = h.size:=by rw [hH.1]
 rw [hs]
 have hH2 : HX W (h.push (.chan n #[] false 0 0 false)) (w₁.alloc (.chan n #[] false 0 0 false)):=by
  refine ⟨?_,hH.2⟩
  show w₁.heap.push _ = _
  rw [hH.1]
 generalize w₁.alloc (.chan n #[] false 0 0 false) = w2 at hH2 ⊢
 clear hH hs
 walk_nrm
 u_op HX.rely hH2
 u_c stepG_region_end HX.rely hH2
 u_c stepG_seq HX.rely hH2
 u_reg HX.rely hH2
 refine Goes.step rfl (fun w₃ h₃=>?_)
 replace hH2:=HX.rely hH2 h₃
 clear h₃
 rw [allocW_at rfl rfl (by decide) rfl]
 refine ⟨fun e he=>by simp at he,?_⟩
 have hs : w₃.heap.size = h.size + 1:=by rw [hH2.1]; simp
 rw [hs]
 have hH3 : HX W ((h.push (.chan n #[] false 0 0 false)).push (wgBlock 86 0 0)) (w₃.alloc (wgBlock 86 0 0)):=by
  refine ⟨?_,hH2.2⟩
  show w₃.heap.push _ = _
  rw [hH2.1]
 generalize w₃.alloc (wgBlock 86 0 0) = w4 at hH3 ⊢
 clear hH2 hs
 walk_nrm
 u_c stepG_region_end HX.rely hH3
 u_c stepG_seq HX.rely hH3
 u_c stepG_seq HX.rely hH3
 u_reg HX.rely hH3
 u_op HX.rely hH3
 u_op HX.rely hH3
 u_op HX.rely hH3
 u_c stepG_region_end HX.rely hH3
 u_c stepG_block HX.rely hH3
 u_c stepG_loop HX.rely hH3
 refine Goes.stop (fun w₅ h₅=>?_)
 replace hH3:=HX.rely hH3 h₅
 rw [← hRK] at hS
 exact hS w₅ _ _ _ _ _ _ _ _ _ _ _ _ _ _ _ _ hH3
end Go.Proofs.YtkeapmmochpcfaaGreat.Sd
namespace Go.Proofs.YtkeapmmochpcfaaGreat.Sd
open Go Go.Conc Go.ConcN Go.RowKit Go.Conc.Lib Go.ConcR.Gen Go.ConcN.Gen
open Go.ConcR (KK wgBlock WgAt stA smA rd wr mk Payload DC0 ofEvent_cell)
open Wt (NoOwn Stay lay Parts AtSend AtRead AtBox Any RS DS AtGo Allots Script Fi goes_weak goes_flat)
open Nf (Adding Says Looks Swap DM DG EvP)
set_option linter.unusedSectionVars false
variable [Payload]
section
variable {main : Bool} {b : Frame} {a : Act} {kk : List Item} {cs : List Frame} {w : World} {ops : Array Oper} {i : Nat} {rest : List Nat} {o : Oper}
theorem close_at {x : Operand} (ho : ops[i]? = some o) (hw : Region.wanted o (yielded ops a.tmps) = true) (hk : b.kind ≠ .early) (hop : o.op = .call { callee:=.builtin .close,args:=#[x],argTypes:=#[76] }) {r room s rc : Nat} {buf : Array Value} {tm : Bool} (hx : a.eval x = .chan (some r)) (h : w.heap[r]? = some (.chan room buf false s rc tm)) (hq : (Tryz.prog.funcs[b.fn]?).any (·.norace) = false) :
  stepG Tryz.prog main (G (b.at a (.inRegion ops (i :: rest) :: kk)) cs) w = .go (G (b.at (a.put o.dst (.tuple #[])) (.inRegion ops rest :: kk)) cs) { w with heap:=w.heap.setIfInBounds r (.chan room buf true s rc tm) } #[⟨.obj r,false,true⟩,⟨.obj r,true,true⟩]:=by
 have hr : (execOp a.eval o).run Tryz.prog w = .ok (.value (.tuple #[])) { w with heap:=w.heap.setIfInBounds r (.chan room buf true s rc tm) }:=by
  revert hx
  generalize a.eval = ρ
  intro hx
  unfold execOp
  simp only [hop]
  simp [go_sem,hx,run_close_open _ _ h]
 have he : (execOp a.eval o).events Tryz.prog w #[] = #[⟨.obj r,false,true⟩,⟨.obj r,true,true⟩]:=by
  clear hr
  revert hx
  generalize a.eval = ρ
  intro hx
  unfold execOp
  simp only [hop]
  simp [go_sem,hx,events_close_open _ _ h]
 rw [stepG_value ho hw hk hr]
 unfold listed
 rw [he,seen_eq hq (by simp)]
end
theorem dg0 {Shun : Loc → Prop} {w w' : World} {es : Array Event} (h : DC0 w w' es) : DG Shun w w' es:=by
 obtain ⟨rfl,rfl⟩:=h
 exact ⟨Nat.le_refl _,fun e he=>by simp at he⟩
theorem dgC {Shun : Loc → Prop} {w : World} {r : Nat} {o : Obj} (hr : r < w.heap.size) : DG Shun w { w with heap:=w.heap.setIfInBounds r o } #[⟨.obj r,false,true⟩,⟨.obj r,true,true⟩]:=by
 refine ⟨by simp,fun e he=>?_⟩
 simp at he
 rcases he with rfl | rfl
 ·
  refine ⟨fun x hx=>?_,by simp,by simp⟩
  simp [MemAct.ofEvent,MemAct.touch?] at hx
  subst hx
  simp [Loc.low,hr]
 ·
  refine ⟨fun x hx=>?_,by simp,by simp⟩
  simp [MemAct.ofEvent,MemAct.touch?] at hx
theorem goes_heap {P : Program} {m : Bool} {S : Goroutine → World → Prop} {W : World} {h : Array Obj} : ∀ {n : Nat} {g : Goroutine} {w : World},HX W h w → Goes P m AtRel DC0 S n g w → Goes P m AtRel DC0 (fun g w=>S g w ∧ HX W h w) n g w
 | 0,g,w,hh,H=>fun w₁ h₁=>⟨H w₁ h₁,hh.rely h₁⟩
 | n + 1,g,w,hh,H=>H.imp (fun H w₁ h₁=>⟨H w₁ h₁,hh.rely h₁⟩) fun ⟨hr,H⟩=>⟨hr,fun w₁ h₁=>by
   have:=H w₁ h₁
   have hh':=hh.rely h₁
   revert this
   cases stepG P m g w₁ with
   | go g' w' es=>exact fun ⟨a,b⟩=>⟨a,goes_heap (by rw [a.1]; exact hh') b⟩
   | _=>exact id⟩
theorem goes_rel {P : Program} {m : Bool} {R R' : World → World → Prop} {D : World → World → Array Event → Prop} {S : Goroutine → World → Prop} (hR : ∀ w w₁,R' w w₁ → R w w₁) : ∀ {n : Nat} {g : Goroutine} {w : World},Goes P m R D S n g w → Goes P m R' D S n g w
 | 0,g,w,H=>fun w₁ h₁=>H w₁ (hR _ _ h₁)
 | n + 1,g,w,H=>H.imp (fun H w₁ h₁=>H w₁ (hR _ _ h₁)) fun ⟨hr,H⟩=>⟨hr,fun w₁ h₁=>by
   have:=H w₁ (hR _ _ h₁)
   revert this
   cases stepG P m g w₁ with
   | go g' w' es=>exact fun ⟨a,b⟩=>⟨a,goes_rel hR b⟩
   | _=>exact id⟩
section
variable {lb lo n cap Wg Ch : Nat} {b₀ : Frame} {a₀ : Act} {ops : Array Oper} {i : Nat} {rest : List Nat} {k : List Item} {cs : List Frame} {Shun : Loc → Prop}
theorem fin (W : World) (T : Array Value) (hT : TokT lb lo n cap Wg Ch T) (h : Array Obj) {room s rc : Nat} {buf : Array Value} {tm : Bool} (hc : h[Ch]? = some (.chan room buf false s rc tm)) (w : World) (hH : HX W h w) :
  Goes Tryz.prog true AtRel (DG Shun) (fun g w=>g = G (b₀.at (a₀.put ((ops[i]?).bind (·.dst)) (.chan (some Ch))) (.inRegion ops rest :: k)) cs ∧ HX W (h.setIfInBounds Ch (.chan room buf true s rc tm)) w) (10 + 20) (G (waitF T []) (b₀.at a₀ (.inRegion ops (i :: rest) :: k) :: cs)) w:=by
 obtain ⟨u0,u1,u2,u3,u4,u5,u6,u7,u8,u9,u10,u11,u12,u13,u14,u15,rfl⟩:=hT
 have hat : ∀ w,AtRel w w:=fun w=>⟨w.drawn,rfl⟩
 refine goes_flat hat (goes_weak (fun _ _ _ h=>dg0 h) ?_)
 unfold waitF
 simp only [restK,c4,sq1,sq2,body18,Tryz.f30,Option.getD_some,sl]
 u_c stepG_region_end HX.rely hH
 u_c stepG_seq HX.rely hH
 u_reg HX.rely hH
 u_op HX.rely hH
 refine Goes.stop (fun w₁ h₁=>?_)
 replace hH:=HX.rely hH h₁
 clear h₁
 refine Goes.step rfl (fun w₂ h₂=>?_)
 replace hH:=HX.rely hH h₂
 clear h₂
 rw [close_at rfl rfl (by decide) rfl rfl (by rw [hH.1]; exact hc) loud18]
 have hlt : Ch < w₂.heap.size:=by rw [hH.1]; exact (Array.getElem?_eq_some_iff.1 hc).1
 refine ⟨dgC hlt,?_⟩
 have hH2 : HX W (h.setIfInBounds Ch (.chan room buf true s rc tm)) { w₂ with heap:=w₂.heap.setIfInBounds Ch (.chan room buf true s rc tm) }:=by
  refine ⟨?_,hH.2⟩
  show w₂.heap.setIfInBounds _ _ = _
  rw [hH.1]
 generalize ({ w₂ with heap:=w₂.heap.setIfInBounds Ch (.chan room buf true s rc tm) } : World) = w3 at hH2 ⊢
 clear hH hlt
 refine goes_weak (fun _ _ _ h=>dg0 h) ?_
 walk_nrm
 u_c stepG_region_end HX.rely hH2
 u_c stepG_seq HX.rely hH2
 u_reg HX.rely hH2
 u_op HX.rely hH2
 u_op HX.rely hH2
 u_c stepG_region_end HX.rely hH2
 u_c stepG_ret' HX.rely hH2
 u_leave1 Tryz.func30 HX.rely hH2
 refine Goes.stop (fun w₅ h₅=>⟨rfl,HX.rely hH2 h₅⟩)
end
end Go.Proofs.YtkeapmmochpcfaaGreat.Sd
namespace Go.Proofs.YtkeapmmochpcfaaGreat.Sd
open Go Go.Conc Go.ConcN Go.RowKit Go.Conc.Lib Go.ConcR.Gen Go.ConcN.Gen
open Go.ConcR (KK wgBlock WgAt stA smA rd wr mk Payload DC0 ofEvent_cell)
open Wt (NoOwn Stay lay Parts AtSend AtRead AtBox Any RS DS AtGo Allots Script Fi goes_weak goes_flat)
open Nf (Adding Says Looks Swap DM DG EvP Pst walk_mute walk_pst InB run_trans)
set_option linter.unusedSectionVars false
variable [Payload]
theorem hd_run {lb lo n cap Wg Ch : Nat} {xs ys : Nat → Value} {cs : List Frame} {os : List Nat} {g : Goroutine} {w : World} (h : HdW lb lo n cap Wg Ch xs ys cs os g w) : g.status = .running:=by
 obtain ⟨T,_,T',rfl,_⟩:=h
 rfl
section
variable {lb lo n cap : Nat} {xs ys : Nat → Value} {b₀ : Frame} {a₀ : Act} {ops : Array Oper} {i : Nat} {rest : List Nat} {k : List Item} {cs : List Frame} {Shun : Loc → Prop} {gs : Array Goroutine} {w : World} {s : Option (Nat × Nat)} {t : Trace} {q : Nat → Nat} {B : Nat}
theorem said_run (hn : n < 1000000) (hg : gs[0]? = some (en lb lo n cap (b₀.at a₀ (.inRegion ops (i :: rest) :: k) :: cs))) (hL : Leavers Tryz.prog t gs q) (hP : Pst Shun B t) (hB : B ≤ w.heap.size) (hlb : lb < w.heap.size)
  (hsh : ∀ l,Shun l → ∃ a : Addr,l = .cell a ∧ a.block < w.heap.size ∧ ¬ a.block = lb)
  (hx : ∀ j,j < n → w.cell? ⟨lb,lo + j * 2,none⟩ = some (xs j)) (hy : ∀ j,j < n → w.cell? ⟨lb,lo + j * 2 + 1,none⟩ = some (ys j))
  (hxs : ∀ j,j < n → ∃ p l q,xs j = .slice p l q) (hys : ∀ j,j < n → ∃ p l q,ys j = .slice p l q) :
  ∃ (N : Nat) (gs' : Array Goroutine) (w' : World) (s' : Option (Nat × Nat)) (t' : Trace) (q' : Nat → Nat) (l : List Nat),runNT Tryz.prog N (crowd gs w s) t = (.next (crowd gs' w' s'),t') ∧ gs'.size = gs.size + n ∧
   gs'[0]? = some (G (b₀.at (a₀.put ((ops[i]?).bind (·.dst)) (.chan (some w.heap.size))) (.inRegion ops rest :: k)) cs) ∧ Leavers Tryz.prog t' gs' q' ∧ Pst (fun l=>Shun l ∨ InB (w.heap.size + 1) l) w'.heap.size t' ∧
   (∃ tm,w'.heap[w.heap.size]? = some (.chan n (l.map fun j=>rep (xs j) (ys j)).toArray true l.length 0 tm)) ∧ l.Perm (List.range n) ∧ (∀ b,b < w.heap.size → w'.heap[b]? = w.heap[b]?) ∧ w.heap.size + 2 ≤ w'.heap.size ∧ w'.os = w.os ∧ w'.output = w.output ∧ ∃ c e,w'.heap[w.heap.size + 1]? = some (.cells c e (0,0)) ∧ 0 < c.size:=by
 obtain ⟨k1,gs1,g1,w1,s1,t1,q1,e1,z1,h1,⟨u0,u1,u2,u3,u4,u5,u6,u7,u8,u9,u10,u11,u12,u13,u14,u15,rfl,hH⟩,hL1,hP1⟩ :=
  walk_mute (B:=B) (Shun:=Shun) (Stop:=At0 w lb lo n cap (b₀.at a₀ (.inRegion ops (i :: rest) :: k) :: cs) w.heap) (fun g w h=>by obtain ⟨_,_,_,_,_,_,_,_,_,_,_,_,_,_,_,_,rfl,_⟩:=h; rfl) 40 _ gs _ w s t q (Nat.le_refl _) hg hL hP (start w lb lo n cap hn _ w.heap w ⟨rfl,rfl,rfl⟩)
 have hsz : w1.heap.size = w.heap.size + 2:=by rw [hH.1]; simp
 have hold : ∀ b,b < w.heap.size → w1.heap[b]? = w.heap[b]?:=fun b hb=>by rw [hH.1,Array.getElem?_push,if_neg (by simp; omega),Array.getElem?_push,if_neg (by omega)]
 have hch : w1.heap[w.heap.size]? = some (.chan n #[] false 0 0 false):=by rw [hH.1,Array.getElem?_push,if_neg (by simp)]; simp
 have hwg : WgAt 86 (w.heap.size + 1) w1 0 0:=by show w1.heap[w.heap.size + 1]? = _; rw [hH.1,Array.getElem?_push,if_pos (by simp)]
 have hF : LF lb lo n (w.heap.size + 1) xs ys w1 ∧ WgLive 86 (w.heap.size + 1) w1:=⟨⟨fun j hj=>(cell_blk (hold lb hlb) _).trans (hx j hj),fun j hj=>(cell_blk (hold lb hlb) _).trans (hy j hj)⟩,⟨_,_,hwg⟩⟩
 have hsc:=script_head (cap:=cap) (Ch:=w.heap.size) (cs:=b₀.at a₀ (.inRegion ops (i :: rest) :: k) :: cs) hn (by omega) hxs hys u0 u1 u2 u3 u4 u5 u6 u7 u8 u9 u10 u11 u12 u13 u14 u15 w1 hF
 obtain ⟨k2,m2,t2,e2,gs2,w2,s2,os,q2,l,g2,rfl,h2,z2,⟨k3,hgo⟩,hL2,hP2,hwg2,⟨tm,hch2⟩,hl,bx,hlie⟩ :=
  Go.Proofs.YtkeapmmochpcfaaGreat.Wt.phase_run (sl:=s1) (cap:=n) (Nx:=NxW lb lo n cap (w.heap.size + 1) w.heap.size xs ys (b₀.at a₀ (.inRegion ops (i :: rest) :: k) :: cs)) (fun os g w h=>hd_run h) (by omega) (Nat.le_refl n) (fun l hl=>by obtain ⟨a,e,h1,h2⟩:=hsh l hl; exact ⟨a,e,by omega,h2⟩)
   (fun os g w h=>look (by omega) os g w h) h1 hL1 hP1 (by omega) (by omega) hwg hch (by omega) (by omega) (by omega) (fun b hb=>by subst hb; omega) hsc
 have hgo2 : Goes Tryz.prog true AtRel (DG fun l=>Shun l ∨ InB (w.heap.size + 1) l) (fun g' w'=>g' = G (b₀.at (a₀.put ((ops[i]?).bind (·.dst)) (.chan (some w.heap.size))) (.inRegion ops rest :: k)) cs ∧ HX w2 (w2.heap.setIfInBounds w.heap.size (.chan n (l.map fun j=>rep (xs j) (ys j)).toArray true l.length 0 tm)) w') (k3 + (10 + 20)) g2 w2:=by
  refine goes_flat (fun w=>⟨w.drawn,rfl⟩) ?_
  refine goes_to (fun g w h=>?_) (goes_weak (fun _ _ _ h=>dg0 h) (goes_heap (W:=w2) (h:=w2.heap) ⟨rfl,rfl,rfl⟩ (goes_rel (fun w w₁ ⟨d,e⟩=>by rw [e]; exact Go.Proofs.YtkeapmmochpcfaaGreat.Wt.RS.at w d) hgo)))
  obtain ⟨⟨T,hT,rfl,_⟩,hh⟩:=h
  exact fin w2 T hT w2.heap hch2 w hh
 obtain ⟨k4,gs4,g4,w4,s4,t4,q4,e4,z4,h4,⟨rfl,hH4⟩,hL4,hP4⟩:=walk_pst (Shun:=fun l=>Shun l ∨ InB (w.heap.size + 1) l) (fun g w h=>by rw [h.1]; rfl) _ _ gs2 g2 w2 s2 t2 q2 (Nat.le_refl _) h2 hL2 hP2 hgo2
 have hlt2 : w.heap.size < w2.heap.size:=(Array.getElem?_eq_some_iff.1 hch2).1
 refine ⟨_,gs4,w4,s4,t4,q4,l,run_trans (run_trans e1 e2) e4,by rw [z4,z2,z1],h4,hL4,hP4,⟨tm,?_⟩,hl,fun b hb=>?_,?_,?_,?_,?_⟩
 ·
  rw [hH4.1,Array.getElem?_setIfInBounds_self_of_lt hlt2]
 ·
  rw [hH4.1,Array.getElem?_setIfInBounds_ne (by omega),hlie.base b (by omega) (by omega) (by omega)]
  exact hold b hb
 ·
  have:=hlie.size
  rw [hH4.1,Array.size_setIfInBounds]
  omega
 ·
  rw [hH4.2.1,hlie.sys.1,hH.2.1]
 ·
  rw [hH4.2.2,hlie.sys.2,hH.2.2]
 ·
  rw [hH4.1,Array.getElem?_setIfInBounds_ne (by omega)]
  exact ⟨_,_,hwg2,by simp⟩
end
end Go.Proofs.YtkeapmmochpcfaaGreat.Sd
namespace Go.Proofs.YtkeapmmochpcfaaGreat.Sd
open Go Go.Conc Go.ConcN Go.RowKit Go.Conc.Lib Go.ConcR.Gen Go.ConcN.Gen
open Go.ConcR (KK wgBlock WgAt stA smA rd wr mk Payload DC0 ofEvent_cell)
open Nf (Pst InB run_trans Here Of Pz on Bel)
set_option linter.unusedSectionVars false
variable [Payload]
theorem of_more (B : Nat → Prop) (c : Nat) : (fun l=>Of B l ∨ InB c l) = Of (fun b=>B b ∨ b = c):=by
 funext l
 refine propext ⟨?_,?_⟩
 ·
  rintro (⟨a,rfl,h⟩ | ⟨a,rfl,h⟩)
  ·
   exact ⟨a,rfl,.inl h⟩
  ·
   exact ⟨a,rfl,.inr h⟩
 ·
  rintro ⟨a,rfl,h | h⟩
  ·
   exact .inl ⟨a,rfl,h⟩
  ·
   exact .inr ⟨a,rfl,h⟩
theorem cell_real {B : Nat → Prop} {w v : World} (hz : Pz B w (on v w.tape w.drawn)) {a : Addr} {x : Value} (h : v.cell? a = some x) : w.cell? a = some x:=by
 have hb : ¬ B a.block:=fun hB=>by
  have h1 : v.heap[a.block]? = some Go.Proofs.YtkeapmmochpcfaaGreat.Nf.poison:=(hz.bad _ hB).1
  unfold World.cell? at h
  rw [h1] at h
  cases h
 have h1 : v.heap[a.block]? = w.heap[a.block]?:=hz.heap _ hb
 unfold World.cell? at h ⊢
 rw [← h1]
 exact h
theorem here_said {m0 : Machine} {B : Nat → Prop} {lb lo n cap : Nat} {xs ys : Nat → Value} {b₀ : Frame} {a₀ : Act} {ops : Array Oper} {i : Nat} {rest : List Nat} {k : List Item} {cs : List Frame} {v w : World} (hn : n < 1000000) (h0 : 0 < n)
  (h : Here Tryz.prog m0 B (en lb lo n cap (b₀.at a₀ (.inRegion ops (i :: rest) :: k) :: cs)) w) (hz : Pz B w (on v w.tape w.drawn))
  (hx : ∀ j,j < n → v.cell? ⟨lb,lo + j * 2,none⟩ = some (xs j)) (hy : ∀ j,j < n → v.cell? ⟨lb,lo + j * 2 + 1,none⟩ = some (ys j))
  (hxs : ∀ j,j < n → ∃ p l q,xs j = .slice p l q) (hys : ∀ j,j < n → ∃ p l q,ys j = .slice p l q) :
  ∃ (w' v' : World) (B' : Nat → Prop) (l : List Nat) (tm : Bool),Here Tryz.prog m0 B' (G (b₀.at (a₀.put ((ops[i]?).bind (·.dst)) (.chan (some v.heap.size))) (.inRegion ops rest :: k)) cs) w' ∧ Pz B' w' (on v' w'.tape w'.drawn) ∧
   v'.heap[v.heap.size]? = some (.chan n (l.map fun j=>rep (xs j) (ys j)).toArray true l.length 0 tm) ∧ l.Perm (List.range n) ∧ Bel v.heap.size v v' ∧ ∀ b,B' b → B b ∨ v.heap.size ≤ b:=by
 obtain ⟨N,gs,sl,t,q,e,hg,hL,hP⟩:=h.run
 have hvs : v.heap.size = w.heap.size:=hz.size
 have c0:=cell_real hz (hx 0 h0)
 have hlb : lb < w.heap.size:=World.block_lt_of_cell? w _ c0
 have hBlb : ¬ B lb:=fun hB=>by
  have h1 : v.heap[lb]? = some Go.Proofs.YtkeapmmochpcfaaGreat.Nf.poison:=(hz.bad _ hB).1
  have h2:=hx 0 h0
  unfold World.cell? at h2
  rw [h1] at h2
  cases h2
 obtain ⟨k1,gs',w',s',t',q',l,e',_,hg',hL',hP',⟨tm,hch⟩,hl,hold,hsz,hos,hout,hwg⟩:=said_run hn hg hL hP (Nat.le_refl _) hlb
  (fun l ⟨a,ha,hB⟩=>⟨a,ha,by obtain ⟨x,y,h1,_⟩:=(hz.bad _ hB).2; exact (Array.getElem?_eq_some_iff.1 h1).1,fun e=>hBlb (e ▸ hB)⟩)
  (fun j hj=>cell_real hz (hx j hj)) (fun j hj=>cell_real hz (hy j hj)) hxs hys
 obtain ⟨v',hz',hb',hnew⟩:=hz.more (c:=w.heap.size + 1) (by omega) (by omega) hold hos hout hwg
 refine ⟨w',v',fun b=>B b ∨ b = w.heap.size + 1,l,tm,⟨_,gs',s',t',q',run_trans e e',?_,hL',?_⟩,hz',?_,hl,hb',fun b hb=>hb.imp id (fun e=>by omega)⟩
 ·
  rw [hvs]; exact hg'
 ·
  rw [← of_more]; exact hP'
 ·
  rw [hnew _ (Nat.le_refl _) (by omega),hvs]
  exact hch
end Go.Proofs.YtkeapmmochpcfaaGreat.Sd
