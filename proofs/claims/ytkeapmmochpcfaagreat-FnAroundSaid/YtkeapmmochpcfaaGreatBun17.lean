/- The library's functions of sync.WaitGroup under this program's numbers. -/
import Derived.Test.YtkeapmmochpcfaaGreatChecked
import Derived.Conc.WgGenN3
import Derived.Test.YtkeapmmochpcfaaGreatBun16
import Derived.DyingErrors
import Derived.Test.YtkeapmmochpcfaaGreatBun15
set_option maxRecDepth 100000
set_option maxHeartbeats 32000000
set_option linter.unusedVariables false
namespace Go.Proofs.YtkeapmmochpcfaaGreat.Sd
open Go.Conc Go.Conc.Lib
abbrev link : WgLink:={ add:=56,done:=91,wait:=58,relMerge:=78,disable:=79,enable:=80,inBubble:=81,associate:=82,fatal:=83,uOr:=84,uAdd:=85,raceRead:=86,uLoad:=87,uStore:=88,disassociate:=89,semrelease:=90,acquire:=92,isAssociated:=93,uCas:=94,raceWrite:=95,semacquire:=96,orU64:=110,addU64:=111,loadU64:=112,storeU64:=113,casU64:=114,tWgP:=89,tUP:=109,tAssoc:=111,tWg:=86,tAU:=83,tU64:=81,tUint:=115,tU32:=84,tPU32:=116,tPAU:=134,tPU64:=136,tNoCopy:=78,tANoCopy:=79,tAlign64:=80 }
theorem wgLib : WgLib Tryz.prog link :=
 ⟨Tryz.func56,Tryz.func91,Tryz.func58,Tryz.func78,Tryz.func79,Tryz.func80,Tryz.func81,Tryz.func82,Tryz.func83,Tryz.func84,Tryz.func85,Tryz.func86,Tryz.func87,Tryz.func88,Tryz.func89,Tryz.func90,Tryz.func92,Tryz.func93,Tryz.func94,Tryz.func95,Tryz.func96,Tryz.func110,Tryz.func111,Tryz.func112,Tryz.func113,Tryz.func114,Tryz.underlying89,Tryz.runUnderlying89,Tryz.sizeOf89,Tryz.isAgg89,Tryz.zeroValue89,Tryz.underlying109,Tryz.runUnderlying109,Tryz.sizeOf109,Tryz.isAgg109,Tryz.zeroValue109,Tryz.underlying111,Tryz.runUnderlying111,Tryz.sizeOf111,Tryz.isAgg111,Tryz.zeroValue111,Tryz.underlying86,Tryz.runUnderlying86,Tryz.sizeOf86,Tryz.isAgg86,Tryz.zeroValue86,Tryz.underlying83,Tryz.runUnderlying83,Tryz.sizeOf83,Tryz.isAgg83,Tryz.zeroValue83,Tryz.underlying81,Tryz.runUnderlying81,Tryz.sizeOf81,Tryz.isAgg81,Tryz.zeroValue81,Tryz.underlying115,Tryz.runUnderlying115,Tryz.sizeOf115,Tryz.isAgg115,Tryz.zeroValue115,Tryz.underlying84,Tryz.runUnderlying84,Tryz.sizeOf84,Tryz.isAgg84,Tryz.zeroValue84,Tryz.underlying116,Tryz.runUnderlying116,Tryz.sizeOf116,Tryz.isAgg116,Tryz.zeroValue116,Tryz.underlying134,Tryz.runUnderlying134,Tryz.sizeOf134,Tryz.isAgg134,Tryz.zeroValue134,Tryz.underlying136,Tryz.runUnderlying136,Tryz.sizeOf136,Tryz.isAgg136,Tryz.zeroValue136,Tryz.underlying0,Tryz.runUnderlying0,Tryz.sizeOf0,Tryz.isAgg0,Tryz.zeroValue0,Tryz.underlying3,Tryz.runUnderlying3,Tryz.sizeOf3,Tryz.isAgg3,Tryz.zeroValue3,Tryz.underlying4,Tryz.runUnderlying4,Tryz.sizeOf4,Tryz.isAgg4,Tryz.zeroValue4,Tryz.underlying9,Tryz.runUnderlying9,Tryz.sizeOf9,Tryz.isAgg9,Tryz.zeroValue9,Tryz.underlying20,Tryz.runUnderlying20,Tryz.sizeOf20,Tryz.isAgg20,Tryz.zeroValue20,Tryz.underlying21,Tryz.runUnderlying21,Tryz.sizeOf21,Tryz.isAgg21,Tryz.zeroValue21,(by kernel_rfl),(by kernel_rfl)⟩
end Go.Proofs.YtkeapmmochpcfaaGreat.Sd
namespace Go.Proofs.YtkeapmmochpcfaaGreat.Sd
open Go Go.Proofs.YtkeapmmochpcfaaGreat.Nf
set_option maxRecDepth 100000
theorem rt1 : RuntimeText Tryz.prog Tryz.prog.rt.boundsError:=⟨fun _=>by kernel_rfl,⟨117,Tryz.f117,fun _ _=>by kernel_rfl,Tryz.func117,by kernel_rfl,by kernel_rfl⟩,fun _=>by kernel_rfl⟩
theorem rt2 : RuntimeText Tryz.prog Tryz.prog.rt.errorString:=⟨fun _=>by kernel_rfl,⟨119,Tryz.f119,fun _ _=>by kernel_rfl,Tryz.func119,by kernel_rfl,by kernel_rfl⟩,fun _=>by kernel_rfl⟩
theorem rt3 : RuntimeText Tryz.prog Tryz.prog.rt.plainError:=⟨fun _=>by kernel_rfl,⟨121,Tryz.f121,fun _ _=>by kernel_rfl,Tryz.func121,by kernel_rfl,by kernel_rfl⟩,fun _=>by kernel_rfl⟩
theorem rt6 : RuntimeText Tryz.prog Tryz.prog.rt.unhashableTypeError:=⟨fun _=>by kernel_rfl,⟨131,Tryz.f131,fun _ _=>by kernel_rfl,Tryz.func131,by kernel_rfl,by kernel_rfl⟩,fun _=>by kernel_rfl⟩
theorem rt4 : RuntimeText Tryz.prog Tryz.prog.rt.typeAssertionError:=⟨fun _=>by kernel_rfl,⟨125,Tryz.f125,fun _ _=>by kernel_rfl,Tryz.func125,by kernel_rfl,by kernel_rfl⟩,fun _=>by kernel_rfl⟩
theorem rt5 : RuntimeText Tryz.prog Tryz.prog.rt.panicNilError:=⟨fun _=>by kernel_rfl,⟨127,Tryz.f127,fun _ _=>by kernel_rfl,Tryz.func127,by kernel_rfl,by kernel_rfl⟩,fun _=>by kernel_rfl⟩
theorem quiets : Quiets Tryz.prog:=by
 intro t ht x
 simp only [rtTs,List.mem_cons,List.not_mem_nil,or_false] at ht
 rcases ht with rfl | rfl | rfl | rfl | rfl | rfl
 ·
  exact rt1.noEnter _ _
 ·
  exact rt2.noEnter _ _
 ·
  exact rt3.noEnter _ _
 ·
  exact rt4.noEnter _ _
 ·
  exact rt5.noEnter _ _
 ·
  exact rt6.noEnter _ _
end Go.Proofs.YtkeapmmochpcfaaGreat.Sd
namespace Go.Proofs.YtkeapmmochpcfaaGreat.Sd
open Go Go.Conc Go.ConcN Go.RowKit Go.Conc.Lib Go.ConcR.Gen Go.ConcN.Gen
open Go.ConcR (KK wgBlock WgAt stA smA rd wr mk Payload DC0 ofEvent_cell)
open Wt (NoOwn Stay lay Parts AtSend AtRead AtBox Any)
set_option linter.unusedSectionVars false
variable [Payload]
def bS : Frame:=baseD 57
def bot (fz : Nat:=Tryz.prog.funcs.size) : Frame:={ (default : Frame) with fn:=fz,defers:=[],mode:=.panicking [goexitEntry] }
def bodyS (fz : Func:=Tryz.f57) : Code:=fz.body.getD .skip
def rep (x y : Value) : Value:=.agg #[x,y]
def call37 (x y : Value) (Ch Wg : Nat) : Deferred:={ target:=.fn (.func 57) #[],args:=#[rep x y,.chan (some Ch),.pointer (some ⟨Wg,0,none⟩)] }
theorem anyR {w w₁ : World} (h : True) (_ : Any w w₁) : True:=trivial
theorem born_step (x y : Value) (Ch Wg : Nat) (w : World) : stepG Tryz.prog false (born Tryz.prog (call37 x y Ch Wg)) w =
  .go (G (bS.at ⟨#[rep x y,.chan (some Ch),.pointer (some ⟨Wg,0,none⟩),undef,undef,undef,undef,undef,undef],[]⟩ [.code bodyS]) [bot]) w #[]:=by
 simp [born,call37,stepG,unwind,callDeferred,invoke,callFunc,Tryz.func57,Tryz.f57,seen,GStep.after,G,Frame.enter,Frame.at,bS,baseD,bot,bodyS]
theorem quitsTail (T : Array Value) : QuitsD Tryz.prog 2 0 (G { bS.at ⟨T,[]⟩ [] with mode:=.returning } [bot]):=by
 refine QuitsD.ctl (g':=G bot []) rfl (fun w=>?_) ?_
 ·
  simp [G,stepG,unwind,doReturn,results,Frame.at,bS,baseD,bot,Tryz.func57,Tryz.f57,seen,GStep.after,goexitEntry]
 refine QuitsD.ctl (g':={ G bot [] with status:=.finished }) rfl (fun w=>?_) ⟨rfl,rfl⟩
 simp [G,stepG,unwind,bot,goexitEntry,Frame.catches]
 rfl
structure Bx (b : Nat) (x y : Value) (w : World) : Prop where
 blk : ∃ e z,w.heap[b]? = some (.cells #[x,y] e z)
theorem Bx.rely {b : Nat} {x y : Value} {w w₁ : World} (h : Bx b x y w) (hs : Stay b w w₁) : Bx b x y w₁:=by
 obtain ⟨e,z,hb⟩:=h.blk
 exact ⟨e,z,Eq.trans hs hb⟩
theorem Bx.c0 {b : Nat} {x y : Value} {w : World} (h : Bx b x y w) : w.cell? ⟨b,0,none⟩ = some x:=by
 obtain ⟨e,z,hb⟩:=h.blk
 simp [World.cell?,hb]
theorem Bx.c1 {b : Nat} {x y : Value} {w : World} (h : Bx b x y w) : w.cell? ⟨b,1,none⟩ = some y:=by
 obtain ⟨e,z,hb⟩:=h.blk
 simp [World.cell?,hb]
section
variable {main : Bool} {b : Frame} {a : Act} {kk : List Item} {cs : List Frame} {w : World} {ops : Array Oper} {i : Nat} {rest : List Nat} {o : Oper}
theorem seen0 (fn : FuncId) : seen Tryz.prog fn #[] = #[]:=by simp [seen]
theorem box_step {x : Operand} (ho : ops[i]? = some o) (hw : Region.wanted o (yielded ops a.tmps) = true) (hk : b.kind ≠ .early) (hop : o.op = .box 32 x) {p q : Value} (hx : a.eval x = .agg #[p,q]) :
  stepG Tryz.prog main (G (b.at a (.inRegion ops (i :: rest) :: kk)) cs) w = .go (G (b.at (a.put o.dst (.pointer (some ⟨w.heap.size,0,none⟩))) (.inRegion ops rest :: kk)) cs) (lay w (.cells #[p,q] 32)) #[]:=by
 have hr : (execOp a.eval o).run Tryz.prog w = .ok (.value (.pointer (some ⟨w.heap.size,0,none⟩))) (lay w (.cells #[p,q] 32)):=by
  unfold execOp
  simp only [hop,hx]
  simp [go_sem,Instr.box,newVar,newRow,Value.cells,lay]
 have he : (execOp a.eval o).events Tryz.prog w #[] = #[]:=by
  unfold execOp
  simp only [hop,hx]
  simp [go_sem,Instr.box,newVar,newRow,Value.cells]
 rw [stepG_value ho hw hk hr]
 unfold listed
 rw [he,seen0]
theorem load_step {x : Operand} (ho : ops[i]? = some o) (hw : Region.wanted o (yielded ops a.tmps) = true) (hk : b.kind ≠ .early) (hop : o.op = .load 32 x) {c : Nat} {p q : Value} (hx : a.eval x = .pointer (some ⟨c,0,none⟩))
  (h0 : w.cell? ⟨c,0,none⟩ = some p) (h1 : w.cell? ⟨c,1,none⟩ = some q) (hq : (Tryz.prog.funcs[b.fn]?).any (·.norace) = false) :
  stepG Tryz.prog main (G (b.at a (.inRegion ops (i :: rest) :: kk)) cs) w = .go (G (b.at (a.put o.dst (.agg #[p,q])) (.inRegion ops rest :: kk)) cs) w #[⟨.cell ⟨c,0,none⟩,false,false⟩,⟨.cell ⟨c,1,none⟩,false,false⟩]:=by
 have hr : (execOp a.eval o).run Tryz.prog w = .ok (.value (.agg #[p,q])) w:=by
  unfold execOp
  simp only [hop,hx]
  simp [go_sem,h0,h1]
 have he : (execOp a.eval o).events Tryz.prog w #[] = #[⟨.cell ⟨c,0,none⟩,false,false⟩,⟨.cell ⟨c,1,none⟩,false,false⟩]:=by
  unfold execOp
  simp only [hop,hx]
  simp [go_sem,h0,h1]
 rw [stepG_value ho hw hk hr]
 unfold listed
 rw [he,seen_eq hq (by simp)]
theorem send_step {x y : Operand} (ho : ops[i]? = some o) (hw : Region.wanted o (yielded ops a.tmps) = true) (hk : b.kind ≠ .early) (hop : o.op = .send x y) {c : Nat} {v : Value} (hx : a.eval x = .chan (some c)) (hy : a.eval y = v) :
  stepG Tryz.prog main (G (b.at a (.inRegion ops (i :: rest) :: kk)) cs) w = .comm (G (b.at a (.inRegion ops (i :: rest) :: kk)) cs) #[scase c v (.tuple #[])] true .send w #[]:=by
 have hr : (execOp a.eval o).run Tryz.prog w = .ok (.comm #[scase c v (.tuple #[])] true .send) w:=by
  unfold execOp
  simp only [hop,hx,hy]
  rfl
 have he : (execOp a.eval o).events Tryz.prog w #[] = #[]:=by
  unfold execOp
  simp only [hop,hx,hy]
  rfl
 rw [stepG_comm ho hw hk hr]
 unfold listed
 rw [he,seen0]
end
theorem loudS : (Tryz.prog.funcs[bS.fn]?).any (·.norace) = false:=by kernel_rfl
theorem knR {b : Nat} {x y : Value} {w w₁ : World} (h : Bx b x y w) (hs : Stay b w w₁) : Bx b x y w₁:=h.rely hs
theorem parts_of (x y : Value) (Ch Wg bb : Nat) (T : Array Value) (k : List Item) (hk : k = []) (ops : Array Oper) : Parts Tryz.prog 86 Wg x bb (G (bS.at ⟨T,[dcall 91 #[.pointer (some ⟨Wg,0,none⟩)]]⟩ [.inRegion ops []]) [bot]):=by
 refine ⟨26,fun w hl hh=>?_⟩
 have hK:=And.intro hl hh
 u_c stepG_region_end kn_rely hK
 u_c stepG_end kn_rely hK
 u_in kn_rely hK
 rw [stepG_unwind_enter rfl Tryz.func91 (nm_done link) rfl]
 simp only [goes_go]
 refine ⟨by u_nil,?_⟩
 have hA:=@doneN _ link Tryz.prog wgLib NoOwn NoOwn Wg bb 1 0 1 x
 simp only [body_done,doneFn,Option.getD_some] at hA
 exact hA rfl (quitsTail _) _ hK
theorem child_goes (x y : Value) (Ch Wg : Nat) (w : World) : ∃ m,Goes Tryz.prog false Any DC0 (AtBox Tryz.prog 86 Wg Ch (rep x y) x) m (born Tryz.prog (call37 x y Ch Wg)) w:=by
 have hF : True:=trivial
 refine ⟨20,Goes.step rfl fun w₁ h₁=>?_⟩
 clear h₁
 rw [born_step]
 refine ⟨by u_nil,?_⟩
 simp only [bodyS,Tryz.f57,Option.getD_some]
 u_c stepG_seq anyR hF
 u_reg anyR hF
 refine Goes.stop (fun w₂ h₂=>?_)
 clear h₂
 have hget : (lay w₂ (.cells #[x,y] 32)).heap[w₂.heap.size]? = some (.cells #[x,y] 32):=Array.getElem?_push_size
 have hB : Bx w₂.heap.size x y (lay w₂ (.cells #[x,y] 32)):=⟨_,_,hget⟩
 refine ⟨rfl,_,_,box_step rfl rfl (by decide) rfl rfl,hB.c0,20,?_⟩
 clear hget
 generalize w₂.heap.size = bb at hB ⊢
 generalize lay w₂ (.cells #[x,y] 32) = w3 at hB ⊢
 walk_nrm
 u_c stepG_region_end knR hB
 u_c stepG_seq knR hB
 u_reg knR hB
 u_op knR hB
 u_defer knR hB
 u_c stepG_region_end knR hB
 u_reg knR hB
 u_op knR hB
 refine Goes.stop (fun w₄ h₄=>?_)
 replace hB:=knR hB h₄
 refine ⟨rfl,_,_,load_step rfl rfl (by decide) rfl rfl hB.c0 hB.c1 loudS,fun e he=>?_,20,?_⟩
 ·
  simp at he
  rcases he with rfl | rfl
  ·
   exact ⟨_,rfl,rfl⟩
  ·
   exact ⟨_,rfl,rfl⟩
 walk_nrm
 refine Goes.stop (fun w₅ h₅=>?_)
 refine ⟨rfl,_,_,_,_,send_step rfl rfl (by decide) rfl rfl rfl,?_⟩
 exact parts_of x y Ch Wg bb _ [] rfl _
end Go.Proofs.YtkeapmmochpcfaaGreat.Sd
namespace Go.Proofs.YtkeapmmochpcfaaGreat.Sd
open Go Go.Conc Go.ConcN Go.RowKit Go.Conc.Lib Go.ConcR.Gen Go.ConcN.Gen
open Go.ConcR (KK wgBlock WgAt stA smA rd wr mk Payload DC0 ofEvent_cell)
open Wt (NoOwn Stay lay Parts AtSend AtRead AtBox Any RS DS AtGo Allots Script Fi goes_weak goes_flat)
open Nf (Adding Says)
set_option linter.unusedSectionVars false
variable [Payload]
structure LF (lb lo n Wg : Nat) (xs ys : Nat → Value) (w : World) : Prop where
 c0 : ∀ j,j < n → w.cell? ⟨lb,lo + j * 2,none⟩ = some (xs j)
 c1 : ∀ j,j < n → w.cell? ⟨lb,lo + j * 2 + 1,none⟩ = some (ys j)
theorem cell_blk {w w₁ : World} {b : Nat} (h : w₁.heap[b]? = w.heap[b]?) (o : Nat) : w₁.cell? ⟨b,o,none⟩ = w.cell? ⟨b,o,none⟩:=by
 unfold World.cell?; rw [h]
section
variable {lb lo n Wg : Nat} {xs ys : Nat → Value} {os : List Nat} {w w₁ : World}
theorem LF.rely (h : LF lb lo n Wg xs ys w ∧ WgLive 86 Wg w) (hr : RS 86 Wg (· = lb) os w w₁) : LF lb lo n Wg xs ys w₁ ∧ WgLive 86 Wg w₁ :=
 ⟨⟨fun j hj=>(cell_blk (hr.list lb rfl) _).trans (h.1.c0 j hj),fun j hj=>(cell_blk (hr.list lb rfl) _).trans (h.1.c1 j hj)⟩,hr.live h.2⟩
end
def body18 (fz : Func:=Tryz.f30) : Code:=fz.body.getD .skip
abbrev b18 : Frame:=base 30
def sq1 : Code → Code
 | .seq a _=>a
 | c=>c
def sq2 : Code → Code
 | .seq _ b=>b
 | c=>c
def inl : Code → Code
 | .block _ (.loop b)=>b
 | c=>c
def c4 (fz : Func:=Tryz.f30) : Code:=sq2 (sq2 (sq2 (body18 fz)))
def restK (fz : Func:=Tryz.f30) : Code:=sq2 (c4 fz)
def loopB (fz : Func:=Tryz.f30) : Code:=inl (sq2 (sq1 (c4 fz)))
def sl (lb lo n cap Wg Ch i : Nat) (u0 u1 u2 u3 u4 u5 u6 u7 u8 u9 u10 u11 u12 u13 u14 u15 : Value) : Array Value :=
 #[.slice (some ⟨lb,lo,none⟩) n cap,u0,.chan none,.chan (some Ch),.pointer (some ⟨Wg,0,none⟩),u1,u2,u3,u4,u5,.slice (some ⟨lb,lo,none⟩) n cap,.int .i64 n,.int .i64 i,u6,u7,u8,u9,u10,u11,u12,u13,u14,u15]
def hd (T : Array Value) (cs : List Frame) (fz : Func:=Tryz.f30) : Goroutine:=G (b18.at ⟨T,[]⟩ [.code (loopB fz),.inLoop (loopB fz),.inBlock 0,.code (restK fz)]) cs
theorem loud18 : (Tryz.prog.funcs[b18.fn]?).any (·.norace) = false:=by kernel_rfl
section
variable {main : Bool} {b : Frame} {a : Act} {kk : List Item} {cs : List Frame} {w : World} {ops : Array Oper} {i : Nat} {rest : List Nat} {o : Oper}
theorem load_at {x : Operand} (ho : ops[i]? = some o) (hw : Region.wanted o (yielded ops a.tmps) = true) (hk : b.kind ≠ .early) (hop : o.op = .load 32 x) {c q : Nat} {u v : Value} (hx : a.eval x = .pointer (some ⟨c,q,none⟩))
  (h0 : w.cell? ⟨c,q,none⟩ = some u) (h1 : w.cell? ⟨c,q + 1,none⟩ = some v) (hq : (Tryz.prog.funcs[b.fn]?).any (·.norace) = false) :
  stepG Tryz.prog main (G (b.at a (.inRegion ops (i :: rest) :: kk)) cs) w = .go (G (b.at (a.put o.dst (.agg #[u,v])) (.inRegion ops rest :: kk)) cs) w #[⟨.cell ⟨c,q,none⟩,false,false⟩,⟨.cell ⟨c,q + 1,none⟩,false,false⟩]:=by
 have hr : (execOp a.eval o).run Tryz.prog w = .ok (.value (.agg #[u,v])) w:=by
  unfold execOp
  simp only [hop,hx]
  simp [go_sem,h0,h1]
 have he : (execOp a.eval o).events Tryz.prog w #[] = #[⟨.cell ⟨c,q,none⟩,false,false⟩,⟨.cell ⟨c,q + 1,none⟩,false,false⟩]:=by
  unfold execOp
  simp only [hop,hx]
  simp [go_sem,h0,h1]
 rw [stepG_value ho hw hk hr]
 unfold listed
 rw [he,seen_eq hq (by simp)]
theorem alloc_at (ho : ops[i]? = some o) (hw : Region.wanted o (yielded ops a.tmps) = true) (hk : b.kind ≠ .early) (hop : o.op = .alloc 32) :
  stepG Tryz.prog main (G (b.at a (.inRegion ops (i :: rest) :: kk)) cs) w = .go (G (b.at (a.put o.dst (.pointer (some ⟨w.heap.size,0,none⟩))) (.inRegion ops rest :: kk)) cs) (lay w (.cells #[.slice none 0 0,.slice none 0 0] 32)) #[]:=by
 have hr : (execOp a.eval o).run Tryz.prog w = .ok (.value (.pointer (some ⟨w.heap.size,0,none⟩))) (lay w (.cells #[.slice none 0 0,.slice none 0 0] 32)):=by
  unfold execOp
  simp only [hop]
  simp [go_sem,Instr.alloc,newVar,newRow,Value.cells,lay]
 have he : (execOp a.eval o).events Tryz.prog w #[] = #[]:=by
  unfold execOp
  simp only [hop]
  simp [go_sem,Instr.alloc,newVar,newRow,Value.cells]
 rw [stepG_value ho hw hk hr]
 unfold listed
 rw [he,seen0]
theorem ev_store {ad : Addr} {p : Option Addr} {l q : Nat} {u : Value} {es : Array Event} (hc : w.cell? ad = some u) (hf : w.frozen? ad = false) : Sem.events Tryz.prog (store ad (.slice p l q)) w es = es.push ⟨.cell ad,true,false⟩:=by
 simp [Sem.events,store,Sem.runT,hc,hf]
 rfl
theorem store_at {x y : Operand} (ho : ops[i]? = some o) (hw : Region.wanted o (yielded ops a.tmps) = true) (hk : b.kind ≠ .early) (hop : o.op = .store 32 x y) {c : Nat} {u v u0 v0 : Value} {e : TypeId} (hx : a.eval x = .pointer (some ⟨c,0,none⟩)) (hy : a.eval y = .agg #[u,v])
  (hu : ∃ p l q,u = .slice p l q) (hv : ∃ p l q,v = .slice p l q) (hb : w.heap[c]? = some (.cells #[u0,v0] e)) (hq : (Tryz.prog.funcs[b.fn]?).any (·.norace) = false) :
  stepG Tryz.prog main (G (b.at a (.inRegion ops (i :: rest) :: kk)) cs) w = .go (G (b.at (a.put o.dst undef) (.inRegion ops rest :: kk)) cs) ((w.setCell ⟨c,0,none⟩ u).setCell ⟨c,1,none⟩ v) #[⟨.cell ⟨c,0,none⟩,true,false⟩,⟨.cell ⟨c,1,none⟩,true,false⟩]:=by
 obtain ⟨p,l,q,rfl⟩:=hu
 obtain ⟨p',l',q',rfl⟩:=hv
 have h0 : w.cell? ⟨c,0,none⟩ = some u0:=by simp [World.cell?,hb]
 have f0 : w.frozen? ⟨c,0,none⟩ = false:=by simp [World.frozen?,hb]
 have h2 : (w.setCell ⟨c,0,none⟩ (.slice p l q)).cell? ⟨c,1,none⟩ = some v0:=by simp [World.cell?,World.setCell,Array.getElem?_modify,hb]
 have f2 : (w.setCell ⟨c,0,none⟩ (.slice p l q)).frozen? ⟨c,1,none⟩ = false:=by simp [World.frozen?,World.setCell,Array.getElem?_modify,hb]
 have hr : (execOp a.eval o).run Tryz.prog w = .ok .skip ((w.setCell ⟨c,0,none⟩ (.slice p l q)).setCell ⟨c,1,none⟩ (.slice p' l' q')):=by
  unfold execOp
  simp only [hop,hx,hy]
  simp [go_sem,stored,h0,f0,h2,f2]
 have he : (execOp a.eval o).events Tryz.prog w #[] = #[⟨.cell ⟨c,0,none⟩,true,false⟩,⟨.cell ⟨c,1,none⟩,true,false⟩]:=by
  unfold execOp
  simp only [hop,hx,hy]
  simp [go_sem,h0,f0]
  rw [ev_store h0 f0,ev_store h2 f2]
  rfl
 rw [stepG_none ho hw hk hr]
 unfold listed
 rw [he,seen_eq hq (by simp)]
end
theorem rsT {lb Wg : Nat} {os : List Nat} (w : World) : RS 86 Wg (· = lb) os w w:=Go.Proofs.YtkeapmmochpcfaaGreat.Wt.RS.refl w
theorem dsR {lb : Nat} {os : List Nat} {w : World} {q : Nat} : DS (· = lb) os w w #[⟨.cell ⟨lb,q,none⟩,false,false⟩,⟨.cell ⟨lb,q + 1,none⟩,false,false⟩] :=
 ⟨rfl,⟨rfl,rfl⟩,fun _ _=>rfl,fun e he=>by simp at he; rcases he with rfl | rfl <;> exact ⟨_,_,rfl,.inr ⟨rfl,rfl⟩⟩⟩
theorem dsO {lb bb : Nat} {os : List Nat} {w : World} : DS (· = lb) (bb :: os) w w #[⟨.cell ⟨bb,0,none⟩,false,false⟩,⟨.cell ⟨bb,0 + 1,none⟩,false,false⟩] :=
 ⟨rfl,⟨rfl,rfl⟩,fun _ _=>rfl,fun e he=>by simp at he; rcases he with rfl | rfl <;> exact ⟨_,_,rfl,.inl (by simp)⟩⟩
theorem dsW {lb bb : Nat} {os : List Nat} {w : World} {u v : Value} : DS (· = lb) (bb :: os) w ((w.setCell ⟨bb,0,none⟩ u).setCell ⟨bb,1,none⟩ v) #[⟨.cell ⟨bb,0,none⟩,true,false⟩,⟨.cell ⟨bb,1,none⟩,true,false⟩]:=by
 refine ⟨by simp [World.setCell],⟨rfl,rfl⟩,fun c hc=>?_,fun e he=>?_⟩
 ·
  have : bb ≠ c:=fun h=>hc (by simp [h])
  simp [World.setCell,Array.getElem?_modify,this]
 ·
  simp at he
  rcases he with rfl | rfl <;> exact ⟨_,_,rfl,.inl (by simp)⟩
def loopP (T : Array Value) (l : List Nat) (cs : List Frame) (fz : Func:=Tryz.f30) : Goroutine :=
 G (b18.at ⟨T,[]⟩ [.inRegion (match sq1 (match sq1 (sq2 (sq2 (loopB fz))) with | .block _ c=>c | c=>c) with | .region _ o _=>o | _=>#[]) l,.code (sq2 (match sq1 (sq2 (sq2 (loopB fz))) with | .block _ c=>c | c=>c)),.inBlock 1,.code (sq2 (sq2 (sq2 (loopB fz)))),.inLoop (loopB fz),.inBlock 0,.code (restK fz)]) cs
theorem head_allot (lb lo n cap Wg Ch : Nat) (xs ys : Nat → Value) (os : List Nat) (i : Nat) (hi : i < n) (hn : n < 1000000) (cs : List Frame) (u0 u1 u2 u3 u4 u5 u6 u7 u8 u9 u10 u11 u12 u13 u14 u15 : Value) (Nx : Nat → Goroutine → World → Prop)
 (hN : ∀ w,LF lb lo n Wg xs ys w ∧ WgLive 86 Wg w → Nx w.heap.size (loopP #[.slice (some ⟨lb,lo,none⟩) n cap,u0,.chan none,.chan (some Ch),.pointer (some ⟨Wg,0,none⟩),u1,.pointer (some ⟨w.heap.size,0,none⟩),u3,u4,u5,.slice (some ⟨lb,lo,none⟩) n cap,.int .i64 n,.int .i64 i,.bool true,.pointer (some ⟨lb,lo + i * 2,none⟩),rep (xs i) (ys i),u9,u10,u11,u12,u13,u14,u15] [3] cs) (lay w (.cells #[.slice none 0 0,.slice none 0 0] 32)))
 (w : World) (hF : LF lb lo n Wg xs ys w ∧ WgLive 86 Wg w) :
 Goes Tryz.prog true (RS 86 Wg (· = lb) os) (DS (· = lb) os) (Allots Tryz.prog Nx) (40 + 2) (hd (sl lb lo n cap Wg Ch i u0 u1 u2 u3 u4 u5 u6 u7 u8 u9 u10 u11 u12 u13 u14 u15) cs) w:=by
 have hlt : (i : Int) < (n : Int):=by omega
 have hi0 : (0 : Int) ≤ (i : Int):=by omega
 refine goes_flat rsT (goes_weak (fun _ _ _ h=>DS.of_dc0 _ h) ?_)
 revert hN
 unfold hd sl loopP
 generalize hRK : Item.code restK = RK
 generalize hLB : Item.inLoop loopB = LB
 intro hN
 simp only [loopB,c4,inl,sq1,sq2,body18,Tryz.f30,Option.getD_some] at hN ⊢
 u_c stepG_seq LF.rely hF
 u_reg LF.rely hF
 u_op LF.rely hF
 u_c stepG_region_end LF.rely hF
 u_c stepG_seq LF.rely hF
 u_cond true LF.rely hF
 u_c stepG_skip LF.rely hF
 u_c stepG_seq LF.rely hF
 u_c stepG_block LF.rely hF
 u_c stepG_seq LF.rely hF
 u_reg LF.rely hF
 u_op LF.rely hF
 refine Goes.stop (fun w₁ h₁=>?_)
 replace hF:=LF.rely hF h₁
 refine Goes.step rfl (fun w₂ h₂=>?_)
 replace hF:=LF.rely hF h₂
 rw [load_at rfl rfl (by decide) rfl rfl (hF.1.c0 i hi) (hF.1.c1 i hi) loud18]
 refine ⟨dsR,?_⟩
 walk_nrm
 refine Goes.stop (fun w₃ h₃=>?_)
 replace hF:=LF.rely hF h₃
 refine ⟨rfl,_,_,alloc_at rfl rfl (by decide) rfl,?_⟩
 have:=hN w₃ hF
 walk_nrm
 exact this
def AF (lb lo n Wg bb : Nat) (xs ys : Nat → Value) (x y : Value) (w : World) : Prop:=LF lb lo n Wg xs ys w ∧ Bx bb x y w
theorem AF.rely {lb lo n Wg bb : Nat} {xs ys : Nat → Value} {x y : Value} {os : List Nat} {w w₁ : World} (h : AF lb lo n Wg bb xs ys x y w ∧ WgLive 86 Wg w) (hr : RS 86 Wg (· = lb) (bb :: os) w w₁) : AF lb lo n Wg bb xs ys x y w₁ ∧ WgLive 86 Wg w₁ :=
 ⟨⟨(LF.rely ⟨h.1.1,h.2⟩ hr).1,h.1.2.rely (hr.own bb (by simp))⟩,hr.live h.2⟩
theorem AF.set {lb lo n Wg bb : Nat} {xs ys : Nat → Value} {x y : Value} (hbW : bb ≠ Wg) (hlW : lb ≠ Wg) (w : World) (v : Value) (h : AF lb lo n Wg bb xs ys x y w) : AF lb lo n Wg bb xs ys x y (w.setCell (stA Wg) v):=by
 have hne : ∀ c,c ≠ Wg → (w.setCell (stA Wg) v).heap[c]? = w.heap[c]?:=fun c hc=>by simp [World.setCell,stA,Array.getElem?_modify,Ne.symm hc]
 obtain ⟨e,z,hb⟩:=h.2.blk
 exact ⟨⟨fun j hj=>(cell_blk (hne lb hlW) _).trans (h.1.c0 j hj),fun j hj=>(cell_blk (hne lb hlW) _).trans (h.1.c1 j hj)⟩,⟨e,z,(hne bb hbW).trans hb⟩⟩
def loopQ (T : Array Value) (cs : List Frame) (fz : Func:=Tryz.f30) : Goroutine :=
 G (b18.at ⟨T,[]⟩ [.inRegion (match sq1 (sq2 (match sq1 (sq2 (sq2 (loopB fz))) with | .block _ c=>c | c=>c)) with | .region _ o _=>o | _=>#[]) [],.code (sq2 (sq2 (match sq1 (sq2 (sq2 (loopB fz))) with | .block _ c=>c | c=>c))),.inBlock 1,.code (sq2 (sq2 (sq2 (loopB fz)))),.inLoop (loopB fz),.inBlock 0,.code (restK fz)]) cs
theorem allot_add (lb lo n cap Wg Ch bb : Nat) (xs ys : Nat → Value) (x y : Value) (hx : ∃ p l q,x = .slice p l q) (hy : ∃ p l q,y = .slice p l q) (hbl : bb ≠ lb) (hbW : bb ≠ Wg) (hlW : lb ≠ Wg) (os : List Nat) (cs : List Frame) (v0 v1 v2 v3 v5 v7 v8 v9 v10 v11 v12 v13 v14 v16 v17 v18 v19 v20 v21 v22 : Value) (Nx : Goroutine → World → Prop)
 (hN : ∀ w,AF lb lo n Wg bb xs ys x y w ∧ WgLive 86 Wg w → Nx (loopQ #[v0,v1,v2,v3,.pointer (some ⟨Wg,0,none⟩),v5,.pointer (some ⟨bb,0,none⟩),v7,v8,v9,v10,v11,v12,v13,v14,rep x y,.tuple #[],v17,v18,v19,v20,v21,v22] cs) w)
 (w : World) (hF : LF lb lo n Wg xs ys w ∧ WgLive 86 Wg w) {u0 z0 : Value} (hb : w.heap[bb]? = some (.cells #[u0,z0] 32)) :
 Goes Tryz.prog true (RS 86 Wg (· = lb) (bb :: os)) (DS (· = lb) (bb :: os)) (Adding Tryz.prog (RS 86 Wg (· = lb) (bb :: os)) 86 Wg Nx) (10 + 200 + 1) (loopP #[v0,v1,v2,v3,.pointer (some ⟨Wg,0,none⟩),v5,.pointer (some ⟨bb,0,none⟩),v7,v8,v9,v10,v11,v12,v13,v14,rep x y,v16,v17,v18,v19,v20,v21,v22] [3] cs) w:=by
 have hA:=@Go.Proofs.YtkeapmmochpcfaaGreat.Nf.add_goes link Tryz.prog (RS 86 Wg (· = lb) (bb :: os)) Wg (AF lb lo n Wg bb xs ys x y) Nx
 revert hN
 unfold loopP loopQ
 generalize hRK : Item.code restK = RK
 generalize hLB : Item.inLoop loopB = LB
 intro hN
 simp only [loopB,c4,inl,sq1,sq2,body18,Tryz.f30,Option.getD_some] at hN ⊢
 refine Goes.step rfl (fun w₁ h₁=>?_)
 replace hF:=LF.rely hF h₁
 replace hb:=(h₁.own bb (by simp)).trans hb
 rw [store_at rfl rfl (by decide) rfl rfl rfl hx hy hb loud18]
 refine ⟨dsW,?_⟩
 have hK : AF lb lo n Wg bb xs ys x y ((w₁.setCell ⟨bb,0,none⟩ x).setCell ⟨bb,1,none⟩ y) ∧ WgLive 86 Wg ((w₁.setCell ⟨bb,0,none⟩ x).setCell ⟨bb,1,none⟩ y):=by
  have hne : ∀ c,c ≠ bb → ((w₁.setCell ⟨bb,0,none⟩ x).setCell ⟨bb,1,none⟩ y).heap[c]? = w₁.heap[c]?:=fun c hc=>by simp [World.setCell,Array.getElem?_modify,Ne.symm hc]
  refine ⟨⟨⟨fun j hj=>(cell_blk (hne lb (Ne.symm hbl)) _).trans (hF.1.c0 j hj),fun j hj=>(cell_blk (hne lb (Ne.symm hbl)) _).trans (hF.1.c1 j hj)⟩,⟨32,(0,0),by simp [World.setCell,Array.getElem?_modify,hb]⟩⟩,?_⟩
  obtain ⟨st,sm,h⟩:=hF.2
  exact ⟨st,sm,h.of_block (hne Wg (Ne.symm hbW))⟩
 generalize ((w₁.setCell ⟨bb,0,none⟩ x).setCell ⟨bb,1,none⟩ y) = w2 at hK ⊢
 clear hF hb
 refine goes_weak (fun _ _ _ h=>DS.of_dc0 _ h) (goes_flat (fun w=>Go.Proofs.YtkeapmmochpcfaaGreat.Wt.RS.refl w) ?_)
 walk_nrm
 u_c stepG_region_end AF.rely hK
 u_c stepG_seq AF.rely hK
 u_reg AF.rely hK
 u_in AF.rely hK
 refine goes_call rfl rfl (by k_ne) rfl Tryz.func56 (nm_add link) rfl ⟨by u_nil,?_⟩
 walk_nrmf Tryz.f56
 refine Goes.stop (fun w₃ h₃=>?_)
 replace hK:=AF.rely hK h₃
 refine hA (mT:=0) wgLib (fun h hr=>AF.rely h hr) (AF.set hbW hlW) (fun w h=>Goes.stop (fun w₁ h₁=>?_)) w₃ hK
 exact hN w₁ (AF.rely h h₁)
section
variable {main : Bool} {b : Frame} {a : Act} {kk : List Item} {cs : List Frame} {w : World} {ops : Array Oper} {i : Nat} {rest : List Nat} {o : Oper}
theorem go_at {x y z : Operand} {ats : Array TypeId} (ho : ops[i]? = some o) (hw : Region.wanted o (yielded ops a.tmps) = true) (hk : b.kind ≠ .early) (hop : o.op = .go { callee:=.value (.func 57),args:=#[x,y,z],argTypes:=ats }) {u v : Value} {Ch Wg : Nat} (hx : a.eval x = rep u v) (hy : a.eval y = .chan (some Ch)) (hz : a.eval z = .pointer (some ⟨Wg,0,none⟩)) :
  stepG Tryz.prog main (G (b.at a (.inRegion ops (i :: rest) :: kk)) cs) w = .spawn (G (b.at (a.put o.dst undef) (.inRegion ops rest :: kk)) cs) (born Tryz.prog (call37 u v Ch Wg)) w #[]:=by
 have hfn : a.eval (.func 57) = .func (.func 57) #[] #[]:=rfl
 have hr : (execOp a.eval o).run Tryz.prog w = .ok (.spawn (call37 u v Ch Wg)) w:=by
  unfold execOp
  simp only [hop]
  simp [resolve,Deferred.ofValue,hfn,hx,hy,hz,call37]
 have he : (execOp a.eval o).events Tryz.prog w #[] = #[]:=by
  unfold execOp
  simp only [hop]
  rfl
 rw [stepG_spawn ho hw hk hr rfl]
 unfold listed
 rw [he,seen0]
end
def loopG (T : Array Value) (cs : List Frame) (fz : Func:=Tryz.f30) : Goroutine :=
 G (b18.at ⟨T,[]⟩ [.inRegion (match sq2 (sq2 (match sq1 (sq2 (sq2 (loopB fz))) with | .block _ c=>c | c=>c)) with | .region _ o _=>o | _=>#[]) [],.inBlock 1,.code (sq2 (sq2 (sq2 (loopB fz)))),.inLoop (loopB fz),.inBlock 0,.code (restK fz)]) cs
theorem add_go (lb lo n cap Wg Ch bb : Nat) (xs ys : Nat → Value) (x y : Value) (os : List Nat) (cs : List Frame) (v0 v1 v2 v5 v7 v8 v9 v10 v11 v12 v13 v14 v15 v16 v17 v18 v19 v20 v21 v22 : Value) (Nx : Goroutine → World → Prop)
 (hN : ∀ w,AF lb lo n Wg bb xs ys x y w ∧ WgLive 86 Wg w → Nx (loopG #[v0,v1,v2,.chan (some Ch),.pointer (some ⟨Wg,0,none⟩),v5,.pointer (some ⟨bb,0,none⟩),v7,v8,v9,v10,v11,v12,v13,v14,v15,v16,rep x y,.chan (some Ch),v19,v20,v21,v22] cs) w)
 (w : World) (hF : AF lb lo n Wg bb xs ys x y w ∧ WgLive 86 Wg w) :
 Goes Tryz.prog true (RS 86 Wg (· = lb) (bb :: os)) (DS (· = lb) (bb :: os)) (AtGo Tryz.prog 86 Wg Ch (rep x y) x Nx) (5 + (3 + 1)) (loopQ #[v0,v1,v2,.chan (some Ch),.pointer (some ⟨Wg,0,none⟩),v5,.pointer (some ⟨bb,0,none⟩),v7,v8,v9,v10,v11,v12,v13,v14,v15,v16,v17,v18,v19,v20,v21,v22] cs) w:=by
 refine goes_flat (fun w=>Go.Proofs.YtkeapmmochpcfaaGreat.Wt.RS.refl w) (goes_weak (fun _ _ _ h=>DS.of_dc0 _ h) ?_)
 revert hN
 unfold loopG loopQ
 generalize hRK : Item.code restK = RK
 generalize hLB : Item.inLoop loopB = LB
 intro hN
 simp only [loopB,c4,inl,sq1,sq2,body18,Tryz.f30,Option.getD_some] at hN ⊢
 u_c stepG_region_end AF.rely hF
 u_reg AF.rely hF
 refine Goes.stop (fun w₁ h₁=>?_)
 replace hF:=AF.rely hF h₁
 refine Goes.step rfl (fun w₂ h₂=>?_)
 replace hF:=AF.rely hF h₂
 rw [load_at rfl rfl (by decide) rfl rfl hF.1.2.c0 hF.1.2.c1 loud18]
 refine ⟨dsO,?_⟩
 refine goes_weak (D:=DC0) (fun _ _ _ h=>DS.of_dc0 _ h) ?_
 walk_nrm
 u_op AF.rely hF
 refine Goes.stop (fun w₃ h₃=>?_)
 replace hF:=AF.rely hF h₃
 refine ⟨rfl,_,_,go_at rfl rfl (by decide) rfl rfl rfl rfl,child_goes x y Ch Wg w₃,?_⟩
 walk_nrm
 exact hN w₃ hF
theorem go_head (lb lo n cap Wg Ch i : Nat) (hn : n < 1000000) (hi : i < n) (xs ys : Nat → Value) (os : List Nat) (cs : List Frame) (u0 u1 u2 u3 u4 u5 u6 u7 u8 u9 u10 u11 u12 u13 u14 u15 : Value) (Stop : Goroutine → World → Prop)
 (hN : ∀ w,LF lb lo n Wg xs ys w ∧ WgLive 86 Wg w → Stop (hd (sl lb lo n cap Wg Ch (i + 1) u0 u1 u2 u3 u4 u5 u6 u7 u8 u9 u10 u11 (.int .i64 ((i + 1 : Nat) : Int)) u13 u14 u15) cs) w)
 (w : World) (hF : LF lb lo n Wg xs ys w ∧ WgLive 86 Wg w) :
 Goes Tryz.prog true (RS 86 Wg (· = lb) os) DC0 Stop 12 (loopG (sl lb lo n cap Wg Ch i u0 u1 u2 u3 u4 u5 u6 u7 u8 u9 u10 u11 u12 u13 u14 u15) cs) w:=by
 have hwr : IntKind.i64.wrap ((i : Int) + 1) = ((i + 1 : Nat) : Int):=by
  rw [IntKind.wrap_i64]; omega
 revert hN
 unfold loopG hd
 generalize hRK : Item.code restK = RK
 generalize hLB : Item.inLoop loopB = LB
 intro hN
 simp only [loopB,c4,inl,sq1,sq2,body18,Tryz.f30,Option.getD_some] at hN ⊢
 unfold sl
 u_c stepG_region_end LF.rely hF
 u_c stepG_inBlock LF.rely hF
 u_reg LF.rely hF
 u_op LF.rely hF
 u_op LF.rely hF
 u_c stepG_region_end LF.rely hF
 rw [← hLB] at hN ⊢
 u_c stepG_inLoop LF.rely hF
 simp only [loopB,c4,inl,sq1,sq2,body18,Tryz.f30,Option.getD_some]
 refine Goes.stop (fun w₁ h₁=>?_)
 replace hF:=LF.rely hF h₁
 have:=hN w₁ hF
 simp only [loopB,c4,inl,sq1,sq2,body18,Tryz.f30,Option.getD_some,sl] at this
 first | exact this | (simp only [hwr]; exact this)
end Go.Proofs.YtkeapmmochpcfaaGreat.Sd
namespace Go.Proofs.YtkeapmmochpcfaaGreat.Sd
open Go Go.Conc Go.ConcN Go.RowKit Go.Conc.Lib Go.ConcR.Gen Go.ConcN.Gen
open Go.ConcR (KK wgBlock WgAt stA smA rd wr mk Payload DC0 ofEvent_cell)
open Wt (NoOwn Stay lay Parts AtSend AtRead AtBox Any RS DS AtGo Allots Script Fi goes_weak goes_flat)
open Nf (Adding Says Looks Swap)
set_option linter.unusedSectionVars false
variable [Payload]
theorem goes_to {P : Program} {main : Bool} {R : World → World → Prop} {D : World → World → Array Event → Prop} {S1 S2 : Goroutine → World → Prop} (hs : ∀ g w,S1 g w → S2 g w) : ∀ {n : Nat} {g : Goroutine} {w : World},Goes P main R D S1 n g w → Goes P main R D S2 n g w
 | 0,g,w,h=>fun w₁ h₁=>hs _ _ (h w₁ h₁)
 | n + 1,g,w,h=>h.imp (fun h w₁ h₁=>hs _ _ (h w₁ h₁)) fun ⟨hr,h⟩=>⟨hr,fun w₁ h₁=>by
   have:=h w₁ h₁
   revert this
   cases stepG P main g w₁ with
   | go g' w' es=>exact fun ⟨a,b⟩=>⟨a,goes_to hs b⟩
   | _=>exact id⟩
theorem swap_to {P : Program} {R : World → World → Prop} {ty : TypeId} {Wg vs : Nat} {H1 H2 Nx : Goroutine → World → Prop} (hs : ∀ g w,H1 g w → H2 g w) {g : Goroutine} {w : World} (h : Swap P R ty Wg vs H1 Nx g w) : Swap P R ty Wg vs H2 Nx g w:=by
 refine ⟨h.1,fun v hv hw=>⟨(h.2 v hv hw).1,fun hne=>?_⟩⟩
 obtain ⟨g',e,n,hg⟩:=(h.2 v hv hw).2 hne
 exact ⟨g',e,n,goes_to hs hg⟩
theorem looks_to {P : Program} {R : World → World → Prop} {ty : TypeId} {Wg : Nat} {H1 H2 Nx : Goroutine → World → Prop} (hs : ∀ g w,H1 g w → H2 g w) {g : Goroutine} {w : World} (h : Looks P R ty Wg H1 Nx g w) : Looks P R ty Wg H2 Nx g w:=by
 refine ⟨h.1,fun v hv hw=>?_⟩
 obtain ⟨g',e,h0,h1⟩:=h.2 v hv hw
 refine ⟨g',e,h0,fun hne=>?_⟩
 obtain ⟨n,hg⟩:=h1 hne
 exact ⟨n,goes_to (fun _ _ h=>swap_to hs h) hg⟩
theorem says_to {P : Program} {R : World → World → Prop} {m : Mark} {H1 H2 : Goroutine → World → Prop} (hs : ∀ g w,H1 g w → H2 g w) {g : Goroutine} {w : World} (h : Says P R m H1 g w) : Says P R m H2 g w:=by
 obtain ⟨hr,g',e,n,hg⟩:=h
 exact ⟨hr,g',e,n,goes_to hs hg⟩
section
variable {lb lo n Wg : Nat} {xs ys : Nat → Value}
theorem LF.set (hlW : lb ≠ Wg) (o : Nat) (w : World) (v : Value) (h : LF lb lo n Wg xs ys w) : LF lb lo n Wg xs ys (w.setCell ⟨Wg,o,none⟩ v):=by
 have hne : (w.setCell ⟨Wg,o,none⟩ v).heap[lb]? = w.heap[lb]?:=by simp [World.setCell,Array.getElem?_modify,Ne.symm hlW]
 exact ⟨fun j hj=>(cell_blk hne _).trans (h.c0 j hj),fun j hj=>(cell_blk hne _).trans (h.c1 j hj)⟩
end
def waitF (T : Array Value) (l : List Nat) (fz : Func:=Tryz.f30) : Frame:=b18.at ⟨T,[]⟩ [.inRegion (match sq1 (restK fz) with | .region _ o _=>o | _=>#[]) l,.code (sq2 (restK fz))]
def TokT (lb lo n cap Wg Ch : Nat) (T : Array Value) : Prop:=∃ u0 u1 u2 u3 u4 u5 u6 u7 u8 u9 u10 u11 u12 u13 u14 u15,T = sl lb lo n cap Wg Ch n u0 u1 u2 u3 u4 u5 u6 u7 u8 u9 u10 u11 u12 u13 u14 u15
theorem head_wait (lb lo n cap Wg Ch : Nat) (xs ys : Nat → Value) (hn : n < 1000000) (os : List Nat) (cs : List Frame) (u0 u1 u2 u3 u4 u5 u6 u7 u8 u9 u10 u11 u12 u13 u14 u15 : Value) (w : World) (hF : LF lb lo n Wg xs ys w ∧ WgLive 86 Wg w) :
 Goes Tryz.prog true (RS 86 Wg (· = lb) os) DC0 (Says Tryz.prog (RS 86 Wg (· = lb) os) .disable (fun g w=>∃ T,TokT lb lo n cap Wg Ch T ∧ AnchWN link (LF lb lo n Wg xs ys) Wg (waitF T [0]) cs g w)) (12 + 200) (hd (sl lb lo n cap Wg Ch n u0 u1 u2 u3 u4 u5 u6 u7 u8 u9 u10 u11 u12 u13 u14 u15) cs) w:=by
 have hTok : TokT lb lo n cap Wg Ch (sl lb lo n cap Wg Ch n u0 u1 u2 u3 u4 u5 (.bool false) u7 u8 u9 u10 u11 u12 u13 u14 u15):=⟨_,_,_,_,_,_,_,_,_,_,_,_,_,_,_,_,rfl⟩
 have hW:=@Go.Proofs.YtkeapmmochpcfaaGreat.Nf.wait_start link Tryz.prog (RS 86 Wg (· = lb) os) Wg (LF lb lo n Wg xs ys) (waitF (sl lb lo n cap Wg Ch n u0 u1 u2 u3 u4 u5 (.bool false) u7 u8 u9 u10 u11 u12 u13 u14 u15) [0]) cs wgLib (fun h hr=>LF.rely h hr)
 refine goes_to (S1:=Says Tryz.prog (RS 86 Wg (· = lb) os) .disable (AnchWN link (LF lb lo n Wg xs ys) Wg (waitF (sl lb lo n cap Wg Ch n u0 u1 u2 u3 u4 u5 (.bool false) u7 u8 u9 u10 u11 u12 u13 u14 u15) [0]) cs)) (fun g w h=>says_to (fun g w h=>⟨_,hTok,h⟩) h) ?_
 refine goes_flat (fun w=>Go.Proofs.YtkeapmmochpcfaaGreat.Wt.RS.refl w) ?_
 have hlt : ¬ ((n : Int) < (n : Int)):=by omega
 revert hW
 unfold hd waitF
 generalize hLB : Item.inLoop loopB = LB
 intro hW
 simp only [loopB,restK,c4,inl,sq1,sq2,body18,Tryz.f30,Option.getD_some,sl] at hW ⊢
 u_c stepG_seq LF.rely hF
 u_reg LF.rely hF
 u_op LF.rely hF
 u_c stepG_region_end LF.rely hF
 u_c stepG_seq LF.rely hF
 u_cond false LF.rely hF
 rw [← hLB]
 u_exit LF.rely hF
 u_c stepG_seq LF.rely hF
 u_reg LF.rely hF
 u_in LF.rely hF
 refine goes_call rfl rfl (by k_ne) rfl Tryz.func58 (nm_wait link) rfl ⟨by u_nil,?_⟩
 walk_nrmf Tryz.f58
 refine Goes.stop (fun w₃ h₃=>?_)
 replace hF:=LF.rely hF h₃
 exact hW w₃ hF
def HdW (lb lo n cap Wg Ch : Nat) (xs ys : Nat → Value) (cs : List Frame) (os : List Nat) (g : Goroutine) (w : World) : Prop:=∃ T,TokT lb lo n cap Wg Ch T ∧ AnchWN link (LF lb lo n Wg xs ys) Wg (waitF T [0]) cs g w
theorem lay_get {w : World} {c : Nat} (o : Obj) (h : c < w.heap.size) : (lay w o).heap[c]? = w.heap[c]?:=by
 unfold lay
 rw [Array.getElem?_push]
 rw [if_neg (by omega)]
theorem live_lt {ty Wg : Nat} {w : World} (h : WgLive ty Wg w) : Wg < w.heap.size:=by
 obtain ⟨st,sm,h⟩:=h
 exact Go.Proofs.YtkeapmmochpcfaaGreat.Nf.cell_lt h.cellSt
section
variable {lb lo n cap Wg Ch : Nat} {xs ys : Nat → Value} {cs : List Frame}
theorem round (hn : n < 1000000) (hlW : lb ≠ Wg) (hxs : ∀ j,j < n → ∃ p l q,xs j = .slice p l q) (hys : ∀ j,j < n → ∃ p l q,ys j = .slice p l q) (r i : Nat) (hi : i < n) (S : List Nat → Goroutine → World → Prop)
  (IH : ∀ (os : List Nat) u0 u1 u2 u3 u4 u5 u6 u7 u8 u9 u10 u11 u12 u13 u14 u15 w,LF lb lo n Wg xs ys w ∧ WgLive 86 Wg w → S os (loopG (sl lb lo n cap Wg Ch i u0 u1 u2 u3 u4 u5 u6 u7 u8 u9 u10 u11 u12 u13 u14 u15) cs) w)
  (os : List Nat) (u0 u1 u2 u3 u4 u5 u6 u7 u8 u9 u10 u11 u12 u13 u14 u15 : Value) (w : World) (hF : LF lb lo n Wg xs ys w ∧ WgLive 86 Wg w) :
  Goes Tryz.prog true (RS 86 Wg (· = lb) os) (DS (· = lb) os) (Allots Tryz.prog fun b g' w'=>∃ m' m2,Goes Tryz.prog true (RS 86 Wg (· = lb) (b :: os)) (DS (· = lb) (b :: os)) (Adding Tryz.prog (RS 86 Wg (· = lb) (b :: os)) 86 Wg fun g2 w2=>Goes Tryz.prog true (RS 86 Wg (· = lb) (b :: os)) (DS (· = lb) (b :: os)) (AtGo Tryz.prog 86 Wg Ch (rep (xs i) (ys i)) (xs i) (S (b :: os))) m2 g2 w2) m' g' w') (40 + 2) (hd (sl lb lo n cap Wg Ch i u0 u1 u2 u3 u4 u5 u6 u7 u8 u9 u10 u11 u12 u13 u14 u15) cs) w:=by
 refine head_allot lb lo n cap Wg Ch xs ys os i hi hn cs u0 u1 u2 u3 u4 u5 u6 u7 u8 u9 u10 u11 u12 u13 u14 u15 _ (fun w hF=>?_) w hF
 have hlb : lb < w.heap.size:=Go.Proofs.YtkeapmmochpcfaaGreat.Nf.cell_lt (hF.1.c0 i hi)
 have hWl : Wg < w.heap.size:=live_lt hF.2
 refine ⟨_,5 + (3 + 1),allot_add lb lo n cap Wg Ch w.heap.size xs ys (xs i) (ys i) (hxs i hi) (hys i hi) (by omega) (by omega) hlW os cs _ _ _ _ _ _ _ _ _ _ _ _ _ _ _ _ _ _ _ _ _ (fun w1 h1=>add_go lb lo n cap Wg Ch w.heap.size xs ys (xs i) (ys i) os cs _ _ _ _ _ _ _ _ _ _ _ _ _ _ _ _ _ _ _ _ _ (fun w2 h2=>IH _ _ _ _ _ _ _ _ _ _ _ _ _ _ _ _ _ w2 ⟨h2.1.1,h2.2⟩) w1 h1) _ ⟨⟨fun j hj=>(cell_blk (lay_get _ hlb) _).trans (hF.1.c0 j hj),fun j hj=>(cell_blk (lay_get _ hlb) _).trans (hF.1.c1 j hj)⟩,?_⟩ Array.getElem?_push_size⟩
 obtain ⟨st,sm,h⟩:=hF.2
 exact ⟨st,sm,h.of_block (lay_get _ hWl)⟩
theorem script_go (hn : n < 1000000) (hlW : lb ≠ Wg) (hxs : ∀ j,j < n → ∃ p l q,xs j = .slice p l q) (hys : ∀ j,j < n → ∃ p l q,ys j = .slice p l q) : ∀ (r i : Nat),i + 1 + r = n → ∀ (os : List Nat) (u0 u1 u2 u3 u4 u5 u6 u7 u8 u9 u10 u11 u12 u13 u14 u15 : Value) (w : World),LF lb lo n Wg xs ys w ∧ WgLive 86 Wg w →
  Script Tryz.prog 86 Wg (· = lb) Ch n (fun j=>rep (xs j) (ys j)) xs (Fi Tryz.prog 86 Wg (· = lb) (HdW lb lo n cap Wg Ch xs ys cs)) r os (loopG (sl lb lo n cap Wg Ch i u0 u1 u2 u3 u4 u5 u6 u7 u8 u9 u10 u11 u12 u13 u14 u15) cs) w
 | 0,i,hir,os,u0,u1,u2,u3,u4,u5,u6,u7,u8,u9,u10,u11,u12,u13,u14,u15,w,hF=>by
  obtain rfl : n = i + 1:=by omega
  refine ⟨12 + (12 + 200),goes_flat (fun w=>Go.Proofs.YtkeapmmochpcfaaGreat.Wt.RS.refl w) (goes_weak (fun _ _ _ h=>DS.of_dc0 _ h) ?_)⟩
  refine go_head lb lo (i + 1) cap Wg Ch i hn (by omega) xs ys os cs u0 u1 u2 u3 u4 u5 u6 u7 u8 u9 u10 u11 u12 u13 u14 u15 _ (fun w hF=>?_) w hF
  exact goes_weak (fun _ _ _ h=>DS.of_dc0 _ h) (head_wait lb lo (i + 1) cap Wg Ch xs ys hn os cs _ _ _ _ _ _ _ _ _ _ _ _ _ _ _ _ w hF)
 | r + 1,i,hir,os,u0,u1,u2,u3,u4,u5,u6,u7,u8,u9,u10,u11,u12,u13,u14,u15,w,hF=>by
  have hi : n - (r + 1) = i + 1:=by omega
  refine ⟨12 + (40 + 2),?_⟩
  dsimp only
  rw [hi]
  refine goes_flat (fun w=>Go.Proofs.YtkeapmmochpcfaaGreat.Wt.RS.refl w) (goes_weak (fun _ _ _ h=>DS.of_dc0 _ h) ?_)
  refine go_head lb lo n cap Wg Ch i hn (by omega) xs ys os cs u0 u1 u2 u3 u4 u5 u6 u7 u8 u9 u10 u11 u12 u13 u14 u15 _ (fun w hF=>?_) w hF
  exact round hn hlW hxs hys r (i + 1) (by omega) _ (fun os' u0 u1 u2 u3 u4 u5 u6 u7 u8 u9 u10 u11 u12 u13 u14 u15 w hF=>script_go hn hlW hxs hys r (i + 1) (by omega) os' u0 u1 u2 u3 u4 u5 u6 u7 u8 u9 u10 u11 u12 u13 u14 u15 w hF) os _ _ _ _ _ _ _ _ _ _ _ _ _ _ _ _ w hF
theorem script_head (hn : n < 1000000) (hlW : lb ≠ Wg) (hxs : ∀ j,j < n → ∃ p l q,xs j = .slice p l q) (hys : ∀ j,j < n → ∃ p l q,ys j = .slice p l q) (u0 u1 u2 u3 u4 u5 u6 u7 u8 u9 u10 u11 u12 u13 u14 u15 : Value) (w : World) (hF : LF lb lo n Wg xs ys w ∧ WgLive 86 Wg w) :
  Script Tryz.prog 86 Wg (· = lb) Ch n (fun j=>rep (xs j) (ys j)) xs (Fi Tryz.prog 86 Wg (· = lb) (HdW lb lo n cap Wg Ch xs ys cs)) n [] (hd (sl lb lo n cap Wg Ch 0 u0 u1 u2 u3 u4 u5 u6 u7 u8 u9 u10 u11 u12 u13 u14 u15) cs) w:=by
 cases n with
 | zero=>exact ⟨12 + 200,goes_weak (fun _ _ _ h=>DS.of_dc0 _ h) (head_wait lb lo 0 cap Wg Ch xs ys hn [] cs _ _ _ _ _ _ _ _ _ _ _ _ _ _ _ _ w hF)⟩
 | succ r =>
  refine ⟨40 + 2,?_⟩
  dsimp only
  rw [show r + 1 - (r + 1) = 0 by omega]
  exact round hn hlW hxs hys r 0 (by omega) _ (fun os' u0 u1 u2 u3 u4 u5 u6 u7 u8 u9 u10 u11 u12 u13 u14 u15 w hF=>script_go hn hlW hxs hys r 0 (by omega) os' u0 u1 u2 u3 u4 u5 u6 u7 u8 u9 u10 u11 u12 u13 u14 u15 w hF) [] _ _ _ _ _ _ _ _ _ _ _ _ _ _ _ _ w hF
end
end Go.Proofs.YtkeapmmochpcfaaGreat.Sd
