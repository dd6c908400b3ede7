/- A region that draws its order, by an invariant: what holds of the slots that have come up, whichever they are, is handed on by each operation; so each operation is looked at once, in however many orders they may come. -/
import Derived.RegionTactic
import Derived.WalkKit
import Derived.Below
import Derived.Test.YtpkkmhpobfjclaaGreatBun11
import Derived.DyingErrors
import Derived.KernelRfl
import Derived.Test.YtpkkmhpobfjclaaGreatChecked
set_option maxRecDepth 100000
set_option maxHeartbeats 32000000
set_option linter.unusedVariables false
namespace Go.Proofs.YtpkkmhpobfjclaaGreat.Rg
open Go.RowKit
def upd (L : Nat → Bool) (i : Nat) : Nat → Bool:=fun j=>if j = i then true else L j
def depB (ops : Array Oper) : Bool:=(List.range ops.size).all fun i=>((ops[i]?).map fun o=>o.after.all fun e=>!Region.binds .any e || decide (e.on < i)).getD true
theorem dep_of {ops : Array Oper} (h : depB ops = true) {i : Nat} {o : Oper} (ho : ops[i]? = some o) {e : Edge} (he : e ∈ o.after) (hb : Region.binds .any e = true) : e.on < i:=by
 unfold depB at h
 rw [List.all_eq_true] at h
 have h1:=h i (List.mem_range.2 (Array.getElem?_eq_some_iff.1 ho).1)
 rw [ho] at h1
 simp only [Option.map_some,Option.getD_some] at h1
 have h2:=Array.all_eq_true_iff_forall_mem.1 h1 e he
 rw [hb] at h2
 simpa using h2
variable {P : Program} {ops : Array Oper} {Q : Exit → Act → World → Prop}
theorem getD_in {l : Array Bool} {i : Nat} (h : i < l.size) (d d' : Bool) : l.getD i d = l.getD i d':=by simp [Array.getD,h]
theorem getD_out {l : Array Bool} {i : Nat} (h : ¬ i < l.size) (d : Bool) : l.getD i d = d:=by simp [Array.getD,h]
theorem all_of_ready (hd : depB ops = true) {l : Array Bool} (hz : l.size = ops.size) (hr : Region.ready .any ops l = []) : ∀ i,l.getD i true = true:=by
 intro i
 induction i using Nat.strongRecOn with
 | ind i ih =>
  by_cases hi : i < l.size
  ·
   cases hc : l.getD i true with
   | true=>rfl
   | false =>
    exfalso
    have ho : ops[i]? = some ops[i]:=Array.getElem?_eq_getElem (by omega)
    have : i ∈ Region.ready .any ops l:=mem_ready.2 ⟨hc,ops[i],ho,fun e he hb=>by
     have:=dep_of hd ho he hb
     rw [getD_in (by omega) false true]
     exact ih e.on this⟩
    rw [hr] at this
    cases this
  ·
   exact getD_out hi true
theorem count_upd {l : Array Bool} {i n : Nat} (hi : i < l.size) (hf : l.getD i true = false) (hc : l.toList.count false ≤ n + 1) : (l.setIfInBounds i true).toList.count false ≤ n:=by
 have e : l[i] = false:=by simpa [Array.getD,hi] using hf
 have h1 : 0 < l.toList.count false:=List.count_pos_iff.2 (by rw [← e]; simp)
 rw [Array.toList_setIfInBounds,List.count_set (by simpa using hi)]
 simp [e]
 simp at hc h1
 omega
theorem wpAny_inv (hd : depB ops = true) (I : (Nat → Bool) → Act → World → Prop)
  (hs : ∀ L a w i,i < ops.size → I L a w → L i = false → (∀ o,ops[i]? = some o → ∀ e ∈ o.after,Region.binds .any e = true → L e.on = true) → wpOp P ops Q i (fun a' w'=>I (upd L i) a' w') a w)
  (hq : ∀ L a w,I L a w → (∀ i,L i = true) → Q .normal a w) :
  ∀ (fuel : Nat) (l : Array Bool) (a : Act) (w : World),l.size = ops.size → l.toList.count false ≤ fuel → I (fun i=>l.getD i true) a w → wpAny P .any ops Q fuel l a w:=by
 intro fuel
 induction fuel with
 | zero =>
  intro l a w hz hc hI
  have all : ∀ i,l.getD i true = true:=by
   intro i
   by_cases hi : i < l.size
   ·
    cases e : l.getD i true with
    | true=>rfl
    | false =>
     exfalso
     have e' : l[i] = false:=by simpa [Array.getD,hi] using e
     have : 0 < l.toList.count false:=List.count_pos_iff.2 (by rw [← e']; simp)
     omega
   ·
    exact getD_out hi true
  refine ⟨?_,hq _ _ _ hI all⟩
  rw [List.eq_nil_iff_forall_not_mem]
  intro i hi
  have:=(mem_ready.1 hi).1
  rw [all i] at this
  cases this
 | succ fuel ih =>
  intro l a w hz hc hI
  refine ⟨fun hr=>hq _ _ _ hI (all_of_ready hd hz hr),fun i hi=>?_⟩
  obtain ⟨h1,o,ho,h2⟩:=mem_ready.1 hi
  have hlt:=(Array.getElem?_eq_some_iff.1 ho).1
  refine wpOp_mono (fun a' w' h=>ih _ a' w' (by simpa using hz) (count_upd (by omega) h1 hc) ?_) (hs _ a w i hlt hI h1 (fun o' ho' e he hb=>?_))
  ·
   have e : (fun j=>(l.setIfInBounds i true).getD j true) = upd (fun j=>l.getD j true) i:=by
    funext j
    unfold upd
    by_cases e : j = i
    ·
     subst e
     have hj : j < l.size:=by omega
     simp [Array.getD,hj]
    ·
     rw [if_neg e]
     by_cases hj : j < l.size
     ·
      simp [Array.getD,hj,Ne.symm e]
     ·
      simp [Array.getD,hj]
   rw [e]
   exact h
  ·
   rw [ho] at ho'
   cases ho'
   have hon:=dep_of hd ho he hb
   have:=h2 e he hb
   rw [getD_in (by omega) false true] at this
   exact this
def waits (l : List Oper) (i : Nat) : List Nat:=((l[i]?).map fun o=>(o.after.toList.filter (Region.binds .any)).map (·.on)).getD []
theorem wp_region_inv {id : Nat} {a : Act} {w : World} {l : List Oper} (hm : P.follows .mixedOrders = true) (hd : depB l.toArray = true) (I : (Nat → Bool) → Act → World → Prop)
  (h0 : I (fun i=>decide (l.length ≤ i)) a w.drew)
  (hs : ∀ L a w i,i < l.length → I L a w → L i = false → (∀ d,(waits l i).contains d = true → L d = true) → wpOp P l.toArray Q i (fun a' w'=>I (upd L i) a' w') a w)
  (hq : ∀ L a w,I L a w → (∀ i,L i = true) → Q .normal a w) : (Code.region id l.toArray true).wp P Q a w:=by
 refine wp_region_any hm (wpAny_inv hd I (fun L a w i hi hI hL hdep=>hs L a w i (by simpa using hi) hI hL (fun d hd'=>?_)) hq _ _ _ _ (by simp) (by simp) ?_)
 ·
  unfold waits at hd'
  cases ho : l[i]? with
  | none=>rw [ho] at hd'; simp at hd'
  | some o =>
   rw [ho] at hd'
   simp only [Option.map_some,Option.getD_some] at hd'
   have hm:=List.contains_iff_mem.1 hd'
   obtain ⟨e,he,rfl⟩:=List.mem_map.1 hm
   obtain ⟨h1,h2⟩:=List.mem_filter.1 he
   exact hdep o (by simpa using ho) e (by simpa using h1) h2
 ·
  have e : (fun i=>(Array.replicate l.toArray.size false).getD i true) = fun i=>decide (l.length ≤ i):=by
   funext i
   by_cases h : i < l.length
   ·
    simp [Array.getD,h]
   ·
    simp [Array.getD,h]; omega
  rw [e]
  exact h0
theorem op_at {l : List Oper} {i : Nat} {o : Oper} {K : Act → World → Prop} {a : Act} {w : World} (ho : l[i]? = some o)
  (h : ∀ K' : Act → World → Prop,(∀ a w,K a w → K' a w) → if Region.wanted o (yielded l.toArray a.tmps) = true then Oper.wp P o a w K' Q else K' (a.put o.dst undef) w) : wpOp P l.toArray Q i K a w :=
 wpOp_step (by simpa using ho) h
end Go.Proofs.YtpkkmhpobfjclaaGreat.Rg
namespace Go.Proofs.YtpkkmhpobfjclaaGreat.Sd
open Go Go.Proofs.YtpkkmhpobfjclaaGreat.Nf
def fnL : List Nat:=[4,5,6,8,9,10,11,12,13,14,15,16,17,19,20,21,22,23,24,25,26,27,28,29,30,31,32,33,34,35,39,40,41,42,43,44,45,46,47,48,49,50,51,52,53,54,55,75,76,77,78,79,80,81,82,83,89,90,91,92,93,94,95,96,97,98,99,100,101,102,103,104,105,119,122,123,124,125,126,127,128]
def slB (i : Nat) : Bool:=i == 2 || i == 24 || i == 40
def K : Rul where
 fn:=fun g=>fnL.contains g
 nm := fun s => s == "Len" || s == "Less" || s == "Swap" || s == "Push" || s == "Pop"
 fs:=fun f i=>f == 89 && slB i
 fv:=fun g=>g == 90
set_option maxRecDepth 100000
theorem code_all : fnL.all (fun f => codeB K Tryz.prog f (((Tryz.prog.funcs[f]?).bind (·.body)).getD (.refuse "unsupported: a function without a Go body is entered"))) = true := by kernel_rfl
theorem fn_mem {f : Nat} (h : K.fn f = true) : f ∈ fnL:=List.contains_iff_mem.1 h
theorem init_all : fnL.all (fun f=>(Tryz.prog.inits.idxOf? f).isNone) = true:=by kernel_rfl
theorem name_all : fnL.all (fun f => ((Tryz.prog.funcs[f]?).all fun fn => !(fn.name == "runtime.NumGoroutine"))) = true := by kernel_rfl
theorem body_all : fnL.all (fun f=>f == 92 || f == 119 || f == 128 || ((Tryz.prog.funcs[f]?).all fun fn=>!fn.body.isNone)) = true:=by kernel_rfl
theorem ready_all : Tryz.prog.funcs.all (fun f=>(f.body.map readies).all (·.isEmpty)) = true:=by kernel_rfl
theorem ahead_all : Tryz.prog.follows .staticDataAhead = true:=by kernel_rfl
theorem meth_all : methB K (fun g=>!(g == 89)) Tryz.prog = true:=by kernel_rfl
theorem extern_all : ∀ f, f = 92 ∨ f = 119 ∨ f = 128 → ∀ fn, Tryz.prog.funcs[f]? = some fn → Extern.findNext fn = none ∧ ∀ e, Extern.find fn = some e → ∀ args, fine Tryz.prog (e args) := by
  rintro f (rfl | rfl | rfl) fn hf
  · have e1 : Tryz.prog.funcs[92]? = some Tryz.f92 := Tryz.func92
    rw [e1] at hf
    cases hf
    refine ⟨by have : (Extern.findNext Tryz.f92).isNone = true := by kernel_rfl
               simpa using this, fun e he args => ?_⟩
    have : Extern.find Tryz.f92 = some (Extern.SlicesOverlaps.overlaps Tryz.f92.params Tryz.f92.resultTypes) := by rfl
    rw [this] at he
    cases he
    exact fine_overlaps _ _ _
  · have e1 : Tryz.prog.funcs[119]? = some Tryz.f119 := Tryz.func119
    rw [e1] at hf
    cases hf
    refine ⟨by have : (Extern.findNext Tryz.f119).isNone = true := by kernel_rfl
               simpa using this, fun e he args => ?_⟩
    have : (Extern.find Tryz.f119).isNone = true := by kernel_rfl
    rw [he] at this
    cases this
  · have e1 : Tryz.prog.funcs[128]? = some Tryz.f128 := Tryz.func128
    rw [e1] at hf
    cases hf
    refine ⟨by have : (Extern.findNext Tryz.f128).isNone = true := by kernel_rfl
               simpa using this, fun e he args => ?_⟩
    have : Extern.find Tryz.f128 = some (Extern.Atomic.swapT (.int .u64)) := by rfl
    rw [this] at he
    cases he
    exact fine_swapT _ _
theorem good : Go.Proofs.YtpkkmhpobfjclaaGreat.Nf.Good K Tryz.prog where
 code:=fun f hf=>List.all_eq_true.1 code_all f (fn_mem hf)
 init:=fun f hf=>by simpa using List.all_eq_true.1 init_all f (fn_mem hf)
 fn:={
  call:=fun g fn hg hf=>by
   have h1:=List.all_eq_true.1 name_all g (fn_mem hg)
   have h2:=List.all_eq_true.1 body_all g (fn_mem hg)
   rw [hf] at h1 h2
   refine ⟨by simpa using h1,?_⟩
   simp only [Bool.or_eq_true,beq_iff_eq] at h2
   rcases h2 with ((h2 | h2) | h2) | h2
   ·
    exact .inr (extern_all g (.inl h2) fn hf)
   ·
    exact .inr (extern_all g (.inr (.inl h2)) fn hf)
   ·
    exact .inr (extern_all g (.inr (.inr h2)) fn hf)
   ·
    exact .inl (by simpa using h2)
  meth:=meth_of (fun g hg s=>by
   have : (g == 89) = false:=by simpa using hg
   show (g == 89 && slB s) = false
   rw [this]; rfl) meth_all
  value:=fun g hg=>by
   have e : g = 90:=by simpa [K] using hg
   subst e
   exact ⟨by kernel_rfl,fun s=>rfl⟩ }
 ready:=ready_of ready_all
 ahead:=ahead_all
end Go.Proofs.YtpkkmhpobfjclaaGreat.Sd
