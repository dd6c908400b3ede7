/- Plain facts on worlds, with no program in sight: 'Only c w w'': no block that was there has turned but block c. -/
import Derived.WalkKit
import Derived.ProofKit
import Derived.Below
import Derived.Deep.Draws
import Derived.Laws.BitsLemmas
set_option maxRecDepth 100000
set_option maxHeartbeats 32000000
set_option linter.unusedVariables false
namespace Go.Proofs.YtkeapmmochpcfaaGreat
open Go.RowKit

structure Only (c:Nat) (w w':World):Prop where
 os:w'.os=w.os
 tape:w'.tape=w.tape
 output:w'.output=w.output
 size:w.heap.size<=w'.heap.size
 block:∀ k,k<w.heap.size->k≠c->w'.heap[k]?=w.heap[k]?
theorem Only.refl (c:Nat) (w:World):Only c w w:=⟨rfl,rfl,rfl,Nat.le_refl _,fun _ _ _=>rfl⟩
theorem Only.trans {c:Nat} {a b d:World} (h:Only c a b) (k:Only c b d):Only c a d :=
 ⟨k.os.trans h.os,k.tape.trans h.tape,k.output.trans h.output,Nat.le_trans h.size k.size,fun i hi hc=>(k.block i (Nat.lt_of_lt_of_le hi h.size) hc).trans (h.block i hi hc)⟩
theorem Only.drewN {c:Nat} {a w:World} (h:Only c a w) (n:Nat):Only c a (w.drewN n):=⟨h.os,h.tape,h.output,h.size,h.block⟩
theorem Only.drew {c:Nat} {a w:World} (h:Only c a w):Only c a w.drew:=⟨h.os,h.tape,h.output,h.size,h.block⟩
theorem Only.alloc {c:Nat} {a w:World} (h:Only c a w) (o:Obj):Only c a (w.alloc o) :=
 h.trans ⟨rfl,rfl,rfl,by simp,fun k hk _=>Below.heap_alloc _ _ _ hk⟩
theorem Only.setCell {c:Nat} {a w:World} (h:Only c a w) (i:Nat) (v:Value):Only c a (w.setCell ⟨c,i,none⟩ v) :=
 h.trans ⟨rfl,rfl,rfl,by simp[World.setCell],fun k _ hc=>Below.heap_setCell _ _ _ _ hc⟩
theorem Only.below {c B:Nat} {w w':World} (h:Only c w w') (hB:B<=c) (hs:B<=w.heap.size):Below B w w' :=
 ⟨h.os,h.tape,h.output,h.size,fun k hk=>h.block k (by omega) (by omega)⟩
theorem Only.of_below {c:Nat} {w w':World} (h:Below w.heap.size w w'):Only c w w' :=
 ⟨h.os,h.tape,h.output,h.size,fun k hk _=>h.block k hk⟩
theorem Only.cell {c:Nat} {w w':World} (h:Only c w w') {p:Addr} (hp:p.block<w.heap.size) (hc:p.block≠c):w'.cell? p=w.cell? p:=World.cell?_of_block (w:=w) (h.block p.block hp hc)
theorem Only.frozen {c:Nat} {w w':World} (h:Only c w w') {p:Addr} (hp:p.block<w.heap.size) (hc:p.block≠c):w'.frozen? p=w.frozen? p:=World.frozen?_of_block (w:=w) (h.block p.block hp hc)
theorem Below.drewN {B:Nat} {a w:World} (h:Below B a w) (n:Nat):Below B a (w.drewN n):=⟨h.os,h.tape,h.output,h.size,h.block⟩
theorem cell_set_other {w:World} {b i j:Nat} {v:Value} (h:i≠j):(w.setCell ⟨b,i,none⟩ v).cell? ⟨b,j,none⟩=w.cell? ⟨b,j,none⟩ :=
 World.cell?_setCell_other _ _ _ _ (by simp)
theorem cell_set_far {w:World} {b c i j:Nat} {v:Value} (h:b≠c):(w.setCell ⟨b,i,none⟩ v).cell? ⟨c,j,none⟩=w.cell? ⟨c,j,none⟩ :=
 World.cell?_setCell_other _ _ _ _ (by simp)
theorem mask255 (x:Int):0<=bits .and .i64 x 255∧bits .and .i64 x 255<=255:=by
 have e:(BitVec.ofInt 64 x &&& BitVec.ofInt 64 255).toNat<=255:=by
  rw[BitVec.toNat_and]
  have:(BitVec.ofInt 64 255).toNat=255:=by decide
  rw[this];exact Nat.and_le_right
 have h:bits .and .i64 x 255=IntKind.i64.wrap ((BitVec.ofInt 64 x &&& BitVec.ofInt 64 255).toNat:Int):=rfl
 rw[h]
 generalize (BitVec.ofInt 64 x &&& BitVec.ofInt 64 255).toNat=n at e
 rw[IntKind.wrap_i64];omega
end Go.Proofs.YtkeapmmochpcfaaGreat
