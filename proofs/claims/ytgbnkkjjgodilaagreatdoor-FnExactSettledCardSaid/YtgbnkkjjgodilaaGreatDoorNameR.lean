/- A list of texts as it lies in memory: one cell a text; a row of the call's own. -/
import Derived.Test.YtgbnkkjjgodilaaGreatDoorNameP
import Derived.Laws.OwnMore
import Derived.Deep.OwnRows
import Derived.OwnWalk
import Derived.Laws.AppendOwn
import Derived.Lib.SmallJoins
set_option maxRecDepth 100000
set_option maxHeartbeats 32000000
set_option linter.unusedVariables false
namespace Go.Proofs.YtgbnkkjjgodilaaGreatDoor.Nm
open Go.ChangeShapes Go.WideShapes Go.ChangeAt Go.RowKit
def sat (L : List ByteArray) (i : Nat) : ByteArray:=L.getD i ByteArray.empty
theorem sat_at {L : List ByteArray} {i : Nat} (h : i < L.length) : sat L i = L[i]:=by
 unfold sat
 rw [List.getD_eq_getElem?_getD,List.getElem?_eq_getElem h]
 rfl
abbrev scells (L : List ByteArray) : List Value:=L.map Value.string
theorem scells_at {L : List ByteArray} {i : Nat} (h : i < L.length) : (scells L)[i]? = some (.string (sat L i)):=by
 rw [sat_at h,List.getElem?_map,List.getElem?_eq_getElem h]
 rfl
structure Rd (w : World) (a : Option Addr) (L : List ByteArray) : Prop where
 cell : ∀ i,i < L.length → ∃ b off,a = some ⟨b,off,none⟩ ∧ w.cell? ⟨b,off + i,none⟩ = some (.string (sat L i))
def Own (w : World) (base : Nat) (v : Value) (L : List ByteArray) : Prop:=w.ownsRow base 9 1 v L.length (scells L)
theorem Own.form {w : World} {base : Nat} {v : Value} {L : List ByteArray} (h : Own w base v L) : ∃ a cap,v = .slice a L.length cap ∧ L.length ≤ cap ∧ cap ≤ maxLen ∧ Rd w a L ∧ (a = none → cap = 0) ∧ (∀ x,a = some x → ∃ g,x = ⟨g,0,none⟩ ∧ base ≤ g ∧ g < w.heap.size):=by
 have h':=h
 rcases h.2 with ⟨rfl,h0⟩ | ⟨g,cap,cur,rfl,hb,hg,hn,hm,rest⟩
 ·
  exact ⟨none,0,by rw [h0],by omega,by decide,⟨fun i hi=>by omega⟩,fun _=>rfl,fun x hx=>by cases hx⟩
 ·
  refine ⟨some ⟨g,0,none⟩,cap,rfl,hn,hm,⟨fun i hi=>⟨g,0,rfl,?_⟩⟩,(fun e=>by cases e),fun x hx=>⟨g,by cases hx; rfl,hb,(Array.getElem?_eq_some_iff.1 hg).1⟩⟩
  rw [Nat.zero_add,World.ownsRow.cellAt h' _ (by omega),scells_at hi]
theorem Own.alloc {w : World} {base : Nat} {v : Value} {L : List ByteArray} (h : Own w base v L) (o : Obj) : Own (w.alloc o) base v L:=World.ownsRow.alloc h o
theorem Own.new (w : World) : Own (w.alloc (.cells #[] 9)) w.heap.size (.slice (some ⟨w.heap.size,0,none⟩) 0 0) [] :=
 World.ownsRow_made w #[] 0 (Nat.le_refl _) (by decide) rfl
theorem Own.more {w : World} {base : Nat} {v : Value} {L : List ByteArray} {s : ByteArray} (h : w.ownsRow base 9 1 v (L.length + 1) (scells L ++ [.string s])) : Own w base v (L ++ [s]):=by
 unfold Own
 rw [List.length_append,scells,List.map_append]
 exact h
theorem grown_below {w w' : World} {base B : Nat} {v : Value} {L : List ByteArray} (h : Own w base v L) (g : w.grownBy w' v.ownBlock) (hB : B ≤ base) (hs : B ≤ w.heap.size) : Below B w w' :=
 ⟨g.os,g.tape,g.output,g.size,fun k hk=>g.block k (by omega) (fun e=>by have:=(World.ownsRow.lt h k e.symm).1; omega)⟩
end Go.Proofs.YtgbnkkjjgodilaaGreatDoor.Nm
