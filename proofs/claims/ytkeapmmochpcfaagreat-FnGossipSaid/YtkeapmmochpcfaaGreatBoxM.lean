/- A block of cells that holds one struct: what it reads as, and what keeps it so. -/
import Derived.Test.YtkeapmmochpcfaaGreatMem
import Derived.Test.YtkeapmmochpcfaaGreatProg
import Derived.OwnWalk
set_option maxRecDepth 100000
set_option maxHeartbeats 32000000
set_option linter.unusedVariables false
namespace Go.Proofs.YtkeapmmochpcfaaGreat.Bo
open Go.ChangeShapes Go.WideShapes Go.ChangeAt Go.RowKit
structure Box (w:World) (b:Nat) (c:Array Value):Prop where
 lt:b<w.heap.size
 at':∀ i,w.cell? ⟨b,i,none⟩=c[i]?
 fr:∀ i,w.frozen? ⟨b,i,none⟩=false
theorem Box.new (w:World) (c:Array Value) (T:TypeId):Box (w.alloc (.cells c T)) w.heap.size c:=⟨by simp,fun i=>by simp,fun i=>by simp⟩
theorem Box.newAt {w:World} {c:Array Value} {T:TypeId} {k:Nat} (h:w.heap.size=k):Box (w.alloc (.cells c T)) k c:=by subst h;exact Box.new w c T
theorem Box.kept {w w':World} {b:Nat} {c:Array Value} (h:Box w b c) (k:Below w.heap.size w w'):Box w' b c :=
 ⟨Nat.lt_of_lt_of_le h.lt k.size,fun i=>by rw[k.cell (by simpa using h.lt)];exact h.at' i,fun i=>by rw[k.frozen (by simpa using h.lt)];exact h.fr i⟩
theorem Box.alloc {w:World} {b:Nat} {c:Array Value} (h:Box w b c) (o:Obj):Box (w.alloc o) b c:=h.kept ((Below.refl _ _).alloc (Nat.le_refl _) o)
theorem Box.drew {w:World} {b:Nat} {c:Array Value} (h:Box w b c):Box w.drew b c:=⟨h.lt,h.at',h.fr⟩
theorem Box.c {w:World} {b:Nat} {c:Array Value} (h:Box w b c) (i:Nat) {v:Value} (e:c[i]?=some v):w.cell? ⟨b,i,none⟩=some v:=(h.at' i).trans e
theorem Box.put {w:World} {b:Nat} {c c':Array Value} (h:Box w b c) (i:Nat) (v:Value) (hi:i<c.size) (e':c.setIfInBounds i v=c'):Box (w.setCell ⟨b,i,none⟩ v) b c':=by
 subst e'
 refine⟨by simpa using h.lt,fun j=>?_,fun j=>by simpa using h.fr j⟩
 by_cases e:i=j
 ·
  subst e
  rw[World.cell?_setCell_same w ⟨b,i,none⟩ v (h.c i (Array.getElem?_eq_getElem hi))]
  simp[hi]
 ·
  rw[World.cell?_setCell_other w ⟨b,i,none⟩ ⟨b,j,none⟩ v (fun x=>e (Addr.mk.inj x).2.1),h.at' j]
  simp[e]
theorem Box.other {w:World} {b d i:Nat} {c:Array Value} {v:Value} (h:Box w b c) (e:d≠b):Box (w.setCell ⟨d,i,none⟩ v) b c:=by
 refine⟨by simpa using h.lt,fun j=>?_,fun j=>by simpa using h.fr j⟩
 rw[World.cell?_setCell_other w ⟨d,i,none⟩ ⟨b,j,none⟩ v (fun x=>e (Addr.mk.inj x).1),h.at' j]
end Go.Proofs.YtkeapmmochpcfaaGreat.Bo
