/- The rests in memory: a pointer to a slice of slices of which at most two are there; what is kept, what turns. -/
import Derived.Test.YtpkkmhpobfjclaaGreatBokI
import Derived.Test.YtpkkmhpobfjclaaGreatBokH
set_option maxRecDepth 100000
set_option maxHeartbeats 32000000
set_option linter.unusedVariables false
namespace Go.Proofs.YtpkkmhpobfjclaaGreat.En
open Go.ChangeShapes Go.WideShapes Go.ChangeAt Go.RowKit
structure Fr (b g : Nat) (w w' : World) : Prop where
 os : w'.os = w.os
 tape : w'.tape = w.tape
 output : w'.output = w.output
 size : w.heap.size ≤ w'.heap.size
 block : ∀ k,k < w.heap.size → k ≠ b → k ≠ g → w'.heap[k]? = w.heap[k]?
theorem Fr.refl (b g : Nat) (w : World) : Fr b g w w:=⟨rfl,rfl,rfl,Nat.le_refl _,fun _ _ _ _=>rfl⟩
theorem Fr.trans {b g : Nat} {x y z : World} (h : Fr b g x y) (k : Fr b g y z) : Fr b g x z :=
 ⟨k.os.trans h.os,k.tape.trans h.tape,k.output.trans h.output,Nat.le_trans h.size k.size,fun i hi h1 h2=>(k.block i (Nat.lt_of_lt_of_le hi h.size) h1 h2).trans (h.block i hi h1 h2)⟩
theorem Fr.of_below {b g : Nat} {w w' : World} (h : Below w.heap.size w w') : Fr b g w w':=⟨h.os,h.tape,h.output,h.size,fun k hk _ _=>h.block k hk⟩
theorem Fr.drew {b g : Nat} {a w : World} (h : Fr b g a w) : Fr b g a w.drew:=⟨h.os,h.tape,h.output,h.size,h.block⟩
theorem Fr.setB {b g : Nat} {a w : World} (h : Fr b g a w) (i : Nat) (v : Value) : Fr b g a (w.setCell ⟨b,i,none⟩ v) :=
 h.trans ⟨rfl,rfl,rfl,by simp [World.setCell],fun k _ hb _=>Below.heap_setCell _ _ _ _ hb⟩
theorem Fr.setG {b g : Nat} {a w : World} (h : Fr b g a w) (i : Nat) (v : Value) : Fr b g a (w.setCell ⟨g,i,none⟩ v) :=
 h.trans ⟨rfl,rfl,rfl,by simp [World.setCell],fun k _ _ hg=>Below.heap_setCell _ _ _ _ hg⟩
theorem Fr.below {b g base : Nat} {w w' : World} (h : Fr b g w w') (hb : base ≤ b) (hg : base ≤ g) (hs : base ≤ w.heap.size) : Below base w w' :=
 ⟨h.os,h.tape,h.output,h.size,fun k hk=>h.block k (by omega) (by omega) (by omega)⟩
theorem Rd.fr {w w' : World} {b g p o : Nat} {L : List Rw} (h : Rd w (some ⟨p,o,none⟩) L) (k : Fr b g w w') (hb : p ≠ b) (hg : p ≠ g) : Rd w' (some ⟨p,o,none⟩) L :=
 ⟨fun i hi=>by
  obtain ⟨b',off,e,c⟩:=h.cell i hi
  cases e
  exact ⟨p,o,rfl,fun j hj=>by
   have hl:=cell_block (c j hj)
   rw [World.cell?_of_block (w:=w) (k.block p hl hb hg)]
   exact c j hj⟩⟩
theorem Rd.kept' {w w' : World} {base p o : Nat} {L : List Rw} (h : Rd w (some ⟨p,o,none⟩) L) (k : Below base w w') (hp : p < base) : Rd w' (some ⟨p,o,none⟩) L :=
 ⟨fun i hi=>by
  obtain ⟨b',off,e,c⟩:=h.cell i hi
  cases e
  exact ⟨p,o,rfl,fun j hj=>by rw [k.cell (by simpa using hp)]; exact c j hj⟩⟩
theorem Own.fr {w w' : World} {base b g : Nat} {v : Value} {L : List Rw} (h : Own w base v L) (k : Fr b g w w') (hb : b < base) (hg : g < base) : Own w' base v L:=by
 rcases h with ⟨h1,h2⟩
 refine ⟨h1,?_⟩
 rcases h2 with h2 | ⟨q,cap,cur,e,hq,hw,r⟩
 ·
  exact .inl h2
 ·
  exact .inr ⟨q,cap,cur,e,hq,(k.block q (Array.getElem?_eq_some_iff.1 hw).1 (by omega) (by omega)).trans hw,r⟩
structure Hp (w : World) (b g cap n : Nat) (v0 v1 : Value) : Prop where
 ne : b ≠ g
 bl : b < w.heap.size
 gl : g < w.heap.size
 le : n ≤ cap
 me : w.cell? ⟨b,0,none⟩ = some (.slice (some ⟨g,0,none⟩) n cap)
 mf : w.frozen? ⟨b,0,none⟩ = false
 row : ∀ i,i < n → w.cell? ⟨g,i,none⟩ = some (if i = 0 then v0 else v1)
 rf : ∀ i,w.frozen? ⟨g,i,none⟩ = false
theorem Hp.c0 {w : World} {b g cap n : Nat} {v0 v1 : Value} (h : Hp w b g cap n v0 v1) (hn : 0 < n) : w.cell? ⟨g,0,none⟩ = some v0:=by rw [h.row 0 hn,if_pos rfl]
theorem Hp.c1 {w : World} {b g cap n : Nat} {v0 v1 : Value} (h : Hp w b g cap n v0 v1) (hn : 1 < n) : w.cell? ⟨g,1,none⟩ = some v1:=by rw [h.row 1 hn,if_neg (by decide)]
theorem Hp.kept {w w' : World} {b g cap n : Nat} {v0 v1 : Value} (h : Hp w b g cap n v0 v1) (k : Below w.heap.size w w') : Hp w' b g cap n v0 v1 :=
 ⟨h.ne,Nat.lt_of_lt_of_le h.bl k.size,Nat.lt_of_lt_of_le h.gl k.size,h.le,by rw [k.cell (by simpa using h.bl)]; exact h.me,by rw [k.frozen (by simpa using h.bl)]; exact h.mf,
  fun i hi=>by rw [k.cell (by simpa using h.gl)]; exact h.row i hi,fun i=>by rw [k.frozen (by simpa using h.gl)]; exact h.rf i⟩
theorem Hp.drew {w : World} {b g cap n : Nat} {v0 v1 : Value} (h : Hp w b g cap n v0 v1) : Hp w.drew b g cap n v0 v1:=⟨h.ne,h.bl,h.gl,h.le,h.me,h.mf,h.row,h.rf⟩
theorem Hp.put0 {w : World} {b g cap n : Nat} {v0 v1 : Value} (h : Hp w b g cap n v0 v1) (hn : 0 < n) (v : Value) : Hp (w.setCell ⟨g,0,none⟩ v) b g cap n v v1 :=
 ⟨h.ne,by simpa using h.bl,by simpa using h.gl,h.le,by rw [World.cell?_setCell_other _ _ _ _ (fun x=>h.ne (Addr.mk.inj x).1.symm)]; exact h.me,by simpa using h.mf,
  fun i hi=>by
   by_cases e : i = 0
   ·
    subst e
    rw [World.cell?_setCell_same w ⟨g,0,none⟩ v (h.c0 hn),if_pos rfl]
   ·
    rw [World.cell?_setCell_other _ _ _ _ (fun x=>e (Addr.mk.inj x).2.1.symm),h.row i hi,if_neg e,if_neg e],
  fun i=>by simpa using h.rf i⟩
theorem Hp.put1 {w : World} {b g cap : Nat} {v0 v1 : Value} (h : Hp w b g cap 2 v0 v1) (v : Value) : Hp (w.setCell ⟨g,1,none⟩ v) b g cap 2 v0 v :=
 ⟨h.ne,by simpa using h.bl,by simpa using h.gl,h.le,by rw [World.cell?_setCell_other _ _ _ _ (fun x=>h.ne (Addr.mk.inj x).1.symm)]; exact h.me,by simpa using h.mf,
  fun i hi=>by
   by_cases e : i = 0
   ·
    subst e
    rw [World.cell?_setCell_other _ _ _ _ (fun x=>absurd (Addr.mk.inj x).2.1 (by decide)),h.row 0 hi,if_pos rfl,if_pos rfl]
   ·
    have e1 : i = 1:=by omega
    subst e1
    rw [World.cell?_setCell_same w ⟨g,1,none⟩ v (h.c1 (by omega)),if_neg e],
  fun i=>by simpa using h.rf i⟩
theorem Hp.cut {w : World} {b g cap n : Nat} {v0 v1 : Value} (h : Hp w b g cap n v0 v1) {m : Nat} (hm : m ≤ n) : Hp (w.setCell ⟨b,0,none⟩ (.slice (some ⟨g,0,none⟩) m cap)) b g cap m v0 v1 :=
 ⟨h.ne,by simpa using h.bl,by simpa using h.gl,Nat.le_trans hm h.le,World.cell?_setCell_same w ⟨b,0,none⟩ _ h.me,by simpa using h.mf,
  fun i hi=>by rw [World.cell?_setCell_other _ _ _ _ (fun x=>h.ne (Addr.mk.inj x).1)]; exact h.row i (by omega),
  fun i=>by simpa using h.rf i⟩
theorem Fr.setNew {b g : Nat} {a w : World} (h : Fr b g a w) {d : Nat} (hd : a.heap.size ≤ d) (i : Nat) (v : Value) : Fr b g a (w.setCell ⟨d,i,none⟩ v) :=
 ⟨h.os,h.tape,h.output,by have:=h.size; simpa [World.setCell] using this,fun k hk hb hg=>by rw [Below.heap_setCell _ _ _ _ (by simp; omega)]; exact h.block k hk hb hg⟩
theorem Hp.other {w : World} {b g cap n : Nat} {v0 v1 : Value} (h : Hp w b g cap n v0 v1) {d : Nat} (hb : d ≠ b) (hg : d ≠ g) (i : Nat) (v : Value) : Hp (w.setCell ⟨d,i,none⟩ v) b g cap n v0 v1 :=
 ⟨h.ne,by simpa using h.bl,by simpa using h.gl,h.le,by rw [World.cell?_setCell_other _ _ _ _ (fun x=>hb (Addr.mk.inj x).1)]; exact h.me,by simpa using h.mf,
  fun j hj=>by rw [World.cell?_setCell_other _ _ _ _ (fun x=>hg (Addr.mk.inj x).1)]; exact h.row j hj,fun j=>by simpa using h.rf j⟩
theorem box_fr {w w' : World} {b g d : Nat} {c : Array Value} (h : Bo.Box w d c) (k : Fr b g w w') (hb : d ≠ b) (hg : d ≠ g) : Bo.Box w' d c :=
 ⟨Nat.lt_of_lt_of_le h.lt k.size,fun i=>by rw [World.cell?_of_block (w:=w) (k.block d h.lt hb hg)]; exact h.at' i,fun i=>by rw [World.frozen?_of_block (w:=w) (k.block d h.lt hb hg)]; exact h.fr i⟩
theorem Rd.tail {w : World} {p o : Nat} {x : Rw} {L : List Rw} (h : Rd w (some ⟨p,o,none⟩) (x :: L)) : Rd w (some ⟨p,o + 5,none⟩) L :=
 ⟨fun i hi=>by
  obtain ⟨b',off,e,c⟩:=h.cell (i + 1) (by simp; omega)
  cases e
  refine ⟨p,o + 5,rfl,fun j hj=>?_⟩
  have:=c j hj
  rw [show o + 5 + (i * 5 + j) = o + ((i + 1) * 5 + j) by omega]
  exact this⟩
abbrev hI (b : Nat) : Value:=.iface 93 (.pointer (some ⟨b,0,none⟩))
end Go.Proofs.YtpkkmhpobfjclaaGreat.En
