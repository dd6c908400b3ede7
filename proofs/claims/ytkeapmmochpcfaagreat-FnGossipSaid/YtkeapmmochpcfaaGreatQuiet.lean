/- A region that draws its order, whose operations only read, and whose callees leave all that lay below unturned: walked once, in the order of the text, in every world in which all that lay stays as it was. -/
import Derived.Test.YtkeapmmochpcfaaGreatMem
import Derived.Deep.QuietTactic
import Derived.BigQuiet
set_option maxRecDepth 100000
set_option maxHeartbeats 32000000
set_option linter.unusedVariables false
namespace Go.Proofs.YtkeapmmochpcfaaGreat.Rc
open Go.RowKit
structure BelowBy (w:World) where
 world:World
 h:Below w.heap.size w world
theorem BelowBy.one (w:World):Nonempty (BelowBy w):=⟨⟨w,Below.refl _ _⟩⟩
theorem BelowBy.cell {w:World} (p:BelowBy w) {a:Addr} {v:Value} (h:w.cell? a=some v):p.world.cell? a=some v:=by
 rw[p.h.cell (World.block_lt_of_cell? w a h)]
 exact h
theorem wp_region_below {P:Program} {id:Nat} {Q:Exit->Act->World->Prop} {a:Act} {w:World} {l:List Oper} (hm:P.follows .mixedOrders=true) (hB:Region.lexB .any l.toArray=true)
  (h:wpQuiet P l.toArray (fun w'=>∃ p:BelowBy w,w'=p.world) (fun a'=>∀ w',(∃ p:BelowBy w,w'=p.world)->Q .normal a' w') l a):(Code.region id l.toArray true).wp P Q a w :=
 wp_region_quiet (C:=fun w'=>∃ p:BelowBy w,w'=p.world) hm hB ⟨⟨w.drew,(Below.refl _ w).drew⟩,rfl⟩ (by simpa using h)
theorem calls_below {P:Program} {f:FuncId} {args:Array Value} {w:World} {p:BelowBy w} {v:Value} (h:Calls P f args p.world fun e w'=>e=.returned v∧Below p.world.heap.size p.world w') :
  Calls P f args p.world fun e w'=>e=.returned v∧∃ p:BelowBy w,w'=p.world :=
 h.mono fun _ w' ⟨he,k⟩=>⟨he,⟨w',p.h.trans (k.mono p.h.size)⟩,rfl⟩
theorem calls_same {P:Program} {f:FuncId} {args:Array Value} {w:World} {p:BelowBy w} {v:Value} (h:Calls P f args p.world fun e w'=>e=.returned v∧w'=p.world) :
  Calls P f args p.world fun e w'=>e=.returned v∧∃ p:BelowBy w,w'=p.world :=
 h.mono fun _ _ ⟨he,k⟩=>⟨he,p,k⟩
end Go.Proofs.YtkeapmmochpcfaaGreat.Rc
