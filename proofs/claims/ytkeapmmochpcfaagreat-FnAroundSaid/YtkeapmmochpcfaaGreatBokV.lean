/- Joined, Written, ValueOf and Alive of the specification. -/
import Derived.Test.YtkeapmmochpcfaaGreatBokJ
import Derived.Test.YtkeapmmochpcfaaGreatNameR
set_option maxRecDepth 100000
set_option maxHeartbeats 32000000
set_option linter.unusedVariables false
namespace Go.Proofs.YtkeapmmochpcfaaGreat.En
open Go.ChangeShapes Go.WideShapes Go.ChangeAt Go.RowKit
open Rc (BelowBy BelowBy.one wp_region_below calls_below calls_same)
open Bk (Bytes okE newB okBk look Ris IsJoin joinB)
attribute [local go_sem] str_gtr str_leq
abbrev shortR (L : List Rw) : Prop:=∀ i,i < L.length → (rat L i).1.size ≤ 9223372036854775807 ∧ (rat L i).2.1.size ≤ 9223372036854775807
end Go.Proofs.YtkeapmmochpcfaaGreat.En
