/-
  Is a text a label, NameOk and Before of the specification.
-/
import Derived.Test.YtciikondckoboaaDoorNameS
import Derived.Test.YtciikondckoboaaDoorNameM
namespace Go.Proofs.YtciikondckoboaaDoor.Nm
open Go.ChangeShapes Go.WideShapes Go.ChangeAt Go.RowKit
end Go.Proofs.YtciikondckoboaaDoor.Nm
