/- HasSuffix of package strings; is a byte one of a label, is a text a label: of the program and of the specification. -/
import Derived.Test.YtpkkmhpobfjclaaGreatNameI
set_option maxRecDepth 100000
set_option maxHeartbeats 32000000
set_option linter.unusedVariables false
namespace Go.Proofs.YtpkkmhpobfjclaaGreat.Nm
open Go.ChangeShapes Go.WideShapes Go.ChangeAt Go.RowKit
theorem hidIt {p : Prop} (h : p) : Hid p:=h
end Go.Proofs.YtpkkmhpobfjclaaGreat.Nm
