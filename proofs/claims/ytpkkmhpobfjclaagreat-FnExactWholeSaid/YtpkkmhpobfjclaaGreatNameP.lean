/- A name in plain words: the pieces between the dots, when it is a name, what is behind the first dot, what ends with what, and the order from the end on. No program in sight. -/
import Derived.Test.YtpkkmhpobfjclaaGreatMem
import Derived.Lib.Strings
set_option maxRecDepth 100000
set_option maxHeartbeats 32000000
set_option linter.unusedVariables false
namespace Go.Proofs.YtpkkmhpobfjclaaGreat.Nm
open Go.RowKit
abbrev Bytes:=List UInt8
abbrev B (l : Bytes) : ByteArray:=⟨l.toArray⟩
abbrev bs (s : ByteArray) : Bytes:=s.data.toList
theorem B_bs (s : ByteArray) : B (bs s) = s:=by cases s; simp
end Go.Proofs.YtpkkmhpobfjclaaGreat.Nm
