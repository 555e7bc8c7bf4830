/- PackBack: What was packed is read, in order, whatever stands behind; of what is read as a list the bytes are those that it was read of. No condition. -/
import Derived.Test.YtijfdnaolgbpmaaPZ
import Derived.Test.YtijfdnaolgbpmaaQG
namespace Go.Proofs.Ytijfdnaolgbpmaa
open Go Go.RowKit
theorem packBack_holds : Rows.PackBackSaid := packBack_holds_of packOK
#print axioms packBack_holds
end Go.Proofs.Ytijfdnaolgbpmaa
