/- PackNil: A reader that is nil answers ErrNil, or nothing, whatever it is asked. No condition. -/
import Derived.Test.YtijfdnaolgbpmaaPZ
import Derived.Test.YtijfdnaolgbpmaaQG
namespace Go.Proofs.Ytijfdnaolgbpmaa
open Go Go.RowKit
theorem packNil_holds : Rows.PackNilSaid := packNil_holds_of packOK nilOK
#print axioms packNil_holds
end Go.Proofs.Ytijfdnaolgbpmaa
