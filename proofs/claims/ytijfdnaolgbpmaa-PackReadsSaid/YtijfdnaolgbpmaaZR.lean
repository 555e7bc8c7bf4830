/- PackReads: Whatever is called of a reader of whatever bytes: each answer, what is left and the fault are the document's. No condition. -/
import Derived.Test.YtijfdnaolgbpmaaPZ
import Derived.Test.YtijfdnaolgbpmaaQG
namespace Go.Proofs.Ytijfdnaolgbpmaa
open Go Go.RowKit
theorem packReads_holds : Rows.PackReadsSaid := packReads_holds_of packOK
#print axioms packReads_holds
end Go.Proofs.Ytijfdnaolgbpmaa
