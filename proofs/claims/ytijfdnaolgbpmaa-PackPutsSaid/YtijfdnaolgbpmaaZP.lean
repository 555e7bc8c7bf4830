/- PackPuts: For whatever number, text and list of texts the package's bytes, and its errors, are the document's (or the list is larger than what the statement looks at). No condition. -/
import Derived.Test.YtijfdnaolgbpmaaPZ
import Derived.Test.YtijfdnaolgbpmaaQG
namespace Go.Proofs.Ytijfdnaolgbpmaa
open Go Go.RowKit
theorem packPuts_holds : Rows.PackPutsSaid := packPuts_holds_of packOK
#print axioms packPuts_holds
end Go.Proofs.Ytijfdnaolgbpmaa
