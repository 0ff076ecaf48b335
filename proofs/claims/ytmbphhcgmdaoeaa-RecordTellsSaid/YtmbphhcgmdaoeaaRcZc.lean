/- What is proved: the walk of RecordTells over the developers' own functions and the document's own answer, in the form that the frame asks for. -/
import Derived.Test.YtmbphhcgmdaoeaaRcT
import Derived.Test.YtmbphhcgmdaoeaaRvW
import Derived.Test.YtmbphhcgmdaoeaaRvT
import Derived.Test.YtmbphhcgmdaoeaaRvR
import Derived.Test.YtmbphhcgmdaoeaaReC
import Derived.Test.YtmbphhcgmdaoeaaReE
import Derived.Test.YtmbphhcgmdaoeaaReF
import Derived.Test.YtmbphhcgmdaoeaaReR
import Derived.Test.YtmbphhcgmdaoeaaRcZd
namespace Go.Proofs.Ytmbphhcgmdaoeaa
open Go.RowKit

theorem fullRecordTells (va : Value) (a : Rc) (vb : Value) (b : Rc) (vs : Value) (s : St) (vt : Value) (t : St) (w : World) (ha : RecIn w va a) (hb : RecIn w vb b) (hs : StIn w vs s) (ht : StIn w vt t) :
    Calls Try.prog 3 #[va, vb, vs, vt] w fun e w' => e = .returned (.bool true) ∧ Below w.heap.size w w' :=
  walkRecordTells dev_bytes dev_read dev_stands dev_written dev_may dev_sbytes dev_same dev_samest rbytes_spec rstands_spec rwritten_spec rmay_spec rsbytes_spec rsame_spec rsamest_spec va vb vs vt a b s t w ha.1 hb.1 hs.1 ht.1 ha.in_ hb.in_ hs.in_ ht.in_
end Go.Proofs.Ytmbphhcgmdaoeaa
