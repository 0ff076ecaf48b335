/- What is proved: the walks of RecordLong and RecordBack over the developers' own functions, in the form that the frames ask for. -/
import Derived.Test.YtfnoaagnemccmaaRcU
import Derived.Test.YtfnoaagnemccmaaRcO
import Derived.Test.YtfnoaagnemccmaaRvW
import Derived.Test.YtfnoaagnemccmaaRvV
import Derived.Test.YtfnoaagnemccmaaRcZa
namespace Go.Proofs.Ytfnoaagnemccmaa
open Go.RowKit

theorem fullRecordLong (a : Option Addr) (l c : Nat) (xs : List Int) (m : Int) (w : World) (h : In8 w a l c xs) (hm : 0 ≤ m ∧ m ≤ 255) :
    Calls Try.prog 6 #[.slice a l c, .int .u8 m] w fun e w' => e = .returned (.bool true) ∧ Below w.heap.size w w' :=
  walkRecordLong dev_bytes dev_read dev_stands dev_sread _ xs m w (bt_in h).1 h.2.1 (bt_in h).2 hm
theorem fullRecordBack (vr : Value) (r : Rc) (vs : Value) (s : St) (a : Option Addr) (l c : Nat) (xs : List Int) (w : World) (hr : RecIn w vr r) (hs : StIn w vs s) (h : In8 w a l c xs) :
    Calls Try.prog 5 #[vr, vs, .slice a l c] w fun e w' => e = .returned (.bool true) ∧ Below w.heap.size w w' :=
  walkRecordBack dev_bytes dev_read dev_stands dev_sbytes dev_sread dev_same dev_samest vr vs _ r s xs w hr.1 hs.1 (bt_in h).1 hr.in_ hs.in_ h.2.1 (bt_in h).2
end Go.Proofs.Ytfnoaagnemccmaa
