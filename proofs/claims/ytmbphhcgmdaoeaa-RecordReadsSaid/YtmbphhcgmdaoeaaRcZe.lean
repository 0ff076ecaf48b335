/- What is proved: what comes in keeps the bounds that the specs ask for. What is proved: the walk of RecordReads over the developers' own functions and the document's own answer, in the form that the frame asks for. -/
import Derived.Test.YtmbphhcgmdaoeaaFrmR
import Derived.Test.YtmbphhcgmdaoeaaRcW
import Derived.Test.YtmbphhcgmdaoeaaFrm
import Derived.Test.YtmbphhcgmdaoeaaRcN
import Derived.Test.YtmbphhcgmdaoeaaRvR
import Derived.Test.YtmbphhcgmdaoeaaRvV
import Derived.Test.YtmbphhcgmdaoeaaReE
import Derived.Test.YtmbphhcgmdaoeaaReF
import Derived.Test.YtmbphhcgmdaoeaaReN
import Derived.Test.YtmbphhcgmdaoeaaReU
namespace Go.Proofs.Ytmbphhcgmdaoeaa
open Go.RowKit

theorem RecIn.in_ {w : World} {v : Value} {r : Rc} (h : RecIn w v r) : r.ws.length ≤ 1000 → r.In := fun hl => ⟨h.2.1, h.2.2, hl⟩
theorem StIn.in_ {w : World} {v : Value} {s : St} (h : StIn w v s) : s.items.length ≤ 1000 → s.l0.length ≤ 1000 → s.l1.length ≤ 1000 → s.l2.length ≤ 1000 → s.In := fun h1 h2 h3 h4 =>
  ⟨h.2.1, h.2.2.1, h.2.2.2.1, h.2.2.2.2.1, h.2.2.2.2.2.1, h.2.2.2.2.2.2.1, h.2.2.2.2.2.2.2.1, h.2.2.2.2.2.2.2.2, h1, h2, h3, h4⟩
theorem bt_in {w : World} {a : Option Addr} {l c : Nat} {xs : List Int} (h : In8 w a l c xs) : Bt w 0 w.heap.size (.slice a l c) xs ∧ xs.length ≤ 140737488351232 := by
  obtain ⟨h1, _, h3, h4⟩ := h
  have hl : xs.length = l := by rw [← h1.1]; exact (u8s_length xs).symm
  exact ⟨⟨a, c, by rw [hl], by omega, by unfold maxLen; omega, by rw [hl]; exact h1.rg⟩, by omega⟩

theorem fullRecordReads (a : Option Addr) (l c : Nat) (xs : List Int) (w : World) (h : In8 w a l c xs) :
    Calls Try.prog 4 #[.slice a l c] w fun e w' => e = .returned (.bool true) ∧ Below w.heap.size w w' :=
  walkRecordReads dev_bytes dev_read dev_stands dev_sread rread_spec rsread_spec rsame_spec rsamest_spec _ xs w (bt_in h).1 h.2.1 (bt_in h).2
end Go.Proofs.Ytmbphhcgmdaoeaa
