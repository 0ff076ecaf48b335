/- What is proved: the walks of RecordParts, RecordFar, RecordMore over the developers' own functions, in the form that the frames ask for. -/
import Derived.Test.YtfnoaagnemccmaaRcP
import Derived.Test.YtfnoaagnemccmaaRcY
import Derived.Test.YtfnoaagnemccmaaRcM
import Derived.Test.YtfnoaagnemccmaaRvR
import Derived.Test.YtfnoaagnemccmaaFrmR
namespace Go.Proofs.Ytfnoaagnemccmaa
open Go.RowKit

theorem RecIn.in_ {w : World} {v : Value} {r : Rc} (h : RecIn w v r) : r.ws.length ≤ 1000 → r.In := fun hl => ⟨h.2.1, h.2.2, hl⟩
theorem StIn.in_ {w : World} {v : Value} {s : St} (h : StIn w v s) : s.items.length ≤ 1000 → s.l0.length ≤ 1000 → s.l1.length ≤ 1000 → s.l2.length ≤ 1000 → s.In := fun h1 h2 h3 h4 =>
  ⟨h.2.1, h.2.2.1, h.2.2.2.1, h.2.2.2.2.1, h.2.2.2.2.2.1, h.2.2.2.2.2.2.1, h.2.2.2.2.2.2.2.1, h.2.2.2.2.2.2.2.2, h1, h2, h3, h4⟩
theorem bt_in {w : World} {a : Option Addr} {l c : Nat} {xs : List Int} (h : In8 w a l c xs) : Bt w 0 w.heap.size (.slice a l c) xs ∧ xs.length ≤ 140737488351232 := by
  obtain ⟨h1, _, h3, h4⟩ := h
  have hl : xs.length = l := by rw [← h1.1]; exact (u8s_length xs).symm
  exact ⟨⟨a, c, by rw [hl], by omega, by unfold maxLen; omega, by rw [hl]; exact h1.rg⟩, by omega⟩
theorem fullRecordParts (v : Value) (l : List Wr) (w : World) (h : WsIn w v l) :
    Calls Try.prog 7 #[v] w fun e w' => e = .returned (.bool true) ∧ Below w.heap.size w w' :=
  walkRecordParts dev_bytes dev_read dev_stands dev_written dev_may v l w h.1 h.2
theorem fullRecordFar (vs : Value) (s : St) (n : Int) (w : World) (hs : StIn w vs s) (hn : I64 n) :
    Calls Try.prog 8 #[vs, .int .i64 n] w fun e w' => e = .returned (.bool true) ∧ Below w.heap.size w w' :=
  walkRecordFar dev_bytes dev_read dev_stands vs s n w hs.1 hs.in_ hn
theorem fullRecordMore (v : Value) (r : Rc) (u : Value) (x : Wr) (w : World) (h : RecIn w v r) (hx : WrIn u x) :
    Calls Try.prog 9 #[v, u] w fun e w' => e = .returned (.bool true) ∧ Below w.heap.size w w' := by
  obtain ⟨rfl, hx⟩ := hx
  exact walkRecordMore dev_bytes dev_read dev_stands v r x w h.1 h.2.1 h.2.2 hx
end Go.Proofs.Ytfnoaagnemccmaa
