/- What is proved: the walk of DiskOwn, at every input. -/
import Derived.Test.YtjahhheipeggeaaDwD
import Derived.Test.YtjahhheipeggeaaDwG
namespace Go.Proofs.Ytjahhheipeggeaa
open Go.RowKit

theorem fullDiskOwn (v : Value) (d : Dsk) (x : DAct) (w : World) (Dd : Dk w 0 w.heap.size v d) (hx : x.In) :
    Calls Try.prog 8 #[v, x.val] w fun e w' => e = .returned (.bool true) ∧ Below w.heap.size w w' := by
  obtain ⟨a, l, c, a', l', c', rfl, _⟩ := id Dd
  rcases sd : smallD d with _ | _
  · exact own_no a l c a' l' c' d x w Dd (.inl sd)
  by_cases g0 : 1000 < x.b.size
  · exact own_no a l c a' l' c' d x w Dd (.inr ⟨sd, (.inl g0)⟩)
  have q0 : x.b.size ≤ 1000 := by omega
  rcases hk : chkB d with _ | _
  · exact own_no a l c a' l' c' d x w Dd (.inr ⟨sd, (.inr ⟨q0, hk⟩)⟩)
  · exact own_in a l c a' l' c' d x w Dd hk hx q0
end Go.Proofs.Ytjahhheipeggeaa
