/- What is proved: the walk of DiskApart, at every input. -/
import Derived.Test.YtjahhheipeggeaaDwA
import Derived.Test.YtjahhheipeggeaaDwE
namespace Go.Proofs.Ytjahhheipeggeaa
open Go.RowKit

theorem fullDiskApart (v : Value) (d : Dsk) (x y : DAct) (w : World) (Dd : Dk w 0 w.heap.size v d) (hx : x.In) (hy : y.In) :
    Calls Try.prog 6 #[v, x.val, y.val] w fun e w' => e = .returned (.bool true) ∧ Below w.heap.size w w' := by
  obtain ⟨a, l, c, a', l', c', rfl, _⟩ := id Dd
  rcases sd : smallD d with _ | _
  · exact apart_no a l c a' l' c' d x y w Dd (.inl sd)
  by_cases g0 : 1000 < x.b.size
  · exact apart_no a l c a' l' c' d x y w Dd (.inr ⟨sd, (.inl g0)⟩)
  have q0 : x.b.size ≤ 1000 := by omega
  by_cases g1 : 1000 < y.b.size
  · exact apart_no a l c a' l' c' d x y w Dd (.inr ⟨sd, (.inr (.inl ⟨q0, g1⟩))⟩)
  have q1 : y.b.size ≤ 1000 := by omega
  rcases hk : chkB d with _ | _
  · exact apart_no a l c a' l' c' d x y w Dd (.inr ⟨sd, (.inr (.inr ⟨q0, q1, hk⟩))⟩)
  · exact apart_in a l c a' l' c' d x y w Dd hk hx hy q0 q1
end Go.Proofs.Ytjahhheipeggeaa
