/- What is proved: general facts on a function's own boxes of two cells (a disk, a sector): kept by calls, read, written. -/
import Derived.Test.YtjahhheipeggeaaDskN
namespace Go.Proofs.Ytjahhheipeggeaa
open Go.RowKit

/-- Block g is a box of two cells that may be written. -/
def Box (w : World) (g : Nat) (u v : Value) : Prop := g < w.heap.size ∧ w.cell? ⟨g, 0, none⟩ = some u ∧ w.cell? ⟨g, 1, none⟩ = some v ∧ w.frozen? ⟨g, 0, none⟩ = false ∧ w.frozen? ⟨g, 1, none⟩ = false
theorem Box.far {w w' : World} {g : Nat} {u v : Value} (h : Box w g u v) (hb : Below w.heap.size w w') : Box w' g u v := by
  obtain ⟨h0, h1, h2, h3, h4⟩ := h
  exact ⟨Nat.lt_of_lt_of_le h0 hb.size, (hb.cell (p := ⟨g, 0, none⟩) h0).trans h1, (hb.cell (p := ⟨g, 1, none⟩) h0).trans h2, (hb.frozen (p := ⟨g, 0, none⟩) h0).trans h3, (hb.frozen (p := ⟨g, 1, none⟩) h0).trans h4⟩
theorem box_new (w : World) (e : TypeId) (u v : Value) : ∃ W, w.alloc (.cells #[u, v] e) = W ∧ Below w.heap.size w W ∧ Box W w.heap.size u v ∧ W.heap.size = w.heap.size + 1 := by
  have k := heap_alloc_new w (.cells #[u, v] e)
  exact ⟨_, rfl, (Below.refl _ _).alloc (Nat.le_refl _) _, ⟨by simp, cell_of_row _ _ 0 _ _ _ k, cell_of_row _ _ 1 _ _ _ k, blk_frozen k 0, blk_frozen k 1⟩, by simp⟩
/-- A value that is a slice. -/
def IsSl (v : Value) : Prop := ∃ a n c, v = .slice a n c
theorem secs_kind {l : List Sec} {j : Nat} {u : Value} (h : (secs l)[j]? = some u) : ¬ IsSl u := by
  have hm := List.mem_of_getElem? h
  obtain ⟨s, _, hs⟩ := List.mem_flatMap.1 hm
  simp only [Sec.cells, List.mem_cons, List.mem_nil_iff, or_false] at hs
  rintro ⟨a, n, c, rfl⟩
  rcases hs with h | h <;> cases h
theorem Rg.set_slice {w : World} {lo hi n : Nat} {a : Option Addr} {xs : List Sec} (h : Rg 2 w lo hi a n (secs xs)) {p : Addr} {v : Value} (hv : IsSl v) (hp : w.cell? p = some v) (u : Value) : Rg 2 (w.setCell p u) lo hi a n (secs xs) := by
  obtain ⟨h1, h2⟩ := h
  refine ⟨h1, h2.imp id ?_⟩
  rintro ⟨g, o, rfl, hg, hg', hc⟩
  refine ⟨g, o, rfl, hg, hg', fun j x hx => (World.cell?_setCell_other w p ⟨g, o + j, none⟩ u (fun e => ?_)).trans (hc j x hx)⟩
  rw [e, hc j x hx] at hp
  cases hp
  exact secs_kind hx hv
theorem Box.other {w : World} {g g' : Nat} {u v : Value} (h : Box w g u v) (n : g' ≠ g) (o : Nat) (x : Value) : Box (w.setCell ⟨g', o, none⟩ x) g u v := by
  obtain ⟨h0, h1, h2, h3, h4⟩ := h
  have ne : ∀ k, (⟨g', o, none⟩ : Addr) ≠ ⟨g, k, none⟩ := fun k e => n (congrArg Addr.block e)
  exact ⟨by simpa using h0, (World.cell?_setCell_other _ _ _ _ (ne 0)).trans h1, (World.cell?_setCell_other _ _ _ _ (ne 1)).trans h2, by rw [World.frozen?_setCell]; exact h3, by rw [World.frozen?_setCell]; exact h4⟩
/-- A disk as a value is kept by a write of a cell that holds a slice. -/
theorem Dk.set_slice {w : World} {lo hi : Nat} {v : Value} {d : Dsk} (h : Dk w lo hi v d) {p : Addr} {x : Value} (hx : IsSl x) (hp : w.cell? p = some x) (u : Value) : Dk (w.setCell p u) lo hi v d := by
  obtain ⟨a, l, c, a', l', c', hv, h1, h2, h3⟩ := h
  exact ⟨a, l, c, a', l', c', hv, h1.set_slice hx hp u, h2.set_slice hx hp u, h3⟩
/-- A box of a disk is written: the world behind it under a name, and what is kept. -/
theorem Box.put {w : World} {g : Nat} {u v : Value} (h : Box w g u v) (hu : IsSl u) (hv : IsSl v) (u' v' : Value) : ∃ W, (w.setCell ⟨g, 0, none⟩ u').setCell ⟨g, 1, none⟩ v' = W ∧ Box W g u' v' ∧ W.heap.size = w.heap.size ∧
    (∀ g' x y, g ≠ g' → Box w g' x y → Box W g' x y) ∧ (∀ lo hi x d, Dk w lo hi x d → Dk W lo hi x d) ∧ (∀ W0 : World, W0.heap.size ≤ g → Below W0.heap.size W0 w → Below W0.heap.size W0 W) := by
  obtain ⟨h0, h1, h2, h3, h4⟩ := h
  have ne : (⟨g, 0, none⟩ : Addr) ≠ ⟨g, 1, none⟩ := fun e => absurd (congrArg Addr.off e) (show ¬ (0 = 1) by decide)
  have ne' : (⟨g, 1, none⟩ : Addr) ≠ ⟨g, 0, none⟩ := fun e => absurd (congrArg Addr.off e) (show ¬ (1 = 0) by decide)
  have c1 : (w.setCell ⟨g, 0, none⟩ u').cell? ⟨g, 0, none⟩ = some u' := World.cell?_setCell_same _ _ _ h1
  have c2 : (w.setCell ⟨g, 0, none⟩ u').cell? ⟨g, 1, none⟩ = some v := (World.cell?_setCell_other _ _ _ _ ne).trans h2
  refine ⟨_, rfl, ⟨by simpa using h0, (World.cell?_setCell_other _ _ _ _ ne').trans c1, World.cell?_setCell_same _ _ _ c2, by rw [World.frozen?_setCell, World.frozen?_setCell]; exact h3, by rw [World.frozen?_setCell, World.frozen?_setCell]; exact h4⟩, by simp, ?_, ?_, ?_⟩
  · intro g' x y n hb
    exact (hb.other n 0 u').other n 1 v'
  · intro lo hi x d hd
    exact (hd.set_slice hu h1 u').set_slice hv c2 v'
  · intro W0 hW hb
    exact (hb.setCell hW _).setCell hW _
end Go.Proofs.Ytjahhheipeggeaa
