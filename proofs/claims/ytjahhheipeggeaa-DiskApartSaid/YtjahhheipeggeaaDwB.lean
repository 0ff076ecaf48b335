/- What is proved: two boxes of disks, made and written in whatever order: what they hold at the end. -/
import Derived.Test.YtjahhheipeggeaaDvH
namespace Go.Proofs.Ytjahhheipeggeaa
open Go.RowKit

theorem kept1 {W w' : World} {u v : Value} {e : TypeId} (h : Below (W.alloc (.cells #[u, v] e)).heap.size (W.alloc (.cells #[u, v] e)) w') : Box w' W.heap.size u v := by
  obtain ⟨W', e1, _, hB, _⟩ := box_new W e u v
  rw [e1] at h
  exact hB.far h
theorem kept2 {W w' : World} {u v x y : Value} {e e' : TypeId} (h : Below ((W.alloc (.cells #[u, v] e)).alloc (.cells #[x, y] e')).heap.size ((W.alloc (.cells #[u, v] e)).alloc (.cells #[x, y] e')) w') : Box w' W.heap.size u v ∧ Box w' (W.heap.size + 1) x y := by
  obtain ⟨W1, e1, _, hB1, hs1⟩ := box_new W e u v
  obtain ⟨W2, e2, hb2, hB2, _⟩ := box_new W1 e' x y
  rw [e1, e2] at h
  rw [hs1] at hB2
  exact ⟨(hB1.far hb2).far h, hB2.far h⟩
theorem box_ne {w : World} {g g' : Nat} {u v u' v' : Value} (_ : Box w g u v) (_ : Box w g' u' v') (h : g < g') : ¬ g = g' ∧ ¬ g' = g := ⟨by omega, by omega⟩

theorem kne {B : World} {g : Nat} {u v : Value} (F : Box B g u v) : ¬ g = B.heap.size ∧ ¬ B.heap.size = g ∧ ¬ g = B.heap.size + 1 ∧ ¬ B.heap.size + 1 = g := by
  have := F.1
  exact ⟨by omega, by omega, by omega, by omega⟩
def Kpt1 (W : World) (u v : Value) (e : TypeId) (w' : World) : Prop := Below (W.alloc (.cells #[u, v] e)).heap.size (W.alloc (.cells #[u, v] e)) w'
def Kpt2 (W : World) (u v : Value) (e : TypeId) (x y : Value) (e' : TypeId) (w' : World) : Prop := Below ((W.alloc (.cells #[u, v] e)).alloc (.cells #[x, y] e')).heap.size ((W.alloc (.cells #[u, v] e)).alloc (.cells #[x, y] e')) w'
theorem kpt1_eq (W : World) (u v : Value) (e : TypeId) (w' : World) : Below (W.alloc (.cells #[u, v] e)).heap.size (W.alloc (.cells #[u, v] e)) w' = Kpt1 W u v e w' := rfl
theorem kpt2_eq (W : World) (u v : Value) (e : TypeId) (x y : Value) (e' : TypeId) (w' : World) : Below ((W.alloc (.cells #[u, v] e)).alloc (.cells #[x, y] e')).heap.size ((W.alloc (.cells #[u, v] e)).alloc (.cells #[x, y] e')) w' = Kpt2 W u v e x y e' w' := rfl
def Kpt3 (W : World) (u v : Value) (e : TypeId) (w' : World) : Prop := Below (W.alloc (.cells #[u, v] e)).drew.heap.size (W.alloc (.cells #[u, v] e)).drew w'
def Kpt4 (W : World) (u v : Value) (e : TypeId) (x y : Value) (e' : TypeId) (w' : World) : Prop := Below ((W.alloc (.cells #[u, v] e)).alloc (.cells #[x, y] e')).drew.heap.size ((W.alloc (.cells #[u, v] e)).alloc (.cells #[x, y] e')).drew w'
theorem kpt3_eq (W : World) (u v : Value) (e : TypeId) (w' : World) : Below (W.alloc (.cells #[u, v] e)).drew.heap.size (W.alloc (.cells #[u, v] e)).drew w' = Kpt3 W u v e w' := rfl
theorem kpt4_eq (W : World) (u v : Value) (e : TypeId) (x y : Value) (e' : TypeId) (w' : World) : Below ((W.alloc (.cells #[u, v] e)).alloc (.cells #[x, y] e')).drew.heap.size ((W.alloc (.cells #[u, v] e)).alloc (.cells #[x, y] e')).drew w' = Kpt4 W u v e x y e' w' := rfl
theorem Kpt3.get {W w' : World} {u v : Value} {e : TypeId} (h : Kpt3 W u v e w') : Box w' W.heap.size u v := kept1 (((Below.refl (W.alloc (.cells #[u, v] e)).heap.size (W.alloc (.cells #[u, v] e))).drew).trans h)
theorem Kpt4.get {W w' : World} {u v x y : Value} {e e' : TypeId} (h : Kpt4 W u v e x y e' w') : Box w' W.heap.size u v ∧ Box w' (W.heap.size + 1) x y := kept2 (((Below.refl ((W.alloc (.cells #[u, v] e)).alloc (.cells #[x, y] e')).heap.size ((W.alloc (.cells #[u, v] e)).alloc (.cells #[x, y] e'))).drew).trans h)
theorem Kpt1.get {W w' : World} {u v : Value} {e : TypeId} (h : Kpt1 W u v e w') : Box w' W.heap.size u v := kept1 h
theorem Kpt2.get {W w' : World} {u v x y : Value} {e e' : TypeId} (h : Kpt2 W u v e x y e' w') : Box w' W.heap.size u v ∧ Box w' (W.heap.size + 1) x y := kept2 h
/-- Two boxes that hold two disks. -/
def TwoD (W : World) (d1 d2 : Dsk) (p q : Value) (w : World) : Prop :=
  ∃ (g g' : Nat) (r : Option Addr) (n c : Nat) (r' : Option Addr) (n' c' : Nat) (s : Option Addr) (m k : Nat) (s' : Option Addr) (m' k' : Nat), p = .pointer (some ⟨g, 0, none⟩) ∧ q = .pointer (some ⟨g', 0, none⟩) ∧ Box w g (.slice r n c) (.slice r' n' c') ∧ Box w g' (.slice s m k) (.slice s' m' k') ∧
    Dk w 0 w.heap.size (.agg #[.slice r n c, .slice r' n' c']) d1 ∧ Dk w 0 w.heap.size (.agg #[.slice s m k, .slice s' m' k']) d2 ∧ Below W.heap.size W w
section
variable {W B : World} {d1 d2 : Dsk} {r r' s s' : Option Addr} {n c n' c' m k m' k' : Nat} {e e' : TypeId} {g g' : Nat}
theorem fin1 (HC : Below W.heap.size W B) (h1 : Dk B 0 B.heap.size (.agg #[.slice r n c, .slice r' n' c']) d1) (h2 : Dk B 0 B.heap.size (.agg #[.slice s m k, .slice s' m' k']) d2) :
    TwoD W d1 d2 (.pointer (some ⟨B.heap.size, 0, none⟩)) (.pointer (some ⟨B.heap.size + 1, 0, none⟩)) ((B.alloc (.cells #[.slice r n c, .slice r' n' c'] e)).alloc (.cells #[.slice s m k, .slice s' m' k'] e')) := by
  obtain ⟨W1, e1, hb1, hB1, hs1⟩ := box_new B e (.slice r n c) (.slice r' n' c')
  obtain ⟨W2, e2, hb2, hB2, _⟩ := box_new W1 e' (.slice s m k) (.slice s' m' k')
  rw [e1, e2]
  rw [hs1] at hB2
  exact ⟨_, _, _, _, _, _, _, _, _, _, _, _, _, _, rfl, rfl, hB1.far hb2, hB2, (h1.on hb1).on hb2, (h2.on hb1).on hb2, (HC.trans (hb1.mono HC.size)).trans (hb2.mono (HC.trans (hb1.mono HC.size)).size)⟩
theorem fin2 (HC : Below W.heap.size W B) (h1 : Dk B 0 B.heap.size (.agg #[.slice r n c, .slice r' n' c']) d1) (h2 : Dk B 0 B.heap.size (.agg #[.slice s m k, .slice s' m' k']) d2) :
    TwoD W d1 d2 (.pointer (some ⟨B.heap.size + 1, 0, none⟩)) (.pointer (some ⟨B.heap.size, 0, none⟩)) ((B.alloc (.cells #[.slice s m k, .slice s' m' k'] e)).alloc (.cells #[.slice r n c, .slice r' n' c'] e')) := by
  obtain ⟨W1, e1, hb1, hB1, hs1⟩ := box_new B e (.slice s m k) (.slice s' m' k')
  obtain ⟨W2, e2, hb2, hB2, _⟩ := box_new W1 e' (.slice r n c) (.slice r' n' c')
  rw [e1, e2]
  rw [hs1] at hB2
  exact ⟨_, _, _, _, _, _, _, _, _, _, _, _, _, _, rfl, rfl, hB2, hB1.far hb2, (h1.on hb1).on hb2, (h2.on hb1).on hb2, (HC.trans (hb1.mono HC.size)).trans (hb2.mono (HC.trans (hb1.mono HC.size)).size)⟩
theorem fin3 {u v : Value} (hu : IsSl u) (hv : IsSl v) (F : Box B g u v) (hg : W.heap.size ≤ g) (HC : Below W.heap.size W B) (h1 : Dk B 0 B.heap.size (.agg #[.slice r n c, .slice r' n' c']) d1) (h2 : Dk B 0 B.heap.size (.agg #[.slice s m k, .slice s' m' k']) d2) :
    TwoD W d1 d2 (.pointer (some ⟨g, 0, none⟩)) (.pointer (some ⟨B.heap.size, 0, none⟩)) (((B.setCell ⟨g, 0, none⟩ (.slice r n c)).setCell ⟨g, 1, none⟩ (.slice r' n' c')).alloc (.cells #[.slice s m k, .slice s' m' k'] e)) := by
  obtain ⟨W1, e1, hB1, hs1, ho, hk, hw⟩ := F.put hu hv (.slice r n c) (.slice r' n' c')
  obtain ⟨W2, e2, hb2, hB2, _⟩ := box_new W1 e (.slice s m k) (.slice s' m' k')
  rw [e1, e2]
  rw [hs1] at hB2
  have HC1 := hw W hg HC
  exact ⟨_, _, _, _, _, _, _, _, _, _, _, _, _, _, rfl, rfl, hB1.far hb2, hB2, ((hk _ _ _ _ h1).wide (Nat.le_refl _) (Nat.le_of_eq hs1.symm)).on hb2, ((hk _ _ _ _ h2).wide (Nat.le_refl _) (Nat.le_of_eq hs1.symm)).on hb2, HC1.trans (hb2.mono HC1.size)⟩
theorem fin4 {u v : Value} (hu : IsSl u) (hv : IsSl v) (F : Box B g u v) (hg : W.heap.size ≤ g) (HC : Below W.heap.size W B) (h1 : Dk B 0 B.heap.size (.agg #[.slice r n c, .slice r' n' c']) d1) (h2 : Dk B 0 B.heap.size (.agg #[.slice s m k, .slice s' m' k']) d2) :
    TwoD W d1 d2 (.pointer (some ⟨B.heap.size, 0, none⟩)) (.pointer (some ⟨g, 0, none⟩)) (((B.setCell ⟨g, 0, none⟩ (.slice s m k)).setCell ⟨g, 1, none⟩ (.slice s' m' k')).alloc (.cells #[.slice r n c, .slice r' n' c'] e)) := by
  obtain ⟨W1, e1, hB1, hs1, ho, hk, hw⟩ := F.put hu hv (.slice s m k) (.slice s' m' k')
  obtain ⟨W2, e2, hb2, hB2, _⟩ := box_new W1 e (.slice r n c) (.slice r' n' c')
  rw [e1, e2]
  rw [hs1] at hB2
  have HC1 := hw W hg HC
  exact ⟨_, _, _, _, _, _, _, _, _, _, _, _, _, _, rfl, rfl, hB2, hB1.far hb2, ((hk _ _ _ _ h1).wide (Nat.le_refl _) (Nat.le_of_eq hs1.symm)).on hb2, ((hk _ _ _ _ h2).wide (Nat.le_refl _) (Nat.le_of_eq hs1.symm)).on hb2, HC1.trans (hb2.mono HC1.size)⟩
theorem fin5 {u v u' v' : Value} (hu : IsSl u) (hv : IsSl v) (hu' : IsSl u') (hv' : IsSl v') (F : Box B g u v) (F' : Box B g' u' v') (nn : ¬ g = g') (hg : W.heap.size ≤ g) (hg' : W.heap.size ≤ g') (HC : Below W.heap.size W B) (h1 : Dk B 0 B.heap.size (.agg #[.slice r n c, .slice r' n' c']) d1) (h2 : Dk B 0 B.heap.size (.agg #[.slice s m k, .slice s' m' k']) d2) :
    TwoD W d1 d2 (.pointer (some ⟨g, 0, none⟩)) (.pointer (some ⟨g', 0, none⟩)) ((((B.setCell ⟨g, 0, none⟩ (.slice r n c)).setCell ⟨g, 1, none⟩ (.slice r' n' c')).setCell ⟨g', 0, none⟩ (.slice s m k)).setCell ⟨g', 1, none⟩ (.slice s' m' k')) := by
  obtain ⟨W1, e1, hB1, hs1, ho, hk, hw⟩ := F.put hu hv (.slice r n c) (.slice r' n' c')
  have F2 := ho _ _ _ nn F'
  obtain ⟨W2, e2, hB2, hs2, ho2, hk2, hw2⟩ := F2.put hu' hv' (.slice s m k) (.slice s' m' k')
  rw [e1, e2]
  have HC1 := hw W hg HC
  have HC2 := hw2 W hg' HC1
  exact ⟨_, _, _, _, _, _, _, _, _, _, _, _, _, _, rfl, rfl, ho2 _ _ _ (fun e => nn e.symm) hB1, hB2, (hk2 _ _ _ _ (hk _ _ _ _ h1)).wide (Nat.le_refl _) (by omega), (hk2 _ _ _ _ (hk _ _ _ _ h2)).wide (Nat.le_refl _) (by omega), HC2⟩
end
end Go.Proofs.Ytjahhheipeggeaa
