/- What is proved: the contract of flumeref03's copied. -/
import Derived.Test.YtjahhheipeggeaaDskC
import Derived.Deep.RegionHeld3
namespace Go.Proofs.Ytjahhheipeggeaa
open Go.RowKit

theorem info_sec : (Try.prog.info? 35).map (fun i => (i.zero, i.size, i.bytes)) = some (some (.agg #[.int .i64 0, .string ⟨#[]⟩]), 2, 24) := by kernel_rfl
theorem below_made {w w' : World} (h : Below w.heap.size w w') (o : Obj) : Below w.heap.size w (w'.alloc o) := h.alloc h.size o
theorem kS {B : Nat} {s1 s2 : Value} {w w' : World} (h : w.cell? ⟨B, 0, none⟩ = some s1 ∧ w.cell? ⟨B, 1, none⟩ = some s2 ∧ B + 2 ≤ w.heap.size) (hb : Below w.heap.size w w') :
    w'.cell? ⟨B, 0, none⟩ = some s1 ∧ w'.cell? ⟨B, 1, none⟩ = some s2 ∧ B + 2 ≤ w'.heap.size :=
  ⟨(hb.cell (p := ⟨B, 0, none⟩) (show B < _ by omega)).trans h.1, (hb.cell (p := ⟨B, 1, none⟩) (show B < _ by omega)).trans h.2.1, Nat.le_trans h.2.2 hb.size⟩
theorem kR {B : Nat} {r1 r2 : Value} {w w' : World} (h1 : w.cell? ⟨B + 1, 0, none⟩ = some r1) (h2 : w.cell? ⟨B + 1, 1, none⟩ = some r2) (h3 : ∀ n, w.frozen? ⟨B + 1, n, none⟩ = false) (hs : B + 2 ≤ w.heap.size) (hb : Below w.heap.size w w') :
    w'.cell? ⟨B + 1, 0, none⟩ = some r1 ∧ w'.cell? ⟨B + 1, 1, none⟩ = some r2 ∧ w'.frozen? ⟨B + 1, 0, none⟩ = false ∧ w'.frozen? ⟨B + 1, 1, none⟩ = false :=
  ⟨(hb.cell (p := ⟨B + 1, 0, none⟩) (show B + 1 < _ by omega)).trans h1, (hb.cell (p := ⟨B + 1, 1, none⟩) (show B + 1 < _ by omega)).trans h2,
    (hb.frozen (p := ⟨B + 1, 0, none⟩) (show B + 1 < _ by omega)).trans (h3 0), (hb.frozen (p := ⟨B + 1, 1, none⟩) (show B + 1 < _ by omega)).trans (h3 1)⟩
theorem blk_frozen {w : World} {g : Nat} {cs : Array Value} {e : TypeId} (h : w.heap[g]? = some (.cells cs e (0, 0))) (n : Nat) : w.frozen? ⟨g, n, none⟩ = false := by
  simp [World.frozen?, h]
/-- A box of a struct, and a place for a result behind it, both new. -/
theorem two_boxes (w : World) (e e' : TypeId) (s1 s2 r1 r2 : Value) : ∃ W2, (w.alloc (.cells #[s1, s2] e)).alloc (.cells #[r1, r2] e') = W2 ∧ Below w.heap.size w W2 ∧ W2.cell? ⟨w.heap.size, 0, none⟩ = some s1 ∧ W2.cell? ⟨w.heap.size, 1, none⟩ = some s2 ∧
    W2.cell? ⟨w.heap.size + 1, 0, none⟩ = some r1 ∧ W2.cell? ⟨w.heap.size + 1, 1, none⟩ = some r2 ∧ (∀ n, W2.frozen? ⟨w.heap.size + 1, n, none⟩ = false) ∧ w.heap.size + 2 ≤ W2.heap.size := by
  have k2 : ((w.alloc (.cells #[s1, s2] e)).alloc (.cells #[r1, r2] e')).heap[w.heap.size + 1]? = some (.cells #[r1, r2] e' (0, 0)) := by
    have := heap_alloc_new (w.alloc (.cells #[s1, s2] e)) (.cells #[r1, r2] e')
    simpa using this
  refine ⟨_, rfl, ((Below.refl _ _).alloc (Nat.le_refl _) _).alloc (by simp) _, ?_, ?_, cell_of_row _ _ 0 _ _ _ k2, cell_of_row _ _ 1 _ _ _ k2, blk_frozen k2, by simp⟩
  · rw [World.cell?_alloc_lt _ _ _ (by simp), cell_of_row _ _ 0 _ _ _ (heap_alloc_new w _)]; rfl
  · rw [World.cell?_alloc_lt _ _ _ (by simp), cell_of_row _ _ 1 _ _ _ (heap_alloc_new w _)]; rfl
/-- A disk whose two rows are two rows of the call's own. -/
def Own2 (B : Nat) (w : World) (e : TypeId) (v : Value) (d : Dsk) : Prop :=
  ∃ g l c g' l' c', v = .agg #[.slice (some ⟨g, 0, none⟩) l c, .slice (some ⟨g', 0, none⟩) l' c'] ∧ g ≠ g' ∧ B ≤ g ∧ B ≤ g' ∧ g < w.heap.size ∧ g' < w.heap.size ∧
    w.ownsRow B e 2 (.slice (some ⟨g, 0, none⟩) l c) l (secs d.now) ∧ w.ownsRow B e 2 (.slice (some ⟨g', 0, none⟩) l' c') l' (secs d.sure)
theorem own_base2 {w : World} {base base' : Nat} {e : TypeId} {size : Nat} {v : Value} {n : Nat} {xs : List Value} (h : w.ownsRow base e size v n xs) (hb : base' ≤ base) : w.ownsRow base' e size v n xs := own_base h hb
theorem Own2.dk {B : Nat} {w : World} {e : TypeId} {v : Value} {d : Dsk} (h : Own2 B w e v d) : Dk w B w.heap.size v d := by
  obtain ⟨g, l, c, g', l', c', rfl, _, _, _, _, _, h1, h2⟩ := h
  obtain ⟨a1, c1, e1, k1, k2, r1⟩ := Rg.own h1
  obtain ⟨a2, c2, e2, k3, k4, r2⟩ := Rg.own h2
  cases e1
  cases e2
  exact ⟨_, _, _, _, _, _, rfl, r1, r2, k1, k3, k2, k4⟩
set_option maxHeartbeats 3200000 in
theorem copied_walk (lo hi : Nat) (a : Option Addr) (l c : Nat) (a' : Option Addr) (l' c' : Nat) (xs ys : List Sec) (w : World) (h1 : Rg 2 w lo hi a l (secs xs)) (h2 : Rg 2 w lo hi a' l' (secs ys)) (hh : hi ≤ w.heap.size) (hl : 0 < l) (hl' : 0 < l') (hm : l ≤ 1000000) (hm' : l' ≤ 1000000) :
    Calls Try.prog 33 #[.agg #[.slice a l c, .slice a' l' c']] w fun e w' => ∃ v, e = .returned v ∧ Own2 w.heap.size w' 35 v ⟨xs, ys⟩ ∧ Below w.heap.size w w' := by
  obtain ⟨i0, hi0, hz0, hz1, hz2⟩ := info_parts info_sec
  obtain ⟨W2, e2, hb1, k0, k1, k3, k4, k5, hsz⟩ := two_boxes w 24 24 (.slice a l c) (.slice a' l' c') (.slice none 0 0) (.slice none 0 0)
  have h1' := h1.far (hb1.mono hh)
  have h2' := h2.far (hb1.mono hh)
  have hh2 : hi ≤ W2.heap.size := by omega
  go_enter Try.func33, Try.ntmps33
  go_wp2_with fail
  try rw [e2]
  clear e2 h1 h2
  go_region_held3 (fun w' => w'.cell? ⟨w.heap.size, 0, none⟩ = some (.slice a l c) ∧ w'.cell? ⟨w.heap.size, 1, none⟩ = some (.slice a' l' c') ∧ w.heap.size + 2 ≤ w'.heap.size)
    (first
      | exact kS ⟨k0, k1, hsz⟩ ((Below.refl _ _).drew)
      | exact kS (by assumption) ((Below.refl _ _).drew)
      | exact kS (by assumption) ((Below.refl _ _).alloc (Nat.le_refl _) _)
      | exact kS (by assumption) hs3
      | exact kS (by assumption) hs4
      | (go_keep; done))
    (first
      | (refine step_append_fresh (by rfl) (.tmp 3) (.tmp 5) _ (by rfl) W2 _ i0 _ 2 24 Try.underlying22 hi0 hz0 hz1 hz2 rfl (by decide) _ (by rfl) lo hi a l c (secs xs) (by rfl) (by repeat (first | assumption | exact Below.refl _ _ | apply Below.drew | apply below_made)) (Rg.far h1' (Below.mono (by repeat (first | assumption | exact Below.refl _ _ | apply Below.drew | apply below_made)) hh2)) hl (by unfold maxLen; omega) (by omega) ?_; intro g3 c3 w3 hg3 hk3 hr3 hb3 hs3; obtain ⟨q30, q31, q32, q33⟩ := kR k3 k4 k5 hsz hb3)
      | (refine step_append_fresh (by rfl) (.tmp 7) (.tmp 9) _ (by rfl) W2 _ i0 _ 2 24 Try.underlying22 hi0 hz0 hz1 hz2 rfl (by decide) _ (by rfl) lo hi a' l' c' (secs ys) (by rfl) (by repeat (first | assumption | exact Below.refl _ _ | apply Below.drew | apply below_made)) (Rg.far h2' (Below.mono (by repeat (first | assumption | exact Below.refl _ _ | apply Below.drew | apply below_made)) hh2)) hl' (by unfold maxLen; omega) (by omega) ?_; intro g4 c4 w4 hg4 hk4 hr4 hb4 hs4; obtain ⟨q40, q41, q42, q43⟩ := kR k3 k4 k5 hsz hb4))
  all_goals
    have t3 := fun h : Below w3.heap.size w3 _ => h.trans (hs4.mono h.size)
    have t4 := t3 (by repeat (first | assumption | exact Below.refl _ _ | apply Below.drew | apply below_made))
    have t5 := fun h : Below w3.heap.size w3 _ => Nat.le_trans h.size hg4
    have t6 := t5 (by repeat (first | assumption | exact Below.refl _ _ | apply Below.drew | apply below_made))
    have t7 := fun h : Below W2.heap.size W2 _ => Nat.le_trans h.size hg3
    have t8 := t7 (by repeat (first | assumption | exact Below.refl _ _ | apply Below.drew | apply below_made))
    have r3 := own_set_far (own_set_far (own_below hr3 t4) (p := ⟨w.heap.size + 1, 0, none⟩) (show g3 ≠ w.heap.size + 1 by omega) (.slice (some ⟨g3, 0, none⟩) l c3)) (p := ⟨w.heap.size + 1, 1, none⟩) (show g3 ≠ w.heap.size + 1 by omega) (.slice (some ⟨g4, 0, none⟩) l' c4)
    have r4 := own_set_far (own_set_far hr4 (p := ⟨w.heap.size + 1, 0, none⟩) (show g4 ≠ w.heap.size + 1 by omega) (.slice (some ⟨g3, 0, none⟩) l c3)) (p := ⟨w.heap.size + 1, 1, none⟩) (show g4 ≠ w.heap.size + 1 by omega) (.slice (some ⟨g4, 0, none⟩) l' c4)
    have hz := t4.size
    have hz2 := hb3.size
    have hend : Below w.heap.size w ((w4.setCell ⟨w.heap.size + 1, 0, none⟩ (.slice (some ⟨g3, 0, none⟩) l c3)).setCell ⟨w.heap.size + 1, 1, none⟩ (.slice (some ⟨g4, 0, none⟩) l' c4)) := ((hb1.trans (hb4.mono hb1.size)).setCell (Nat.le_succ _) _).setCell (Nat.le_succ _) _
    have hs : w4.heap.size = ((w4.setCell ⟨w.heap.size + 1, 0, none⟩ (.slice (some ⟨g3, 0, none⟩) l c3)).setCell ⟨w.heap.size + 1, 1, none⟩ (.slice (some ⟨g4, 0, none⟩) l' c4)).heap.size := by simp
    clear t3 t4 t5 t7 hs3 hs4 hb3 hb4 hr3 hr4 q30 q31 q32 q33 q42 q43 k0 k1 k3 k4 k5 h1' h2'
    go_wp2
    refine bodyPost_ret (v := .agg #[.slice (some ⟨g3, 0, none⟩) l c3, .slice (some ⟨g4, 0, none⟩) l' c4]) (by simp [results, Try.results33, go_sem, q40, q41]) rfl ⟨_, rfl, ⟨g3, l, c3, g4, l', c4, rfl, by omega, by omega, by omega, by omega, by omega, own_base r3 ?_, own_base r4 ?_⟩, hend⟩
    · first | omega | (simp; omega)
    · first | omega | (simp; omega)
end Go.Proofs.Ytjahhheipeggeaa
