/- What is proved: the contracts of flumeref03's Sync, Get. -/
import Derived.Test.YtjahhheipeggeaaDskE
namespace Go.Proofs.Ytjahhheipeggeaa
open Go.RowKit

/-- A box of a struct, and an empty row behind it, both new. -/
theorem hb_box (w : World) (e : TypeId) (s1 s2 : Value) (e' : TypeId) : ∃ W5, (w.alloc (.cells #[s1, s2] e)).alloc (.cells #[] e') = W5 ∧ Below w.heap.size w W5 ∧ W5.cell? ⟨w.heap.size, 0, none⟩ = some s1 ∧ W5.cell? ⟨w.heap.size, 1, none⟩ = some s2 ∧
    W5.frozen? ⟨w.heap.size, 0, none⟩ = false ∧ W5.frozen? ⟨w.heap.size, 1, none⟩ = false ∧ W5.heap.size = w.heap.size + 2 := by
  have k2 : ((w.alloc (.cells #[s1, s2] e)).alloc (.cells #[] e')).heap[w.heap.size]? = some (.cells #[s1, s2] e (0, 0)) :=
    (Below.heap_alloc _ _ _ (by simp)).trans (heap_alloc_new w _)
  exact ⟨_, rfl, ((Below.refl _ _).alloc (Nat.le_refl _) _).alloc (by simp) _, cell_of_row _ _ 0 _ _ _ k2, cell_of_row _ _ 1 _ _ _ k2, blk_frozen k2 0, blk_frozen k2 1, by simp⟩
theorem hb_far {w w' w'' : World} (h : Below w.heap.size w w') (h' : Below w'.heap.size w' w'') : Below w.heap.size w w'' := h.trans (h'.mono h.size)

/-! ### Sync -/
set_option maxHeartbeats 3200000 in
theorem rsync_no (lo hi : Nat) (v : Value) (d : Dsk) (w : World) (hd : Dk w lo hi v d) (hh : hi ≤ w.heap.size) (hk : chkB d = false) :
    Calls Try.prog 16 #[v] w fun e w' => e = .returned (.tuple #[nilDisk, .int .i64 2]) ∧ Below w.heap.size w w' := by
  obtain ⟨a, l, c, a', l', c', rfl, h1, h2, hc⟩ := hd
  obtain ⟨W2, e2, hb1, k0, k1, k3, k4, k5, hsz⟩ := two_boxes w 24 24 (.slice a l c) (.slice a' l' c') (.slice none 0 0) (.slice none 0 0)
  have r1 := check_walk lo hi (.agg #[.slice a l c, .slice a' l' c']) d W2 ⟨a, l, c, a', l', c', rfl, h1.far (hb1.mono hh), h2.far (hb1.mono hh), hc⟩ (by omega)
  rw [chk_no hk] at r1
  clear hk h1 h2
  go_enter Try.func16, Try.ntmps16
  go_wp2_with fail
  refine r1.mono ?_
  rintro e w3 ⟨rfl, hb3⟩
  obtain ⟨q0, q1, q2, q3⟩ := kR k3 k4 k5 hsz hb3
  have hend : Below w.heap.size w ((w3.setCell ⟨w.heap.size + 1, 0, none⟩ (.slice none 0 0)).setCell ⟨w.heap.size + 1, 1, none⟩ (.slice none 0 0)) := ((hb1.trans (hb3.mono hb1.size)).setCell (Nat.le_succ _) _).setCell (Nat.le_succ _) _
  clear k0 k1 k3 k4 k5 e2
  go_wp2
  exact bodyPost_ret (v := .tuple #[nilDisk, .int .i64 2]) (by simp [results, Try.results16, go_sem, nilDisk, q0, q1]) rfl ⟨rfl, hend⟩

set_option maxHeartbeats 3200000 in
theorem rsync_yes (lo hi : Nat) (v : Value) (d : Dsk) (w : World) (hd : Dk w lo hi v d) (hh : hi ≤ w.heap.size) (hk : chkB d = true) :
    Calls Try.prog 16 #[v] w fun e w' => ∃ v', e = .returned (.tuple #[v', .int .i64 0]) ∧ Own2 w.heap.size w' 35 v' ⟨d.now, d.now⟩ ∧ Below w.heap.size w w' := by
  obtain ⟨i0, hi0, hz0, hz1, hz2⟩ := info_parts info_sec
  obtain ⟨a, l, c, a', l', c', rfl, h1, h2, hc⟩ := hd
  obtain ⟨W2, e2, hb1, k0, k1, k3, k4, k5, hsz⟩ := two_boxes w 24 24 (.slice a l c) (.slice a' l' c') (.slice none 0 0) (.slice none 0 0)
  have r1 := check_walk lo hi (.agg #[.slice a l c, .slice a' l' c']) d W2 ⟨a, l, c, a', l', c', rfl, h1.far (hb1.mono hh), h2.far (hb1.mono hh), hc⟩ (by omega)
  obtain ⟨hp1, hp2, _⟩ := chkB_parts hk
  have hl1 : l = 33 := by rw [← secs_len h1]; exact rowB_length hp1
  have hl2 : l' = 33 := by rw [← secs_len h2]; exact rowB_length hp2
  subst hl1 hl2
  have HL := Lib.hid (rowB_length hp1)
  have HL' := Lib.hid (rowB_length hp2)
  rw [chk_yes hk] at r1
  clear hk hp1 hp2
  go_enter Try.func16, Try.ntmps16
  go_wp2_with fail
  refine r1.mono ?_
  rintro e w3 ⟨rfl, hb3⟩
  have hB3 := hb1.trans (hb3.mono hb1.size)
  obtain ⟨q0, q1, q2, q3⟩ := kR k3 k4 k5 hsz hb3
  have q4 := (hb3.cell (p := ⟨w.heap.size, 0, none⟩) (show w.heap.size < _ by omega)).trans k0
  have q5 := (hb3.cell (p := ⟨w.heap.size, 1, none⟩) (show w.heap.size < _ by omega)).trans k1
  have hz3 := hb3.size
  have r2 := copied_walk lo hi a 33 c a' 33 c' d.now d.sure w3 (h1.far (hB3.mono hh)) (h2.far (hB3.mono hh)) (by omega) (by decide) (by decide) (by decide) (by decide)
  clear k0 k1 k3 k4 k5 e2 r1 h1 h2
  go_wp2_with fail
  refine r2.mono ?_
  rintro e w4 ⟨_, rfl, ⟨g, l, c3, g', l', c4, rfl, hgg, hg1, hg2, hg3, hg4, ho1, ho2⟩, hb4⟩
  have hl3 : l = 33 := by have := ho1.1; rw [secs_length, HL.out] at this; omega
  have hl4 : l' = 33 := by have := ho2.1; rw [secs_length, HL'.out] at this; omega
  subst hl3 hl4
  have hz4 := hb4.size
  have p0 := (hb4.cell (p := ⟨w.heap.size + 1, 0, none⟩) (show w.heap.size + 1 < _ by omega)).trans q0
  have p1 := (hb4.cell (p := ⟨w.heap.size + 1, 1, none⟩) (show w.heap.size + 1 < _ by omega)).trans q1
  have p2 := (hb4.frozen (p := ⟨w.heap.size + 1, 0, none⟩) (show w.heap.size + 1 < _ by omega)).trans q2
  have p3 := (hb4.frozen (p := ⟨w.heap.size + 1, 1, none⟩) (show w.heap.size + 1 < _ by omega)).trans q3
  have hB4 := hB3.trans (hb4.mono hB3.size)
  clear q0 q1 q2 q3 q4 q5 r2 hb3 hb4 hB3 hb1
  have hg5 := hb_box w4 24 (.slice (some ⟨g, 0, none⟩) 33 c3) (.slice (some ⟨g', 0, none⟩) 33 c4) 35
  obtain ⟨W5, e5, hb5, j0, j1, j2, j3, hz5⟩ := hg5
  have hW5 := hb_far hB4 hb5
  obtain ⟨_, _, e1, _, _, hrg⟩ := Rg.own (own_below ho1 hb5)
  cases e1
  go_wp2_with (refine wpList_append_fresh rfl (.tmp 11) (.tmp 13) _ rfl W5 35 i0 _ 2 24 Try.underlying22 hi0 hz0 hz1 hz2 rfl (by decide) _ rfl w3.heap.size W5.heap.size (some ⟨g, 0, none⟩) 33 c3 (secs d.now) rfl (Below.refl _ _) hrg (by decide) (by decide) (by decide) ?_)
  intro g5 c5 w5 hg5 hk5 ho5 hb6
  have hz6 : w4.heap.size + 2 ≤ w5.heap.size := by have := hb6.size; omega
  have m0 := (hb6.cell (p := ⟨w4.heap.size, 0, none⟩) (show w4.heap.size < _ by omega)).trans j0
  have m1 := (hb6.cell (p := ⟨w4.heap.size, 1, none⟩) (show w4.heap.size < _ by omega)).trans j1
  have m2 := (hb6.frozen (p := ⟨w4.heap.size, 0, none⟩) (show w4.heap.size < _ by omega)).trans j2
  have m3 := (hb6.frozen (p := ⟨w4.heap.size, 1, none⟩) (show w4.heap.size < _ by omega)).trans j3
  have hb7 : Below (w.heap.size + 2) w4 (w5.setCell ⟨w4.heap.size, 1, none⟩ (.slice (some ⟨g5, 0, none⟩) 33 c5)) := ((hb5.mono (by omega)).trans (hb6.mono (by omega))).setCell (show w.heap.size + 2 ≤ w4.heap.size by omega) _
  have z0 := (hb7.cell (p := ⟨w.heap.size + 1, 0, none⟩) (show w.heap.size + 1 < _ by omega)).trans p0
  have z1 := (hb7.cell (p := ⟨w.heap.size + 1, 1, none⟩) (show w.heap.size + 1 < _ by omega)).trans p1
  have z2 := (hb7.frozen (p := ⟨w.heap.size + 1, 0, none⟩) (show w.heap.size + 1 < _ by omega)).trans p2
  have z3 := (hb7.frozen (p := ⟨w.heap.size + 1, 1, none⟩) (show w.heap.size + 1 < _ by omega)).trans p3
  have o1 := own_below (own_below ho1 hb5) (by rw [hz5]; exact hb6)
  have hend : Below w.heap.size w (((w5.setCell ⟨w4.heap.size, 1, none⟩ (.slice (some ⟨g5, 0, none⟩) 33 c5)).setCell ⟨w.heap.size + 1, 0, none⟩ (.slice (some ⟨g, 0, none⟩) 33 c3)).setCell ⟨w.heap.size + 1, 1, none⟩ (.slice (some ⟨g5, 0, none⟩) 33 c5)) :=
    (((hW5.trans (hb6.mono (by omega))).setCell (show w.heap.size ≤ w4.heap.size by omega) _).setCell (Nat.le_succ _) _).setCell (Nat.le_succ _) _
  clear p0 p1 p2 p3 j0 j1 j2 j3 hrg ho1 ho2
  go_wp2
  have x1 := own_set_far (own_set_far (own_set_far o1 (p := ⟨w4.heap.size, 1, none⟩) (show g ≠ w4.heap.size by omega) (.slice (some ⟨g5, 0, none⟩) 33 c5)) (p := ⟨w.heap.size + 1, 0, none⟩) (show g ≠ w.heap.size + 1 by omega) (.slice (some ⟨g, 0, none⟩) 33 c3)) (p := ⟨w.heap.size + 1, 1, none⟩) (show g ≠ w.heap.size + 1 by omega) (.slice (some ⟨g5, 0, none⟩) 33 c5)
  have x5 := own_set_far (own_set_far (own_set_far ho5 (p := ⟨w4.heap.size, 1, none⟩) (show g5 ≠ w4.heap.size by omega) (.slice (some ⟨g5, 0, none⟩) 33 c5)) (p := ⟨w.heap.size + 1, 0, none⟩) (show g5 ≠ w.heap.size + 1 by omega) (.slice (some ⟨g, 0, none⟩) 33 c3)) (p := ⟨w.heap.size + 1, 1, none⟩) (show g5 ≠ w.heap.size + 1 by omega) (.slice (some ⟨g5, 0, none⟩) 33 c5)
  clear o1 ho5 m0 m1 m2 m3 z2 z3
  refine bodyPost_ret (v := .tuple #[.agg #[.slice (some ⟨g, 0, none⟩) 33 c3, .slice (some ⟨g5, 0, none⟩) 33 c5], .int .i64 0]) (by simp [results, Try.results16, go_sem, z0, z1]) rfl ⟨_, rfl, ⟨g, 33, c3, g5, 33, c5, rfl, by omega, by omega, by omega, by simp; omega, by simp; omega, own_base x1 (by omega), own_base x5 (by omega)⟩, hend⟩

/-! ### Get -/
def getOk (d : Dsk) (s : Int) : Bool := chkB d && decide (0 ≤ s ∧ s < 33)
def Sec.val (s : Sec) : Value := .agg #[.int .i64 s.n, .string s.b]
set_option maxHeartbeats 1600000 in
theorem rget_no (lo hi : Nat) (v : Value) (d : Dsk) (s : Int) (w : World) (hd : Dk w lo hi v d) (hh : hi ≤ w.heap.size) (hok : getOk d s = false) :
    Calls Try.prog 20 #[v, .int .i64 s] w fun e w' => e = .returned (.tuple #[noSec.val, .int .i64 2]) ∧ Below w.heap.size w w' := by
  obtain ⟨a, l, c, a', l', c', rfl, h1, h2, hc⟩ := hd
  obtain ⟨W2, e2, hb1, k0, k1, k3, k4, k5, hsz⟩ := two_boxes w 24 35 (.slice a l c) (.slice a' l' c') (.int .i64 0) (.string ⟨#[]⟩)
  have r1 := check_walk lo hi (.agg #[.slice a l c, .slice a' l' c']) d W2 ⟨a, l, c, a', l', c', rfl, h1.far (hb1.mono hh), h2.far (hb1.mono hh), hc⟩ (by omega)
  have hcase : chk d = 2 ∨ (chk d = 0 ∧ (s < 0 ∨ (0 ≤ s ∧ 33 ≤ s))) := by
    unfold getOk at hok
    rcases hk : chkB d with _ | _
    · exact .inl (chk_no hk)
    · rw [hk, Bool.true_and] at hok
      have := of_decide_eq_false hok
      exact .inr ⟨chk_yes hk, by omega⟩
  clear hok h1 h2
  rcases hcase with hk | ⟨hk, h | ⟨h, h'⟩⟩
  all_goals
    rw [hk] at r1
    clear hk
    go_enter Try.func20, Try.ntmps20
    go_wp2_with fail
    refine r1.mono ?_
    rintro e w3 ⟨rfl, hb3⟩
    obtain ⟨q0, q1, q2, q3⟩ := kR k3 k4 k5 hsz hb3
    have hend : Below w.heap.size w ((w3.setCell ⟨w.heap.size + 1, 0, none⟩ (.int .i64 0)).setCell ⟨w.heap.size + 1, 1, none⟩ (.string ⟨#[]⟩)) := ((hb1.trans (hb3.mono hb1.size)).setCell (Nat.le_succ _) _).setCell (Nat.le_succ _) _
    clear k0 k1 k3 k4 k5 e2
    go_wp2
    exact bodyPost_ret (v := .tuple #[noSec.val, .int .i64 2]) (by simp [results, Try.results20, go_sem, noSec, Sec.val, q0, q1]) rfl ⟨rfl, hend⟩
set_option maxHeartbeats 1600000 in
theorem rget_yes (lo hi : Nat) (v : Value) (d : Dsk) (k : Nat) (w : World) (hd : Dk w lo hi v d) (hh : hi ≤ w.heap.size) (hok : getOk d k = true) :
    Calls Try.prog 20 #[v, .int .i64 k] w fun e w' => e = .returned (.tuple #[(d.now[k]?.getD noSec).val, .int .i64 0]) ∧ Below w.heap.size w w' := by
  obtain ⟨a, l, c, a', l', c', rfl, h1, h2, hc⟩ := hd
  obtain ⟨W2, e2, hb1, k0, k1, k3, k4, k5, hsz⟩ := two_boxes w 24 35 (.slice a l c) (.slice a' l' c') (.int .i64 0) (.string ⟨#[]⟩)
  have r1 := check_walk lo hi (.agg #[.slice a l c, .slice a' l' c']) d W2 ⟨a, l, c, a', l', c', rfl, h1.far (hb1.mono hh), h2.far (hb1.mono hh), hc⟩ (by omega)
  obtain ⟨hk, ha⟩ := Bool.and_eq_true_iff.1 hok
  obtain ⟨ha1, ha2⟩ := of_decide_eq_true ha
  obtain ⟨hp1, _, _⟩ := chkB_parts hk
  have hl1 : l = 33 := by rw [← secs_len h1]; exact rowB_length hp1
  subst hl1
  have hln := rowB_length hp1
  obtain ⟨s, hs⟩ : ∃ s, d.now[k]? = some s := ⟨_, List.getElem?_eq_getElem (by rw [hln]; omega)⟩
  rw [chk_yes hk] at r1
  have HS := Lib.hid hs
  obtain ⟨g, o, rfl, hg1, hg2, hcell⟩ := h1.addr (by decide)
  obtain ⟨c1, c2⟩ := secs_cell hcell hs
  clear hok hk ha hp1 hln h1 h2 hcell hs
  go_enter Try.func20, Try.ntmps20
  go_wp2_with fail
  refine r1.mono ?_
  rintro e w3 ⟨rfl, hb3⟩
  obtain ⟨q0, q1, q2, q3⟩ := kR k3 k4 k5 hsz hb3
  have q4 := (hb3.cell (p := ⟨w.heap.size, 0, none⟩) (show w.heap.size < _ by omega)).trans k0
  have hB3 := hb1.trans (hb3.mono hb1.size)
  have d1 := (hB3.cell (p := ⟨g, o + k * 2, none⟩) (show g < w.heap.size by omega)).trans c1
  have d2 := (hB3.cell (p := ⟨g, o + k * 2 + 1, none⟩) (show g < w.heap.size by omega)).trans c2
  have hend : Below w.heap.size w ((w3.setCell ⟨w.heap.size + 1, 0, none⟩ (.int .i64 s.n)).setCell ⟨w.heap.size + 1, 1, none⟩ (.string s.b)) := ((hb1.trans (hb3.mono hb1.size)).setCell (Nat.le_succ _) _).setCell (Nat.le_succ _) _
  clear k0 k1 k3 k4 k5 e2 r1 c1 c2
  go_wp2
  exact bodyPost_ret (v := .tuple #[s.val, .int .i64 0]) (by simp [results, Try.results20, go_sem, Sec.val, q0, q1]) rfl ⟨by rw [HS.out]; rfl, hend⟩
end Go.Proofs.Ytjahhheipeggeaa
