/- What is proved: record's Same and SameState answer as the specs say. -/
import Derived.Test.YtmbphhcgmdaoeaaRvQ
import Derived.Test.YtmbphhcgmdaoeaaReF0
import Derived.Test.YtmbphhcgmdaoeaaRvF
namespace Go.Proofs.Ytmbphhcgmdaoeaa
open Go.RowKit

set_option maxRecDepth 100000 in
set_option maxHeartbeats 1600000 in
theorem dev_same : SameSpec 23 := by
  intro v u r t w h1 h2 i1 i2
  obtain ⟨v', rfl, hv⟩ := h1
  obtain ⟨u', rfl, hu⟩ := h2
  obtain ⟨p, y, l⟩ := r
  obtain ⟨p', y', m⟩ := t
  simp only at *
  have hl : l.length ≤ 1000 := i1.2.2
  obtain ⟨W1, E1, B1, X1, S1⟩ := Blk.new w 24 #[.int .i64 p, .bool y, v']
  obtain ⟨W2, E2, B2, X2, S2⟩ := Blk.new W1 24 #[.int .i64 p', .bool y', u']
  have b02 : Below w.heap.size w W2 := below_on B1 B2
  have Y1 := X1.far B2 (by omega)
  rw [S1] at S2 X2
  have z0 : W2.cell? ⟨w.heap.size, 0, none⟩ = some (.int .i64 p) := Y1.cell 0
  have z1 : W2.cell? ⟨w.heap.size, 1, none⟩ = some (.bool y) := Y1.cell 1
  have z2 : W2.cell? ⟨w.heap.size, 2, none⟩ = some v' := Y1.cell 2
  have y0 : W2.cell? ⟨w.heap.size + 1, 0, none⟩ = some (.int .i64 p') := X2.cell 0
  have y1 : W2.cell? ⟨w.heap.size + 1, 1, none⟩ = some (.bool y') := X2.cell 1
  have y2 : W2.cell? ⟨w.heap.size + 1, 2, none⟩ = some u' := X2.cell 2
  have n1 := eqW_walk v' u' l m W2 ((hv.far b02).wide (Nat.le_refl _) b02.size) ((hu.far b02).wide (Nat.le_refl _) b02.size) hl
  have hs : sameR ⟨p, y, l⟩ ⟨p', y', m⟩ = (p == p' && y == y' && rowEq wrEq wrD l m) := rfl
  rw [hs]
  clear hs
  obtain ⟨a, c, rfl, _⟩ := id hv
  obtain ⟨a', c', rfl, _⟩ := id hu
  generalize rowEq wrEq wrD l m = q at *
  rcases hp : (p == p') with _ | _
  · go_enter Try.func23, Try.ntmps23
    go_wp2
    go_ret
    exact ⟨ret_bool (by simp), b02⟩
  rcases hy : (y == y') with _ | _
  · go_enter Try.func23, Try.ntmps23
    go_wp2
    go_ret
    exact ⟨ret_bool (by simp), b02⟩
  go_enter Try.func23, Try.ntmps23
  go_wp2_with fail
  refine n1.mono ?_
  rintro e w3 ⟨rfl, b3⟩
  go_wp2
  go_ret
  exact ⟨ret_bool (by simp), below_on b02 b3⟩
theorem run_cut_eql (a0 a1 a2 b0 b1 b2 : Int) (w : World) : (binOp .eql 28 (.agg #[.int .i64 a0, .int .i64 a1, .int .i64 a2]) (.agg #[.int .i64 b0, .int .i64 b1, .int .i64 b2])).run Try.prog w = .ok (.bool (a0 == b0 && (a1 == b1 && a2 == b2))) w := by
  rw [run_eql_struct, run_equalIn_cut]
  rfl
set_option maxRecDepth 100000 in
set_option maxHeartbeats 6400000 in
theorem dev_samest : SameStateSpec 25 := by
  intro v u r t w h1 h2 i1 i2
  obtain ⟨v0, v1, v2, v3, rfl, g0, g1, g2, g3⟩ := h1
  obtain ⟨u0, u1, u2, u3, rfl, j0, j1, j2, j3⟩ := h2
  obtain ⟨_, _, _, _, _, _, _, _, li, l0, l1, l2⟩ := i1
  obtain ⟨p, it, a0, a1, a2, c0, c1, c2⟩ := r
  obtain ⟨p', it', b0, b1, b2, d0, d1, d2⟩ := t
  simp only at *
  obtain ⟨W1, E1, B1, X1, S1⟩ := Blk.new w 30 #[.int .i64 p, v0, v1, v2, v3, .int .i64 c0, .int .i64 c1, .int .i64 c2]
  obtain ⟨W2, E2, B2, X2, S2⟩ := Blk.new W1 30 #[.int .i64 p', u0, u1, u2, u3, .int .i64 d0, .int .i64 d1, .int .i64 d2]
  have b02 : Below w.heap.size w W2 := below_on B1 B2
  have Y1 := X1.far B2 (by omega)
  rw [S1] at S2 X2
  have n0 := fun (W : World) (hb : Below w.heap.size w W) => eqI_walk v0 u0 it it' W ((g0.far hb).wide (Nat.le_refl _) hb.size) ((j0.far hb).wide (Nat.le_refl _) hb.size) li
  have n1 := fun (W : World) (hb : Below w.heap.size w W) => eqL_walk v1 u1 a0 b0 W ((g1.far hb).wide (Nat.le_refl _) hb.size) ((j1.far hb).wide (Nat.le_refl _) hb.size) l0
  have n2 := fun (W : World) (hb : Below w.heap.size w W) => eqL_walk v2 u2 a1 b1 W ((g2.far hb).wide (Nat.le_refl _) hb.size) ((j2.far hb).wide (Nat.le_refl _) hb.size) l1
  have n3 := fun (W : World) (hb : Below w.heap.size w W) => eqL_walk v3 u3 a2 b2 W ((g3.far hb).wide (Nat.le_refl _) hb.size) ((j3.far hb).wide (Nat.le_refl _) hb.size) l2
  have hcut := run_cut_eql c0 c1 c2 d0 d1 d2
  have hgd : Try.prog.eqGuardType Try.prog.depth 28 = false := by kernel_rfl
  have hs : sameS ⟨p, it, a0, a1, a2, c0, c1, c2⟩ ⟨p', it', b0, b1, b2, d0, d1, d2⟩ = (p == p' && (c0 == d0 && c1 == d1 && c2 == d2) && rowEq itEq itD it it' && rowEq lnEq lnD a0 b0 && rowEq lnEq lnD a1 b1 && rowEq lnEq lnD a2 b2) := rfl
  rw [Bool.and_assoc (c0 == d0)] at hs
  rw [hs]
  clear hs g0 g1 g2 g3 j0 j1 j2 j3
  generalize rowEq itEq itD it it' = q0 at *
  generalize rowEq lnEq lnD a0 b0 = q1 at *
  generalize rowEq lnEq lnD a1 b1 = q2 at *
  generalize rowEq lnEq lnD a2 b2 = q3 at *
  generalize (c0 == d0 && (c1 == d1 && c2 == d2)) = qc at *
  have z2 : W2.cell? ⟨w.heap.size, 2, none⟩ = some v1 := Y1.cell 2
  have z3 : W2.cell? ⟨w.heap.size, 3, none⟩ = some v2 := Y1.cell 3
  have z4 : W2.cell? ⟨w.heap.size, 4, none⟩ = some v3 := Y1.cell 4
  have hz2 : W2.heap.size = w.heap.size + 1 + 1 := S2
  go_enter Try.func25, Try.ntmps25
  go_wp2_with fail
  clear z2 z3 z4
  go_loopw [9] (fun i wr => ∃ k : Int, (0 ≤ k ∧ k ≤ 3) ∧ i = .int .i64 k ∧ Below W2.heap.size W2 wr ∧ ((1 ≤ k → q1 = true) ∧ (2 ≤ k → q2 = true) ∧ (3 ≤ k → q3 = true))) (fun i _ => 3 - (intOf i).toNat)
  case atStart => exact ⟨0, by decide, rfl, Below.refl _ _, fun h => absurd h (by decide), fun h => absurd h (by decide), fun h => absurd h (by decide)⟩
  case round =>
    obtain ⟨k, hk, rfl, hbr, hF⟩ := hrel
    have Xr := Y1.far hbr (by omega)
    have Yr := X2.far hbr (by omega)
    have b0r := below_on b02 hbr
    have HF := Lib.hid hF
    clear hF
    obtain rfl | rfl | rfl | rfl : k = 0 ∨ k = 1 ∨ k = 2 ∨ k = 3 := by omega
    · have ixx := ix0 v1 v2 v3
      have x0 : wr.cell? ⟨w.heap.size + 1, 2, none⟩ = some u1 := Yr.cell 2
      have r1 := n1 wr b0r
      rcases q1 with _ | _
      · go_wp2_with fail
        refine r1.mono ?_
        rintro e w3 ⟨rfl, b3⟩
        go_wp2
        go_ret
        exact ⟨ret_bool (by simp), below_on b0r b3⟩
      · have HT := Lib.hid (show ((1 : Int) ≤ 1 → true = true) ∧ ((2 : Int) ≤ 1 → q2 = true) ∧ ((3 : Int) ≤ 1 → q3 = true) from ⟨fun _ => rfl, fun h => absurd h (by decide), fun h => absurd h (by decide)⟩)
        go_wp2_with fail
        refine r1.mono ?_
        rintro e w3 ⟨rfl, b3⟩
        go_wp2
        go_roundw
        case rel => exact ⟨1, by omega, by go_num, below_on hbr b3, HT.out⟩
        case measure => simp [intOf]
    · have ixx := ix1 v1 v2 v3
      have x0 : wr.cell? ⟨w.heap.size + 1, 3, none⟩ = some u2 := Yr.cell 3
      have r1 := n2 wr b0r
      rcases q2 with _ | _
      · go_wp2_with fail
        refine r1.mono ?_
        rintro e w3 ⟨rfl, b3⟩
        go_wp2
        go_ret
        exact ⟨ret_bool (by simp), below_on b0r b3⟩
      · have HT := Lib.hid (show ((1 : Int) ≤ 2 → q1 = true) ∧ ((2 : Int) ≤ 2 → true = true) ∧ ((3 : Int) ≤ 2 → q3 = true) from ⟨fun _ => HF.out.1 (by decide), fun _ => rfl, fun h => absurd h (by decide)⟩)
        go_wp2_with fail
        refine r1.mono ?_
        rintro e w3 ⟨rfl, b3⟩
        go_wp2
        go_roundw
        case rel => exact ⟨2, by omega, by go_num, below_on hbr b3, HT.out⟩
        case measure => simp [intOf]
    · have ixx := ix2 v1 v2 v3
      have x0 : wr.cell? ⟨w.heap.size + 1, 4, none⟩ = some u3 := Yr.cell 4
      have r1 := n3 wr b0r
      rcases q3 with _ | _
      · go_wp2_with fail
        refine r1.mono ?_
        rintro e w3 ⟨rfl, b3⟩
        go_wp2
        go_ret
        exact ⟨ret_bool (by simp), below_on b0r b3⟩
      · have HT := Lib.hid (show ((1 : Int) ≤ 3 → q1 = true) ∧ ((2 : Int) ≤ 3 → q2 = true) ∧ ((3 : Int) ≤ 3 → true = true) from ⟨fun _ => HF.out.1 (by decide), fun _ => HF.out.2.1 (by decide), fun _ => rfl⟩)
        go_wp2_with fail
        refine r1.mono ?_
        rintro e w3 ⟨rfl, b3⟩
        go_wp2
        go_roundw
        case rel => exact ⟨3, by omega, by go_num, below_on hbr b3, HT.out⟩
        case measure => simp [intOf]
    · have h1 := HF.out.1 (by decide)
      have h2 := HF.out.2.1 (by decide)
      have h3 := HF.out.2.2 (by decide)
      subst h1 h2 h3
      have x0 : wr.cell? ⟨w.heap.size, 0, none⟩ = some (.int .i64 p) := Xr.cell 0
      have x1 : wr.cell? ⟨w.heap.size, 1, none⟩ = some v0 := Xr.cell 1
      have x5 : wr.cell? ⟨w.heap.size, 5, none⟩ = some (.int .i64 c0) := Xr.cell 5
      have x6 : wr.cell? ⟨w.heap.size, 6, none⟩ = some (.int .i64 c1) := Xr.cell 6
      have x7 : wr.cell? ⟨w.heap.size, 7, none⟩ = some (.int .i64 c2) := Xr.cell 7
      have y0 : wr.cell? ⟨w.heap.size + 1, 0, none⟩ = some (.int .i64 p') := Yr.cell 0
      have y1 : wr.cell? ⟨w.heap.size + 1, 1, none⟩ = some u0 := Yr.cell 1
      have y5 : wr.cell? ⟨w.heap.size + 1, 5, none⟩ = some (.int .i64 d0) := Yr.cell 5
      have y6 : wr.cell? ⟨w.heap.size + 1, 6, none⟩ = some (.int .i64 d1) := Yr.cell 6
      have y7 : wr.cell? ⟨w.heap.size + 1, 7, none⟩ = some (.int .i64 d2) := Yr.cell 7
      have r1 := n0 wr b0r
      clear n0 n1 n2 n3 HF
      rcases hp : (p == p') with _ | _
      · go_wp2
        go_ret
        exact ⟨ret_bool (by rw [hp]; simp), b0r⟩
      rcases qc with _ | _
      · go_wp2
        go_ret
        exact ⟨ret_bool (by rw [hp]; simp), b0r⟩
      go_wp2_with fail
      refine r1.mono ?_
      rintro e w3 ⟨rfl, b3⟩
      go_wp2
      go_ret
      exact ⟨ret_bool (by rw [hp]; simp), below_on b0r b3⟩
end Go.Proofs.Ytmbphhcgmdaoeaa
