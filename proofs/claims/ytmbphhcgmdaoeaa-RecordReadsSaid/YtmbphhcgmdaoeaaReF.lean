/- What is proved: the law of two arrays of three numbers that are compared; flumeref05's SameState answers as the spec says. -/
import Derived.Test.YtmbphhcgmdaoeaaReF0
namespace Go.Proofs.Ytmbphhcgmdaoeaa
open Go.RowKit

set_option maxRecDepth 100000 in
set_option maxHeartbeats 6400000 in
theorem rsamest_spec : SameStateSpec 26 := by
  intro v u r t w h1 h2 i1 i2
  obtain ⟨_, _, _, _, rfl, ⟨a0, d0, rfl, ra0⟩, ⟨a1, d1, rfl, ra1⟩, ⟨a2, d2, rfl, ra2⟩, ⟨a3, d3, rfl, ra3⟩⟩ := h1
  obtain ⟨_, _, _, _, rfl, ⟨b0, e0, rfl, rb0⟩, ⟨b1, e1, rfl, rb1⟩, ⟨b2, e2, rfl, rb2⟩, ⟨b3, e3, rfl, rb3⟩⟩ := h2
  obtain ⟨_, _, _, _, _, _, _, _, li, l0, l1, l2⟩ := i1
  obtain ⟨r_place, r_items, r_l0, r_l1, r_l2, r_c0, r_c1, r_c2⟩ := r
  obtain ⟨t_place, t_items, t_l0, t_l1, t_l2, t_c0, t_c1, t_c2⟩ := t
  simp only at *
  obtain ⟨W1, E1, B1, X1, S1⟩ := Blk.new w 30 #[.int .i64 r_place, .slice a0 r_items.length d0, .slice a1 r_l0.length d1, .slice a2 r_l1.length d2, .slice a3 r_l2.length d3, .int .i64 r_c0, .int .i64 r_c1, .int .i64 r_c2]
  obtain ⟨W2, E2, B2, X2, S2⟩ := Blk.new W1 30 #[.int .i64 t_place, .slice b0 t_items.length e0, .slice b1 t_l0.length e1, .slice b2 t_l1.length e2, .slice b3 t_l2.length e3, .int .i64 t_c0, .int .i64 t_c1, .int .i64 t_c2]
  have b02 : Below w.heap.size w W2 := below_on B1 B2
  have Y1 := X1.far B2 (by omega)
  rw [S1] at S2 X2
  obtain ⟨z0, z1, z2, z3, z4, z5, z6, z7⟩ := Y1.st_
  obtain ⟨y0, y1, y2, y3, y4, y5, y6, y7⟩ := X2.st_
  have hcut := run_cut_neq r_c0 r_c1 r_c2 t_c0 t_c1 t_c2
  have hgd : Try.prog.eqGuardType Try.prog.depth 28 = false := by kernel_rfl
  have hs : sameS ⟨r_place, r_items, r_l0, r_l1, r_l2, r_c0, r_c1, r_c2⟩ ⟨t_place, t_items, t_l0, t_l1, t_l2, t_c0, t_c1, t_c2⟩ = (r_place == t_place && (r_c0 == t_c0 && r_c1 == t_c1 && r_c2 == t_c2) && rowEq itEq itD r_items t_items && rowEq lnEq lnD r_l0 t_l0 && rowEq lnEq lnD r_l1 t_l1 && rowEq lnEq lnD r_l2 t_l2) := rfl
  rw [Bool.and_assoc (r_c0 == t_c0)] at hs
  by_cases c1 : r_place = t_place
  · subst c1
    rw [beq_self_eq_true, Bool.true_and] at hs
    rcases hq : (r_c0 == t_c0 && (r_c1 == t_c1 && r_c2 == t_c2)) with _ | _
    · rw [hq, Bool.false_and, Bool.false_and, Bool.false_and, Bool.false_and] at hs
      rw [hq] at hcut
      rw [hs]
      go_enter Try.func26, Try.ntmps26
      go_wp2
      go_ret
      exact ⟨rfl, b02⟩
    · rw [hq, Bool.true_and] at hs
      rw [hq] at hcut
      by_cases hne : r_items.length = t_items.length
      · have HNE := Lib.hid hne
        rw [← hne] at E2 y1 X2 rb0 ⊢
        clear hne
        have hr1 := ra0.2.2.far b02
        have hr2 := rb0.2.2.far b02
        go_enter Try.func26, Try.ntmps26
        go_wp2_with fail
        go_loopw [5] (fun i wr => ∃ k n : Nat, k ≤ r_items.length ∧ i = .int .i64 k ∧ rowAll (fun i => itEq (r_items.getD i itD) (t_items.getD i itD)) k = true ∧ wr = W2.drewN n) (fun i _ => r_items.length - (intOf i).toNat)
        case atStart => exact ⟨0, 0, Nat.zero_le _, rfl, rfl, rfl⟩
        case round =>
          obtain ⟨k, n, hk, rfl, hall, rfl⟩ := hrel
          by_cases hlt : k < r_items.length
          · have hk' : k < t_items.length := by have := HNE.out; omega
            obtain ⟨g, o, rfl, _, _, _⟩ := hr1.addr (by omega)
            obtain ⟨g', o', rfl, _, _, _⟩ := hr2.addr (by omega)
            obtain ⟨p0, p1, p2⟩ := it_cells hr1 hlt
            obtain ⟨q0, q1, q2⟩ := it_cells hr2 hk'
            have hki : (k : Int) < (r_items.length : Int) := by omega
            have hki' : (k : Int) < (t_items.length : Int) := by omega
            have hk0 : (0 : Int) ≤ k := by omega
            have hsucc := rowAll_succ (fun i => itEq (r_items.getD i itD) (t_items.getD i itD)) k
            rw [hall, Bool.true_and] at hsucc
            have hno := fun h => rowEq_no (q := itEq) (d := itD) (l := r_items) (m := t_items) hlt h
            generalize r_items.getD k itD = x at *
            generalize t_items.getD k itD = y at *
            have hneq := run_it_neq x y
            have hgd' : Try.prog.eqGuardType Try.prog.depth 51 = false := by kernel_rfl
            rcases hq : itEq x y with _ | _
            · rw [hno hq, Bool.false_and, Bool.false_and, Bool.false_and] at hs
              have HN := Lib.hid hs
              rw [hq] at hneq
              clear hno hsucc hall hs
              go_wp2
              go_quiet (fail)
              go_wp2
              go_ret
              exact ⟨ret_bool HN.out.symm, b02.trans (((below_drewN W2 n _).trans (below_drewN _ nq _)).mono b02.size)⟩
            · rw [hq] at hneq hsucc
              clear hno hall
              go_wp2
              go_quiet (fail)
              go_wp2
              go_roundw
              case rel => exact ⟨k + 1, n + nq, by omega, by go_num, hsucc, rfl⟩
              case measure => simp [intOf]; omega
          · obtain rfl : k = r_items.length := by omega
            have e : rowEq itEq itD r_items t_items = true := by unfold rowEq; rw [hall, decide_eq_true HNE.out]; rfl
            rw [e, Bool.true_and] at hs
            have HSS := Lib.hid hs
            have bn : Below W2.heap.size W2 (W2.drewN n) := below_drewN _ _ _
            generalize W2.drewN n = wn at *
            obtain ⟨zz0, zz1, zz2, zz3, zz4, zz5, zz6, zz7⟩ := (Y1.far bn (by omega)).st_
            obtain ⟨yy0, yy1, yy2, yy3, yy4, yy5, yy6, yy7⟩ := (X2.far bn (by omega)).st_
            go_wp2_with fail
            go_loopw [6] (fun i wr => ∃ k : Nat, k ≤ 3 ∧ i = .int .i64 k ∧ (0 < k → rowEq lnEq lnD r_l0 t_l0 = true) ∧ (1 < k → rowEq lnEq lnD r_l1 t_l1 = true) ∧ (2 < k → rowEq lnEq lnD r_l2 t_l2 = true) ∧ Below W2.heap.size W2 wr) (fun i _ => 3 - (intOf i).toNat)
            case atStart => exact ⟨0, by omega, rfl, by omega, by omega, by omega, bn⟩
            case round =>
              obtain ⟨k, hk, rfl, g0, g1, g2, hb⟩ := hrel
              rename World => wq
              have b0q := below_on b02 hb
              obtain ⟨z0, z1, z2, z3, z4, z5, z6, z7⟩ := (Y1.far hb (by omega)).st_
              obtain ⟨y0, y1, y2, y3, y4, y5, y6, y7⟩ := (X2.far hb (by omega)).st_
              obtain rfl | rfl | rfl | rfl : k = 0 ∨ k = 1 ∨ k = 2 ∨ k = 3 := by omega
              · have n1 : ∀ w', Below wq.heap.size wq w' → Calls Try.prog 49 #[.slice a1 r_l0.length d1, .slice b1 t_l0.length e1] w' fun e w'' => e = .returned (.bool (rowEq lnEq lnD r_l0 t_l0)) ∧ Below wq.heap.size wq w'' := fun w' bw => (rlines_walk _ _ r_l0 t_l0 w' ⟨_, _, rfl, ra1.1, ra1.2.1, (ra1.2.2.far (below_on b0q bw)).wide (Nat.le_refl _) (below_on b0q bw).size⟩ ⟨_, _, rfl, rb1.1, rb1.2.1, (rb1.2.2.far (below_on b0q bw)).wide (Nat.le_refl _) (below_on b0q bw).size⟩ (by omega)).mono (by rintro e w9 ⟨rfl, b9⟩; exact ⟨rfl, below_on bw b9⟩)
                rcases hq : rowEq lnEq lnD r_l0 t_l0 with _ | _
                · simp only [hq] at n1
                  have hs := HSS.out
                  rw [hq, Bool.false_and, Bool.false_and] at hs
                  have HN := Lib.hid hs
                  clear hs
                  go_wp2_with fail
                  go_region_with (go_at_call 49; refine (n1 _ (by first | exact Below.refl _ _ | exact (Below.refl _ _).drew | exact below_drewN _ _ _)).mono ?_; rintro e w9 ⟨rfl, b9⟩)
                  all_goals
                    go_wp2
                    go_ret
                    exact ⟨ret_bool HN.out.symm, below_on b0q b9⟩
                · simp only [hq] at n1
                  go_wp2_with fail
                  go_region_with (go_at_call 49; refine (n1 _ (by first | exact Below.refl _ _ | exact (Below.refl _ _).drew | exact below_drewN _ _ _)).mono ?_; rintro e w9 ⟨rfl, b9⟩)
                  all_goals
                    have bq := below_on hb b9
                    go_wp2
                    go_roundw
                    case rel => exact ⟨1, by omega, by go_num, fun _ => (by first | exact hq | trivial), by omega, by omega, bq⟩
                    case measure => simp [intOf]
              · have n1 : ∀ w', Below wq.heap.size wq w' → Calls Try.prog 49 #[.slice a2 r_l1.length d2, .slice b2 t_l1.length e2] w' fun e w'' => e = .returned (.bool (rowEq lnEq lnD r_l1 t_l1)) ∧ Below wq.heap.size wq w'' := fun w' bw => (rlines_walk _ _ r_l1 t_l1 w' ⟨_, _, rfl, ra2.1, ra2.2.1, (ra2.2.2.far (below_on b0q bw)).wide (Nat.le_refl _) (below_on b0q bw).size⟩ ⟨_, _, rfl, rb2.1, rb2.2.1, (rb2.2.2.far (below_on b0q bw)).wide (Nat.le_refl _) (below_on b0q bw).size⟩ (by omega)).mono (by rintro e w9 ⟨rfl, b9⟩; exact ⟨rfl, below_on bw b9⟩)
                rcases hq : rowEq lnEq lnD r_l1 t_l1 with _ | _
                · simp only [hq] at n1
                  have hs := HSS.out
                  rw [g0 (by decide), Bool.true_and] at hs
                  rw [hq, Bool.false_and] at hs
                  have HN := Lib.hid hs
                  clear hs
                  go_wp2_with fail
                  go_region_with (go_at_call 49; refine (n1 _ (by first | exact Below.refl _ _ | exact (Below.refl _ _).drew | exact below_drewN _ _ _)).mono ?_; rintro e w9 ⟨rfl, b9⟩)
                  all_goals
                    go_wp2
                    go_ret
                    exact ⟨ret_bool HN.out.symm, below_on b0q b9⟩
                · simp only [hq] at n1
                  go_wp2_with fail
                  go_region_with (go_at_call 49; refine (n1 _ (by first | exact Below.refl _ _ | exact (Below.refl _ _).drew | exact below_drewN _ _ _)).mono ?_; rintro e w9 ⟨rfl, b9⟩)
                  all_goals
                    have bq := below_on hb b9
                    go_wp2
                    go_roundw
                    case rel => exact ⟨2, by omega, by go_num, fun _ => (by first | exact g0 (by decide) | trivial), fun _ => (by first | exact hq | trivial), by omega, bq⟩
                    case measure => simp [intOf]
              · have n1 : ∀ w', Below wq.heap.size wq w' → Calls Try.prog 49 #[.slice a3 r_l2.length d3, .slice b3 t_l2.length e3] w' fun e w'' => e = .returned (.bool (rowEq lnEq lnD r_l2 t_l2)) ∧ Below wq.heap.size wq w'' := fun w' bw => (rlines_walk _ _ r_l2 t_l2 w' ⟨_, _, rfl, ra3.1, ra3.2.1, (ra3.2.2.far (below_on b0q bw)).wide (Nat.le_refl _) (below_on b0q bw).size⟩ ⟨_, _, rfl, rb3.1, rb3.2.1, (rb3.2.2.far (below_on b0q bw)).wide (Nat.le_refl _) (below_on b0q bw).size⟩ (by omega)).mono (by rintro e w9 ⟨rfl, b9⟩; exact ⟨rfl, below_on bw b9⟩)
                rcases hq : rowEq lnEq lnD r_l2 t_l2 with _ | _
                · simp only [hq] at n1
                  have hs := HSS.out
                  rw [g0 (by decide), g1 (by decide), Bool.true_and, Bool.true_and] at hs
                  rw [hq] at hs
                  have HN := Lib.hid hs
                  clear hs
                  go_wp2_with fail
                  go_region_with (go_at_call 49; refine (n1 _ (by first | exact Below.refl _ _ | exact (Below.refl _ _).drew | exact below_drewN _ _ _)).mono ?_; rintro e w9 ⟨rfl, b9⟩)
                  all_goals
                    go_wp2
                    go_ret
                    exact ⟨ret_bool HN.out.symm, below_on b0q b9⟩
                · simp only [hq] at n1
                  go_wp2_with fail
                  go_region_with (go_at_call 49; refine (n1 _ (by first | exact Below.refl _ _ | exact (Below.refl _ _).drew | exact below_drewN _ _ _)).mono ?_; rintro e w9 ⟨rfl, b9⟩)
                  all_goals
                    have bq := below_on hb b9
                    go_wp2
                    go_roundw
                    case rel => exact ⟨3, by omega, by go_num, fun _ => (by first | exact g0 (by decide) | trivial), fun _ => (by first | exact g1 (by decide) | trivial), fun _ => (by first | exact hq | trivial), bq⟩
                    case measure => simp [intOf]
              · have hs := HSS.out
                rw [g0 (by decide), g1 (by decide), g2 (by decide)] at hs
                have HN := Lib.hid hs
                clear hs
                go_wp2
                go_ret
                exact ⟨ret_bool (by rw [HN.out]; rfl), b0q⟩
      · have hne' : ((r_items.length : Int) == (t_items.length : Int)) = false := beq_eq_false_iff_ne.2 (by omega)
        rw [rowEq_len hne, Bool.false_and, Bool.false_and, Bool.false_and] at hs
        rw [hs]
        go_enter Try.func26, Try.ntmps26
        go_wp2
        go_ret
        exact ⟨rfl, b02⟩
  · have c1' : (r_place == t_place) = false := beq_eq_false_iff_ne.2 c1
    rw [c1', Bool.false_and, Bool.false_and, Bool.false_and, Bool.false_and, Bool.false_and] at hs
    rw [hs]
    go_enter Try.func26, Try.ntmps26
    go_wp2
    go_ret
    exact ⟨rfl, b02⟩
end Go.Proofs.Ytmbphhcgmdaoeaa
