/- What is proved: flumeref05's Same answers as the spec says. -/
import Derived.Test.YtmbphhcgmdaoeaaReD
namespace Go.Proofs.Ytmbphhcgmdaoeaa
open Go.RowKit

set_option maxRecDepth 100000 in
set_option maxHeartbeats 3200000 in
theorem rsame_spec : SameSpec 24 := by
  intro v u r t w h1 h2 i1 i2
  obtain ⟨_, rfl, a, c, rfl, hac, _, hr⟩ := h1
  obtain ⟨_, rfl, a', c', rfl, hac', _, hr'⟩ := h2
  obtain ⟨p, y, l⟩ := r
  obtain ⟨p', y', m⟩ := t
  simp only at *
  have hl : l.length ≤ 1000 := i1.2.2
  obtain ⟨W1, E1, B1, X1, S1⟩ := Blk.new w 24 #[.int .i64 p, .bool y, .slice a l.length c]
  obtain ⟨W2, E2, B2, X2, S2⟩ := Blk.new W1 24 #[.int .i64 p', .bool y', .slice a' m.length c']
  have b02 : Below w.heap.size w W2 := below_on B1 B2
  have Y1 := X1.far B2 (by omega)
  rw [S1] at S2 X2
  have z0 : W2.cell? ⟨w.heap.size, 0, none⟩ = some (.int .i64 p) := Y1.cell 0
  have z1 : W2.cell? ⟨w.heap.size, 1, none⟩ = some (.bool y) := Y1.cell 1
  have z2 : W2.cell? ⟨w.heap.size, 2, none⟩ = some (.slice a l.length c) := Y1.cell 2
  have y0 : W2.cell? ⟨w.heap.size + 1, 0, none⟩ = some (.int .i64 p') := X2.cell 0
  have y1 : W2.cell? ⟨w.heap.size + 1, 1, none⟩ = some (.bool y') := X2.cell 1
  have y2 : W2.cell? ⟨w.heap.size + 1, 2, none⟩ = some (.slice a' m.length c') := X2.cell 2
  have hs : sameR ⟨p, y, l⟩ ⟨p', y', m⟩ = (p == p' && y == y' && rowEq wrEq wrD l m) := rfl
  by_cases c1 : p = p'
  · subst c1
    by_cases c2 : y = y'
    · subst c2
      rw [beq_self_eq_true, beq_self_eq_true, Bool.true_and, Bool.true_and] at hs
      rw [hs]
      have hyy : (y == y) = true := beq_self_eq_true y
      by_cases hne : l.length = m.length
      · rw [← hne] at hr' hac' y2 E2 ⊢
        have HNE := Lib.hid hne
        clear hne
        have hr1 := hr.far b02
        have hr2 := hr'.far b02
        go_enter Try.func24, Try.ntmps24
        go_wp2_with fail
        go_loopw [5] (fun i wr => ∃ k n : Nat, k ≤ l.length ∧ i = .int .i64 k ∧ rowAll (fun i => wrEq (l.getD i wrD) (m.getD i wrD)) k = true ∧ wr = W2.drewN n) (fun i _ => l.length - (intOf i).toNat)
        case atStart => exact ⟨0, 0, Nat.zero_le _, rfl, rfl, rfl⟩
        case round =>
          obtain ⟨k, n, hk, rfl, hall, rfl⟩ := hrel
          by_cases hlt : k < l.length
          · obtain ⟨g, o, rfl, _, _, _⟩ := hr1.addr (by omega)
            obtain ⟨g', o', rfl, _, _, _⟩ := hr2.addr (by omega)
            obtain ⟨p0, p1⟩ := wr_cells hr1 hlt
            obtain ⟨q0, q1⟩ := wr_cells hr2 (show k < m.length by have := HNE.out; omega)
            have hki : (k : Int) < (l.length : Int) := by omega
            have hk0 : (0 : Int) ≤ k := by omega
            have hsucc := rowAll_succ (fun i => wrEq (l.getD i wrD) (m.getD i wrD)) k
            rw [hall, Bool.true_and] at hsucc
            have hno := fun h => rowEq_no (q := wrEq) (d := wrD) (l := l) (m := m) hlt h
            generalize l.getD k wrD = s at *
            generalize m.getD k wrD = t at *
            have hneq := run_wr_neq s t
            have hgd : Try.prog.eqGuardType Try.prog.depth 56 = false := by kernel_rfl
            rcases hq : wrEq s t with _ | _
            · have HN := Lib.hid (hno hq)
              rw [hq] at hneq
              clear hno hsucc hall
              go_wp2
              go_quiet (fail)
              go_wp2
              go_ret
              exact ⟨ret_bool HN.out.symm, b02.trans (((below_drewN W2 n _).trans (below_drewN _ nq _)).mono b02.size)⟩
            · rw [hq] at hneq hsucc
              clear hno hall
              go_wp2
              go_quiet (fail)
              go_wp2
              go_roundw
              case rel => exact ⟨k + 1, n + nq, by omega, by go_num, hsucc, rfl⟩
              case measure => simp [intOf]; omega
          · obtain rfl : k = l.length := by omega
            have e : rowEq wrEq wrD l m = true := by unfold rowEq; rw [hall, decide_eq_true HNE.out]; rfl
            go_wp2
            go_ret
            exact ⟨ret_bool e.symm, b02.trans ((below_drewN W2 n _).mono b02.size)⟩
      · have hne' : ((l.length : Int) == (m.length : Int)) = false := beq_eq_false_iff_ne.2 (by omega)
        rw [rowEq_len hne]
        go_enter Try.func24, Try.ntmps24
        go_wp2
        go_ret
        exact ⟨rfl, b02⟩
    · have c2' : (y == y') = false := beq_eq_false_iff_ne.2 c2
      rw [c2', Bool.and_false, Bool.false_and] at hs
      rw [hs]
      go_enter Try.func24, Try.ntmps24
      go_wp2
      go_ret
      exact ⟨rfl, b02⟩
  · have c1' : (p == p') = false := beq_eq_false_iff_ne.2 c1
    rw [c1', Bool.false_and, Bool.false_and] at hs
    rw [hs]
    go_enter Try.func24, Try.ntmps24
    go_wp2
    go_ret
    exact ⟨rfl, b02⟩
end Go.Proofs.Ytmbphhcgmdaoeaa
