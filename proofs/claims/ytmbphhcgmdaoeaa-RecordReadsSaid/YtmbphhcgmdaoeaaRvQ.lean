/- What is proved: slices.Equal of writes, items, lines, bytes. -/
import Derived.Test.YtmbphhcgmdaoeaaReD
import Derived.Test.YtmbphhcgmdaoeaaRvB
namespace Go.Proofs.Ytmbphhcgmdaoeaa
open Go.RowKit

set_option maxRecDepth 100000 in
set_option maxHeartbeats 1600000 in
theorem eqW_walk (v u : Value) (l m : List Wr) (w : World) (h1 : Sl 2 w 0 w.heap.size v l.length (wrC l)) (h2 : Sl 2 w 0 w.heap.size u m.length (wrC m)) (hl : l.length ≤ 1000) :
    Calls Try.prog 46 #[v, u] w fun e w' => e = .returned (.bool (rowEq wrEq wrD l m)) ∧ Below w.heap.size w w' := by
  obtain ⟨a, c, rfl, hac, _, hr⟩ := h1
  obtain ⟨a', c', rfl, hac', _, hr'⟩ := h2
  by_cases hne : l.length = m.length
  · rw [← hne] at hr' hac' ⊢
    go_enter Try.func46, Try.ntmps46
    go_wp2
    go_loopw [13] (fun i wr => ∃ k n : Nat, k ≤ l.length ∧ i = .int .i64 k ∧ rowAll (fun i => wrEq (l.getD i wrD) (m.getD i wrD)) k = true ∧ wr = w.drewN n) (fun i _ => l.length - (intOf i).toNat)
    case atStart => exact ⟨0, 0, Nat.zero_le _, rfl, rfl, rfl⟩
    case round =>
      obtain ⟨k, n, hk, rfl, hall, rfl⟩ := hrel
      by_cases hlt : k < l.length
      · obtain ⟨g, o, rfl, _, _, _⟩ := hr.addr (by omega)
        obtain ⟨g', o', rfl, _, _, _⟩ := hr'.addr (by omega)
        obtain ⟨p0, p1⟩ := wr_cells hr hlt
        obtain ⟨q0, q1⟩ := wr_cells hr' (show k < m.length by omega)
        have hki : (k : Int) < (l.length : Int) := by omega
        have hk0 : (0 : Int) ≤ k := by omega
        have hsucc := rowAll_succ (fun i => wrEq (l.getD i wrD) (m.getD i wrD)) k
        rw [hall, Bool.true_and] at hsucc
        have hno := fun h => rowEq_no (q := wrEq) (d := wrD) (l := l) (m := m) hlt h
        generalize l.getD k wrD = s at *
        generalize m.getD k wrD = t at *
        have hneq := run_wr_neq s t
        have hgd : Try.prog.eqGuardType Try.prog.depth 56 = false := by kernel_rfl
        rcases hq : wrEq s t with _ | _
        · have HN := Lib.hid (hno hq)
          rw [hq] at hneq
          clear hno hsucc hall
          go_wp2
          go_quiet (fail)
          go_wp2
          go_ret
          exact ⟨ret_bool HN.out.symm, (below_drewN w n _).trans (below_drewN _ nq _)⟩
        · rw [hq] at hneq hsucc
          clear hno hall
          go_wp2
          go_quiet (fail)
          go_wp2
          go_roundw
          case rel => exact ⟨k + 1, n + nq, by omega, by go_num, hsucc, rfl⟩
          case measure => simp [intOf]; omega
      · obtain rfl : k = l.length := by omega
        have e : rowEq wrEq wrD l m = true := by unfold rowEq; rw [hall, decide_eq_true hne]; rfl
        go_wp2
        go_ret
        exact ⟨ret_bool e.symm, below_drewN _ _ _⟩
  · have hne' : ((l.length : Int) == (m.length : Int)) = false := beq_eq_false_iff_ne.2 (by omega)
    rw [rowEq_len hne]
    go_enter Try.func46, Try.ntmps46
    go_wp2
    go_ret
    exact ⟨rfl, Below.refl _ _⟩
set_option maxRecDepth 100000 in
set_option maxHeartbeats 1600000 in
theorem eqI_walk (v u : Value) (l m : List It) (w : World) (h1 : Sl 3 w 0 w.heap.size v l.length (itC l)) (h2 : Sl 3 w 0 w.heap.size u m.length (itC m)) (hl : l.length ≤ 1000) :
    Calls Try.prog 48 #[v, u] w fun e w' => e = .returned (.bool (rowEq itEq itD l m)) ∧ Below w.heap.size w w' := by
  obtain ⟨a, c, rfl, hac, _, hr⟩ := h1
  obtain ⟨a', c', rfl, hac', _, hr'⟩ := h2
  by_cases hne : l.length = m.length
  · rw [← hne] at hr' hac' ⊢
    go_enter Try.func48, Try.ntmps48
    go_wp2
    go_loopw [13] (fun i wr => ∃ k n : Nat, k ≤ l.length ∧ i = .int .i64 k ∧ rowAll (fun i => itEq (l.getD i itD) (m.getD i itD)) k = true ∧ wr = w.drewN n) (fun i _ => l.length - (intOf i).toNat)
    case atStart => exact ⟨0, 0, Nat.zero_le _, rfl, rfl, rfl⟩
    case round =>
      obtain ⟨k, n, hk, rfl, hall, rfl⟩ := hrel
      by_cases hlt : k < l.length
      · obtain ⟨g, o, rfl, _, _, _⟩ := hr.addr (by omega)
        obtain ⟨g', o', rfl, _, _, _⟩ := hr'.addr (by omega)
        obtain ⟨p0, p1, p2⟩ := it_cells hr hlt
        obtain ⟨q0, q1, q2⟩ := it_cells hr' (show k < m.length by omega)
        have hki : (k : Int) < (l.length : Int) := by omega
        have hk0 : (0 : Int) ≤ k := by omega
        have hsucc := rowAll_succ (fun i => itEq (l.getD i itD) (m.getD i itD)) k
        rw [hall, Bool.true_and] at hsucc
        have hno := fun h => rowEq_no (q := itEq) (d := itD) (l := l) (m := m) hlt h
        generalize l.getD k itD = s at *
        generalize m.getD k itD = t at *
        have hneq := run_it_neq s t
        have hgd : Try.prog.eqGuardType Try.prog.depth 51 = false := by kernel_rfl
        rcases hq : itEq s t with _ | _
        · have HN := Lib.hid (hno hq)
          rw [hq] at hneq
          clear hno hsucc hall
          go_wp2
          go_quiet (fail)
          go_wp2
          go_ret
          exact ⟨ret_bool HN.out.symm, (below_drewN w n _).trans (below_drewN _ nq _)⟩
        · rw [hq] at hneq hsucc
          clear hno hall
          go_wp2
          go_quiet (fail)
          go_wp2
          go_roundw
          case rel => exact ⟨k + 1, n + nq, by omega, by go_num, hsucc, rfl⟩
          case measure => simp [intOf]; omega
      · obtain rfl : k = l.length := by omega
        have e : rowEq itEq itD l m = true := by unfold rowEq; rw [hall, decide_eq_true hne]; rfl
        go_wp2
        go_ret
        exact ⟨ret_bool e.symm, below_drewN _ _ _⟩
  · have hne' : ((l.length : Int) == (m.length : Int)) = false := beq_eq_false_iff_ne.2 (by omega)
    rw [rowEq_len hne]
    go_enter Try.func48, Try.ntmps48
    go_wp2
    go_ret
    exact ⟨rfl, Below.refl _ _⟩
set_option maxRecDepth 100000 in
set_option maxHeartbeats 1600000 in
theorem eqL_walk (v u : Value) (l m : List Ln) (w : World) (h1 : Sl 5 w 0 w.heap.size v l.length (lnC l)) (h2 : Sl 5 w 0 w.heap.size u m.length (lnC m)) (hl : l.length ≤ 1000) :
    Calls Try.prog 47 #[v, u] w fun e w' => e = .returned (.bool (rowEq lnEq lnD l m)) ∧ Below w.heap.size w w' := by
  obtain ⟨a, c, rfl, hac, _, hr⟩ := h1
  obtain ⟨a', c', rfl, hac', _, hr'⟩ := h2
  by_cases hne : l.length = m.length
  · rw [← hne] at hr' hac' ⊢
    go_enter Try.func47, Try.ntmps47
    go_wp2
    go_loopw [13] (fun i wr => ∃ k n : Nat, k ≤ l.length ∧ i = .int .i64 k ∧ rowAll (fun i => lnEq (l.getD i lnD) (m.getD i lnD)) k = true ∧ wr = w.drewN n) (fun i _ => l.length - (intOf i).toNat)
    case atStart => exact ⟨0, 0, Nat.zero_le _, rfl, rfl, rfl⟩
    case round =>
      obtain ⟨k, n, hk, rfl, hall, rfl⟩ := hrel
      by_cases hlt : k < l.length
      · obtain ⟨g, o, rfl, _, _, _⟩ := hr.addr (by omega)
        obtain ⟨g', o', rfl, _, _, _⟩ := hr'.addr (by omega)
        obtain ⟨p0, p1, p2, p3, p4⟩ := ln_cells hr hlt
        obtain ⟨q0, q1, q2, q3, q4⟩ := ln_cells hr' (show k < m.length by omega)
        have hki : (k : Int) < (l.length : Int) := by omega
        have hk0 : (0 : Int) ≤ k := by omega
        have hsucc := rowAll_succ (fun i => lnEq (l.getD i lnD) (m.getD i lnD)) k
        rw [hall, Bool.true_and] at hsucc
        have hno := fun h => rowEq_no (q := lnEq) (d := lnD) (l := l) (m := m) hlt h
        generalize l.getD k lnD = s at *
        generalize m.getD k lnD = t at *
        have hneq := run_ln_neq s t
        have hgd : Try.prog.eqGuardType Try.prog.depth 53 = false := by kernel_rfl
        rcases hq : lnEq s t with _ | _
        · have HN := Lib.hid (hno hq)
          rw [hq] at hneq
          clear hno hsucc hall
          go_wp2
          go_quiet (fail)
          go_wp2
          go_ret
          exact ⟨ret_bool HN.out.symm, (below_drewN w n _).trans (below_drewN _ nq _)⟩
        · rw [hq] at hneq hsucc
          clear hno hall
          go_wp2
          go_quiet (fail)
          go_wp2
          go_roundw
          case rel => exact ⟨k + 1, n + nq, by omega, by go_num, hsucc, rfl⟩
          case measure => simp [intOf]; omega
      · obtain rfl : k = l.length := by omega
        have e : rowEq lnEq lnD l m = true := by unfold rowEq; rw [hall, decide_eq_true hne]; rfl
        go_wp2
        go_ret
        exact ⟨ret_bool e.symm, below_drewN _ _ _⟩
  · have hne' : ((l.length : Int) == (m.length : Int)) = false := beq_eq_false_iff_ne.2 (by omega)
    rw [rowEq_len hne]
    go_enter Try.func47, Try.ntmps47
    go_wp2
    go_ret
    exact ⟨rfl, Below.refl _ _⟩
def byEq (x y : Int) : Bool := x == y
theorem byEq_iff (x y : Int) : byEq x y = true ↔ x = y := by simp [byEq]
theorem by_cells {w : World} {lo hi g o n : Nat} {l : List Int} (h : Rg 1 w lo hi (some ⟨g, o, none⟩) n (u8s l)) {k : Nat} (hk : k < l.length) : w.cell? ⟨g, o + k, none⟩ = some (.int .u8 (l.getD k 0)) := by
  obtain ⟨h1, h2⟩ := h
  rw [u8s_length] at h1
  rcases h2 with h0 | ⟨g', o', e, _, _, hc⟩
  · omega
  cases e
  exact hc k _ (by simp [u8s, List.getD_eq_getElem?_getD, List.getElem?_eq_getElem hk])
set_option maxRecDepth 100000 in
set_option maxHeartbeats 1600000 in
theorem eqB_walk (v u : Value) (l m : List Int) (w : World) (h1 : Sl 1 w 0 w.heap.size v l.length (u8s l)) (h2 : Sl 1 w 0 w.heap.size u m.length (u8s m)) (hl : l.length ≤ 1000000) :
    Calls Try.prog 54 #[v, u] w fun e w' => e = .returned (.bool (rowEq byEq (0 : Int) l m)) ∧ Below w.heap.size w w' := by
  obtain ⟨a, c, rfl, hac, _, hr⟩ := h1
  obtain ⟨a', c', rfl, hac', _, hr'⟩ := h2
  by_cases hne : l.length = m.length
  · rw [← hne] at hr' hac' ⊢
    go_enter Try.func54, Try.ntmps54
    go_wp2
    go_loopw [13] (fun i wr => ∃ k n : Nat, k ≤ l.length ∧ i = .int .i64 k ∧ rowAll (fun i => byEq (l.getD i (0 : Int)) (m.getD i (0 : Int))) k = true ∧ wr = w.drewN n) (fun i _ => l.length - (intOf i).toNat)
    case atStart => exact ⟨0, 0, Nat.zero_le _, rfl, rfl, rfl⟩
    case round =>
      obtain ⟨k, n, hk, rfl, hall, rfl⟩ := hrel
      by_cases hlt : k < l.length
      · obtain ⟨g, o, rfl, _, _, _⟩ := hr.addr (by omega)
        obtain ⟨g', o', rfl, _, _, _⟩ := hr'.addr (by omega)
        have p0 := by_cells hr hlt
        have q0 := by_cells hr' (show k < m.length by omega)
        have hki : (k : Int) < (l.length : Int) := by omega
        have hk0 : (0 : Int) ≤ k := by omega
        have hsucc := rowAll_succ (fun i => byEq (l.getD i (0 : Int)) (m.getD i (0 : Int))) k
        rw [hall, Bool.true_and] at hsucc
        have hno := fun h => rowEq_no (q := byEq) (d := (0 : Int)) (l := l) (m := m) hlt h
        generalize l.getD k (0 : Int) = s at *
        generalize m.getD k (0 : Int) = t at *
        have hneq : (s != t) = !byEq s t := rfl
        rcases hq : byEq s t with _ | _
        · have HN := Lib.hid (hno hq)
          rw [hq] at hneq
          clear hno hsucc hall
          go_wp2
          go_quiet (fail)
          go_wp2
          go_ret
          exact ⟨ret_bool HN.out.symm, (below_drewN w n _).trans (below_drewN _ nq _)⟩
        · rw [hq] at hneq hsucc
          clear hno hall
          go_wp2
          go_quiet (fail)
          go_wp2
          go_roundw
          case rel => exact ⟨k + 1, n + nq, by omega, by go_num, hsucc, rfl⟩
          case measure => simp [intOf]; omega
      · obtain rfl : k = l.length := by omega
        have e : rowEq byEq (0 : Int) l m = true := by unfold rowEq; rw [hall, decide_eq_true hne]; rfl
        go_wp2
        go_ret
        exact ⟨ret_bool e.symm, below_drewN _ _ _⟩
  · have hne' : ((l.length : Int) == (m.length : Int)) = false := beq_eq_false_iff_ne.2 (by omega)
    rw [rowEq_len hne]
    go_enter Try.func54, Try.ntmps54
    go_wp2
    go_ret
    exact ⟨rfl, Below.refl _ _⟩
end Go.Proofs.Ytmbphhcgmdaoeaa
