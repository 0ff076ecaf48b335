/- What is proved: flumeref05's Same and SameLines answer as the specs say. -/
import Derived.Test.YtmbphhcgmdaoeaaReC
import Derived.Test.YtmbphhcgmdaoeaaRcY
import Derived.Laws.StructEq
namespace Go.Proofs.Ytmbphhcgmdaoeaa
open Go.RowKit

theorem run_wr_neq (s t : Wr) (w : World) : (binOp .neq 56 (.agg #[.int .i64 s.key, .int .i64 s.val]) (.agg #[.int .i64 t.key, .int .i64 t.val])).run Try.prog w = .ok (.bool (!wrEq s t)) w := by
  rw [run_neq_struct, run_equalIn_agg _ _ _ _ _ (by kernel_rfl) (by kernel_rfl)]
  have hm : ((Try.prog.fieldsOf 56).toList.map fun f => (f.name, f.type, f.offset)) = [("Key", 3, 0), ("Value", 3, 1)] := by kernel_rfl
  generalize (Try.prog.fieldsOf 56).toList = fs at hm ⊢
  rcases fs with _ | ⟨f1, _ | ⟨f2, _ | ⟨f3, fs⟩⟩⟩
  · simp at hm
  · simp at hm
  · simp only [List.map_cons, List.map_nil, List.cons.injEq, Prod.mk.injEq, and_true] at hm
    obtain ⟨⟨h0, h1, h2⟩, h3, h4, h5⟩ := hm
    simp [Op.eqFields, h0, h1, h2, h3, h4, h5, part, wrEq, go_sem]
    by_cases k0 : s.key = t.key <;> by_cases k1 : s.val = t.val <;> simp [k0, k1]
  · simp at hm
theorem run_it_neq (s t : It) (w : World) : (binOp .neq 51 (.agg #[.int .i64 s.key, .int .i64 s.place, .int .i64 s.val]) (.agg #[.int .i64 t.key, .int .i64 t.place, .int .i64 t.val])).run Try.prog w = .ok (.bool (!itEq s t)) w := by
  rw [run_neq_struct, run_equalIn_agg _ _ _ _ _ (by kernel_rfl) (by kernel_rfl)]
  have hm : ((Try.prog.fieldsOf 51).toList.map fun f => (f.name, f.type, f.offset)) = [("Key", 3, 0), ("Place", 3, 1), ("Value", 3, 2)] := by kernel_rfl
  generalize (Try.prog.fieldsOf 51).toList = fs at hm ⊢
  rcases fs with _ | ⟨f1, _ | ⟨f2, _ | ⟨f3, _ | ⟨f4, fs⟩⟩⟩⟩
  · simp at hm
  · simp at hm
  · simp at hm
  · simp only [List.map_cons, List.map_nil, List.cons.injEq, Prod.mk.injEq, and_true] at hm
    obtain ⟨⟨h0, h1, h2⟩, ⟨h3, h4, h5⟩, h6, h7, h8⟩ := hm
    simp [Op.eqFields, h0, h1, h2, h3, h4, h5, h6, h7, h8, part, itEq, go_sem]
    by_cases k0 : s.key = t.key <;> by_cases k1 : s.place = t.place <;> by_cases k2 : s.val = t.val <;> simp [k0, k1, k2]
  · simp at hm
theorem run_ln_neq (s t : Ln) (w : World) : (binOp .neq 53 (.agg #[.int .i64 s.off, .int .i64 s.place, .int .i64 s.j, .int .i64 s.key, .int .i64 s.val]) (.agg #[.int .i64 t.off, .int .i64 t.place, .int .i64 t.j, .int .i64 t.key, .int .i64 t.val])).run Try.prog w = .ok (.bool (!lnEq s t)) w := by
  rw [run_neq_struct, run_equalIn_agg _ _ _ _ _ (by kernel_rfl) (by kernel_rfl)]
  have hm : ((Try.prog.fieldsOf 53).toList.map fun f => (f.name, f.type, f.offset)) = [("Offset", 3, 0), ("Place", 3, 1), ("J", 3, 2), ("Key", 3, 3), ("Value", 3, 4)] := by kernel_rfl
  generalize (Try.prog.fieldsOf 53).toList = fs at hm ⊢
  rcases fs with _ | ⟨f1, _ | ⟨f2, _ | ⟨f3, _ | ⟨f4, _ | ⟨f5, _ | ⟨f6, fs⟩⟩⟩⟩⟩⟩
  · simp at hm
  · simp at hm
  · simp at hm
  · simp at hm
  · simp at hm
  · simp only [List.map_cons, List.map_nil, List.cons.injEq, Prod.mk.injEq, and_true] at hm
    obtain ⟨⟨h0, h1, h2⟩, ⟨h3, h4, h5⟩, ⟨h6, h7, h8⟩, ⟨h9, h10, h11⟩, h12, h13, h14⟩ := hm
    simp [Op.eqFields, h0, h1, h2, h3, h4, h5, h6, h7, h8, h9, h10, h11, h12, h13, h14, part, lnEq, go_sem]
    by_cases k0 : s.off = t.off <;> by_cases k1 : s.place = t.place <;> by_cases k2 : s.j = t.j <;> by_cases k3 : s.key = t.key <;> by_cases k4 : s.val = t.val <;> simp [k0, k1, k2, k3, k4]
  · simp at hm
theorem rowEq_no {α : Type} {q : α → α → Bool} {d : α} {l m : List α} {k : Nat} (hk : k < l.length) (h : q (l.getD k d) (m.getD k d) = false) : rowEq q d l m = false := by
  unfold rowEq
  rw [rowAll_no hk h, Bool.and_false]
theorem rowEq_len {α : Type} {q : α → α → Bool} {d : α} {l m : List α} (h : l.length ≠ m.length) : rowEq q d l m = false := by
  unfold rowEq
  rw [decide_eq_false h, Bool.false_and]
set_option maxRecDepth 100000 in
set_option maxHeartbeats 1600000 in
theorem rlines_walk (v u : Value) (l m : List Ln) (w : World) (h1 : Sl 5 w 0 w.heap.size v l.length (lnC l)) (h2 : Sl 5 w 0 w.heap.size u m.length (lnC m)) (hl : l.length ≤ 1000) :
    Calls Try.prog 49 #[v, u] w fun e w' => e = .returned (.bool (rowEq lnEq lnD l m)) ∧ Below w.heap.size w w' := by
  obtain ⟨a, c, rfl, hac, _, hr⟩ := h1
  obtain ⟨a', c', rfl, hac', _, hr'⟩ := h2
  by_cases hne : l.length = m.length
  · rw [← hne] at hr' hac' ⊢
    go_enter Try.func49, Try.ntmps49
    go_wp2
    go_loopw [5] (fun i wr => ∃ k n : Nat, k ≤ l.length ∧ i = .int .i64 k ∧ rowAll (fun i => lnEq (l.getD i lnD) (m.getD i lnD)) k = true ∧ wr = w.drewN n) (fun i _ => l.length - (intOf i).toNat)
    case atStart => exact ⟨0, 0, Nat.zero_le _, rfl, rfl, rfl⟩
    case round =>
      obtain ⟨k, n, hk, rfl, hall, rfl⟩ := hrel
      by_cases hlt : k < l.length
      · obtain ⟨g, o, rfl, _, _, _⟩ := hr.addr (by omega)
        obtain ⟨g', o', rfl, _, _, _⟩ := hr'.addr (by omega)
        obtain ⟨p0, p1, p2, p3, p4⟩ := ln_cells hr hlt
        obtain ⟨q0, q1, q2, q3, q4⟩ := ln_cells hr' (show k < m.length by omega)
        have hki : (k : Int) < (l.length : Int) := by omega
        have hk0 : (0 : Int) ≤ k := by omega
        have hsucc := rowAll_succ (fun i => lnEq (l.getD i lnD) (m.getD i lnD)) k
        rw [hall, Bool.true_and] at hsucc
        have hno := fun h => rowEq_no (q := lnEq) (d := lnD) (l := l) (m := m) hlt h
        generalize l.getD k lnD = s at *
        generalize m.getD k lnD = t at *
        have hneq := run_ln_neq s t
        have hgd : Try.prog.eqGuardType Try.prog.depth 53 = false := by kernel_rfl
        rcases hq : lnEq s t with _ | _
        · have HN := Lib.hid (hno hq)
          rw [hq] at hneq
          clear hno hsucc hall
          go_wp2
          go_quiet (fail)
          go_wp2
          go_ret
          exact ⟨ret_bool HN.out.symm, (below_drewN w n _).trans (below_drewN _ nq _)⟩
        · rw [hq] at hneq hsucc
          clear hno hall
          go_wp2
          go_quiet (fail)
          go_wp2
          go_roundw
          case rel => exact ⟨k + 1, n + nq, by omega, by go_num, hsucc, rfl⟩
          case measure => simp [intOf]; omega
      · obtain rfl : k = l.length := by omega
        have e : rowEq lnEq lnD l m = true := by unfold rowEq; rw [hall, decide_eq_true hne]; rfl
        go_wp2
        go_ret
        exact ⟨ret_bool e.symm, below_drewN _ _ _⟩
  · have hne' : ((l.length : Int) == (m.length : Int)) = false := beq_eq_false_iff_ne.2 (by omega)
    rw [rowEq_len hne]
    go_enter Try.func49, Try.ntmps49
    go_wp2
    go_ret
    exact ⟨rfl, Below.refl _ _⟩
end Go.Proofs.Ytmbphhcgmdaoeaa
