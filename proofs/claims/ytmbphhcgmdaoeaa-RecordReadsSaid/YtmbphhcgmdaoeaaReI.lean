/- What is proved: flumeref05's lines answers as the document says. -/
import Derived.Test.YtmbphhcgmdaoeaaReH
namespace Go.Proofs.Ytmbphhcgmdaoeaa
open Go.RowKit

theorem lnsB_no {l : List Ln} {pl cut : Int} {k : Nat} (hk : k < l.length) (h : lnAt l pl cut k = false) : lnsB l pl cut = false := by
  unfold lnsB
  rw [rowAll_no hk h, Bool.and_false]
set_option maxRecDepth 100000 in
set_option maxHeartbeats 12800000 in
theorem rlinesB_walk (v : Value) (l : List Ln) (pl cut : Int) (w : World) (h : Sl 5 w 0 w.heap.size v l.length (lnC l)) (hl : l.length ≤ 1000) :
    Calls Try.prog 45 #[v, .int .i64 pl, .int .i64 cut] w fun e w' => e = .returned (.bool (lnsB l pl cut)) ∧ Below w.heap.size w w' := by
  obtain ⟨a, c, rfl, hnc, hcm, hr⟩ := h
  by_cases hh : l.length ≤ 16 ∧ 0 ≤ cut ∧ cut ≤ pl
  rotate_left
  · have e : lnsB l pl cut = false := by unfold lnsB; rw [decide_eq_false hh, Bool.false_and]
    rw [e]
    have hex : 16 < (l.length : Int) ∨ ((l.length : Int) ≤ 16 ∧ cut < 0) ∨ ((l.length : Int) ≤ 16 ∧ 0 ≤ cut ∧ pl < cut) := by omega
    clear hh e
    rcases hex with h1 | ⟨h1, h2⟩ | ⟨h1, h2, h3⟩
    · go_enter Try.func45, Try.ntmps45
      go_wp2
      go_ret
      exact ⟨rfl, Below.refl _ _⟩
    · have e1 : ((16 : Int) < (l.length : Int)) = False := eq_false (by omega)
      have e1' : (16 < l.length) = False := eq_false (by omega)
      go_enter Try.func45, Try.ntmps45
      go_wp2
      go_ret
      exact ⟨rfl, Below.refl _ _⟩
    · have e1 : ((16 : Int) < (l.length : Int)) = False := eq_false (by omega)
      have e1' : (16 < l.length) = False := eq_false (by omega)
      have e2 : (cut < 0) = False := eq_false (by omega)
      go_enter Try.func45, Try.ntmps45
      go_wp2
      go_ret
      exact ⟨rfl, Below.refl _ _⟩
  obtain ⟨hc1, hc2, hc3⟩ := hh
  have e1 : ((16 : Int) < (l.length : Int)) = False := eq_false (by omega)
  have e1' : (16 < l.length) = False := eq_false (by omega)
  have e2 : (cut < 0) = False := eq_false (by omega)
  have e3 : (pl < cut) = False := eq_false (by omega)
  go_enter Try.func45, Try.ntmps45
  go_wp2_with fail
  clear e1 e1' e2 e3
  go_loopw [7] (fun i wr => ∃ k : Nat, k ≤ l.length ∧ i = .int .i64 k ∧ rowAll (lnAt l pl cut) k = true ∧ Below w.heap.size w wr) (fun i _ => l.length - (intOf i).toNat)
  case atStart => exact ⟨0, Nat.zero_le _, rfl, rfl, Below.refl _ _⟩
  case round =>
    obtain ⟨k, hk, rfl, hall, hb⟩ := hrel
    by_cases hlt : k < l.length
    · obtain ⟨g, o, rfl, _, hg, _⟩ := hr.addr (by omega)
      have hrw := hr.far hb
      obtain ⟨q0, q1, q2, q3, q4⟩ := ln_cells hrw hlt
      have hk2 : ((k : Int) * 5).toNat = k * 5 := by omega
      have hsucc := rowAll_succ (lnAt l pl cut) k
      rw [hall, Bool.true_and] at hsucc
      by_cases t1 : 0 ≤ (l.getD k lnD).off ∧ (l.getD k lnD).off < 4194304 ∧ 1 ≤ (l.getD k lnD).place ∧ (l.getD k lnD).place ≤ pl ∧ 0 ≤ (l.getD k lnD).j ∧ (l.getD k lnD).j < 4 ∧ 0 ≤ (l.getD k lnD).key ∧ (l.getD k lnD).key < 8 ∧ 0 ≤ (l.getD k lnD).val ∧ (l.getD k lnD).val ≤ 255
      rotate_left
      · have hno := lnsB_no (l := l) (pl := pl) (cut := cut) hlt (by unfold lnAt; rw [decide_eq_false t1, Bool.false_and, Bool.false_and])
        clear hsucc hall
        generalize hx : l.getD k lnD = x at *
        by_cases z0 : x.off < 0
        · clear t1
          go_wp2
          go_ret
          exact ⟨ret_bool hno.symm, (by first | exact hb.alloc hb.size _ | exact (hb.alloc hb.size _).trans (below_drewN _ _ _) | exact ((hb.alloc hb.size _).trans (below_drewN _ _ _)).trans (below_drewN _ _ _))⟩
        by_cases z1 : 4194304 ≤ x.off
        · clear t1
          have e0 : (x.off < 0) = False := eq_false z0
          clear z0
          go_wp2
          go_ret
          exact ⟨ret_bool hno.symm, (by first | exact hb.alloc hb.size _ | exact (hb.alloc hb.size _).trans (below_drewN _ _ _) | exact ((hb.alloc hb.size _).trans (below_drewN _ _ _)).trans (below_drewN _ _ _))⟩
        by_cases z2 : x.place < 1
        · clear t1
          have e0 : (x.off < 0) = False := eq_false z0
          have e1 : (4194304 ≤ x.off) = False := eq_false z1
          clear z0 z1
          go_wp2
          go_ret
          exact ⟨ret_bool hno.symm, (by first | exact hb.alloc hb.size _ | exact (hb.alloc hb.size _).trans (below_drewN _ _ _) | exact ((hb.alloc hb.size _).trans (below_drewN _ _ _)).trans (below_drewN _ _ _))⟩
        by_cases z3 : pl < x.place
        · clear t1
          have e0 : (x.off < 0) = False := eq_false z0
          have e1 : (4194304 ≤ x.off) = False := eq_false z1
          have e2 : (x.place < 1) = False := eq_false z2
          clear z0 z1 z2
          go_wp2
          go_ret
          exact ⟨ret_bool hno.symm, (by first | exact hb.alloc hb.size _ | exact (hb.alloc hb.size _).trans (below_drewN _ _ _) | exact ((hb.alloc hb.size _).trans (below_drewN _ _ _)).trans (below_drewN _ _ _))⟩
        by_cases z4 : x.j < 0
        · clear t1
          have e0 : (x.off < 0) = False := eq_false z0
          have e1 : (4194304 ≤ x.off) = False := eq_false z1
          have e2 : (x.place < 1) = False := eq_false z2
          have e3 : (pl < x.place) = False := eq_false z3
          clear z0 z1 z2 z3
          go_wp2
          go_ret
          exact ⟨ret_bool hno.symm, (by first | exact hb.alloc hb.size _ | exact (hb.alloc hb.size _).trans (below_drewN _ _ _) | exact ((hb.alloc hb.size _).trans (below_drewN _ _ _)).trans (below_drewN _ _ _))⟩
        by_cases z5 : 4 ≤ x.j
        · clear t1
          have e0 : (x.off < 0) = False := eq_false z0
          have e1 : (4194304 ≤ x.off) = False := eq_false z1
          have e2 : (x.place < 1) = False := eq_false z2
          have e3 : (pl < x.place) = False := eq_false z3
          have e4 : (x.j < 0) = False := eq_false z4
          clear z0 z1 z2 z3 z4
          go_wp2
          go_ret
          exact ⟨ret_bool hno.symm, (by first | exact hb.alloc hb.size _ | exact (hb.alloc hb.size _).trans (below_drewN _ _ _) | exact ((hb.alloc hb.size _).trans (below_drewN _ _ _)).trans (below_drewN _ _ _))⟩
        by_cases z6 : x.key < 0
        · clear t1
          have e0 : (x.off < 0) = False := eq_false z0
          have e1 : (4194304 ≤ x.off) = False := eq_false z1
          have e2 : (x.place < 1) = False := eq_false z2
          have e3 : (pl < x.place) = False := eq_false z3
          have e4 : (x.j < 0) = False := eq_false z4
          have e5 : (4 ≤ x.j) = False := eq_false z5
          clear z0 z1 z2 z3 z4 z5
          go_wp2
          go_ret
          exact ⟨ret_bool hno.symm, (by first | exact hb.alloc hb.size _ | exact (hb.alloc hb.size _).trans (below_drewN _ _ _) | exact ((hb.alloc hb.size _).trans (below_drewN _ _ _)).trans (below_drewN _ _ _))⟩
        by_cases z7 : 8 ≤ x.key
        · clear t1
          have e0 : (x.off < 0) = False := eq_false z0
          have e1 : (4194304 ≤ x.off) = False := eq_false z1
          have e2 : (x.place < 1) = False := eq_false z2
          have e3 : (pl < x.place) = False := eq_false z3
          have e4 : (x.j < 0) = False := eq_false z4
          have e5 : (4 ≤ x.j) = False := eq_false z5
          have e6 : (x.key < 0) = False := eq_false z6
          clear z0 z1 z2 z3 z4 z5 z6
          go_wp2
          go_ret
          exact ⟨ret_bool hno.symm, (by first | exact hb.alloc hb.size _ | exact (hb.alloc hb.size _).trans (below_drewN _ _ _) | exact ((hb.alloc hb.size _).trans (below_drewN _ _ _)).trans (below_drewN _ _ _))⟩
        by_cases z8 : x.val < 0
        · clear t1
          have e0 : (x.off < 0) = False := eq_false z0
          have e1 : (4194304 ≤ x.off) = False := eq_false z1
          have e2 : (x.place < 1) = False := eq_false z2
          have e3 : (pl < x.place) = False := eq_false z3
          have e4 : (x.j < 0) = False := eq_false z4
          have e5 : (4 ≤ x.j) = False := eq_false z5
          have e6 : (x.key < 0) = False := eq_false z6
          have e7 : (8 ≤ x.key) = False := eq_false z7
          clear z0 z1 z2 z3 z4 z5 z6 z7
          go_wp2
          go_ret
          exact ⟨ret_bool hno.symm, (by first | exact hb.alloc hb.size _ | exact (hb.alloc hb.size _).trans (below_drewN _ _ _) | exact ((hb.alloc hb.size _).trans (below_drewN _ _ _)).trans (below_drewN _ _ _))⟩
        by_cases z9 : 255 < x.val
        · clear t1
          have e0 : (x.off < 0) = False := eq_false z0
          have e1 : (4194304 ≤ x.off) = False := eq_false z1
          have e2 : (x.place < 1) = False := eq_false z2
          have e3 : (pl < x.place) = False := eq_false z3
          have e4 : (x.j < 0) = False := eq_false z4
          have e5 : (4 ≤ x.j) = False := eq_false z5
          have e6 : (x.key < 0) = False := eq_false z6
          have e7 : (8 ≤ x.key) = False := eq_false z7
          have e8 : (x.val < 0) = False := eq_false z8
          clear z0 z1 z2 z3 z4 z5 z6 z7 z8
          go_wp2
          go_ret
          exact ⟨ret_bool hno.symm, (by first | exact hb.alloc hb.size _ | exact (hb.alloc hb.size _).trans (below_drewN _ _ _) | exact ((hb.alloc hb.size _).trans (below_drewN _ _ _)).trans (below_drewN _ _ _))⟩
        exact absurd ⟨by omega, by omega, by omega, by omega, by omega, by omega, by omega, by omega, by omega, by omega⟩ t1
      have t1' := t1
      obtain ⟨h0, h1, h2, h3, h4, h5, h6, h7, h8, h9⟩ := t1'
      by_cases hz : k = 0
      · by_cases t2 : cut < (l.getD k lnD).place
        · have hok : lnAt l pl cut k = true := by unfold lnAt; rw [decide_eq_true t1, decide_eq_true (fun _ => t2), decide_eq_true (Or.inl hz)]; rfl
          rw [hok] at hsucc
          clear hok t1 hall
          generalize hx : l.getD k lnD = x at *
          have e0 : (x.off < 0) = False := eq_false (by omega)
          have e1 : (4194304 ≤ x.off) = False := eq_false (by omega)
          have e2 : (x.place < 1) = False := eq_false (by omega)
          have e3 : (pl < x.place) = False := eq_false (by omega)
          have e4 : (x.j < 0) = False := eq_false (by omega)
          have e5 : (4 ≤ x.j) = False := eq_false (by omega)
          have e6 : (x.key < 0) = False := eq_false (by omega)
          have e7 : (8 ≤ x.key) = False := eq_false (by omega)
          have e8 : (x.val < 0) = False := eq_false (by omega)
          have e9 : (255 < x.val) = False := eq_false (by omega)
          have hk5 : ((0 : Int) < (k : Int)) = False := eq_false (by omega)
          have hk6 : (0 < k) = False := eq_false (by omega)
          have hk7 : ((k : Int) = 0) = True := eq_true (by omega)
          have hk9 : ((k : Int) == 0) = true := by rw [beq_iff_eq]; omega
          have hk8 : (k = 0) = True := eq_true (by omega)
          have e10 : (x.place ≤ cut) = False := eq_false (by omega)
          clear h0 h1 h2 h3 h4 h5 h6 h7 h8 h9
          clear hz t2
          go_wp2_with fail
          go_quiet (fail)
          go_wp2
          go_roundw
          case rel => exact ⟨k + 1, by omega, by go_num, hsucc, (by first | exact hb.alloc hb.size _ | exact (hb.alloc hb.size _).trans (below_drewN _ _ _) | exact ((hb.alloc hb.size _).trans (below_drewN _ _ _)).trans (below_drewN _ _ _))⟩
          case measure => simp [intOf]; omega
        · have hno := lnsB_no (l := l) (pl := pl) (cut := cut) hlt (by unfold lnAt; rw [decide_eq_true t1, decide_eq_false (fun h => t2 (h hz)), Bool.and_false, Bool.false_and])
          clear t1 hsucc hall
          generalize hx : l.getD k lnD = x at *
          have e0 : (x.off < 0) = False := eq_false (by omega)
          have e1 : (4194304 ≤ x.off) = False := eq_false (by omega)
          have e2 : (x.place < 1) = False := eq_false (by omega)
          have e3 : (pl < x.place) = False := eq_false (by omega)
          have e4 : (x.j < 0) = False := eq_false (by omega)
          have e5 : (4 ≤ x.j) = False := eq_false (by omega)
          have e6 : (x.key < 0) = False := eq_false (by omega)
          have e7 : (8 ≤ x.key) = False := eq_false (by omega)
          have e8 : (x.val < 0) = False := eq_false (by omega)
          have e9 : (255 < x.val) = False := eq_false (by omega)
          have hk5 : ((0 : Int) < (k : Int)) = False := eq_false (by omega)
          have hk6 : (0 < k) = False := eq_false (by omega)
          have hk7 : ((k : Int) = 0) = True := eq_true (by omega)
          have hk9 : ((k : Int) == 0) = true := by rw [beq_iff_eq]; omega
          have hk8 : (k = 0) = True := eq_true (by omega)
          have e10 : x.place ≤ cut := by omega
          clear h0 h1 h2 h3 h4 h5 h6 h7 h8 h9
          clear hz t2
          go_wp2
          go_ret
          exact ⟨ret_bool hno.symm, (by first | exact hb.alloc hb.size _ | exact (hb.alloc hb.size _).trans (below_drewN _ _ _) | exact ((hb.alloc hb.size _).trans (below_drewN _ _ _)).trans (below_drewN _ _ _))⟩
      · have hpv : 0 ≤ (l.getD (k - 1) lnD).off ∧ (l.getD (k - 1) lnD).off < 4194304 := by
          have g1 := rowAll_get hall (show k - 1 < k by omega)
          unfold lnAt at g1
          simp only [Bool.and_eq_true, decide_eq_true_eq] at g1
          exact ⟨g1.1.1.1, g1.1.1.2.1⟩
        by_cases t3 : ((l.getD k lnD).off = (l.getD (k - 1) lnD).off + 1 ∧ (l.getD (k - 1) lnD).place ≤ (l.getD k lnD).place ∧ ((l.getD k lnD).place = (l.getD (k - 1) lnD).place → (l.getD (k - 1) lnD).j < (l.getD k lnD).j))
        · have hok : lnAt l pl cut k = true := by unfold lnAt; rw [decide_eq_true t1, decide_eq_true (fun h => absurd h hz), decide_eq_true (Or.inr t3)]; rfl
          rw [hok] at hsucc
          clear hok t1 hall
          generalize hx : l.getD k lnD = x at *
          have e0 : (x.off < 0) = False := eq_false (by omega)
          have e1 : (4194304 ≤ x.off) = False := eq_false (by omega)
          have e2 : (x.place < 1) = False := eq_false (by omega)
          have e3 : (pl < x.place) = False := eq_false (by omega)
          have e4 : (x.j < 0) = False := eq_false (by omega)
          have e5 : (4 ≤ x.j) = False := eq_false (by omega)
          have e6 : (x.key < 0) = False := eq_false (by omega)
          have e7 : (8 ≤ x.key) = False := eq_false (by omega)
          have e8 : (x.val < 0) = False := eq_false (by omega)
          have e9 : (255 < x.val) = False := eq_false (by omega)
          have hk5 : ((0 : Int) < (k : Int)) = True := eq_true (by omega)
          have hk6 : (0 < k) = True := eq_true (by omega)
          have hk7 : ((k : Int) = 0) = False := eq_false (by omega)
          have hk9 : ((k : Int) == 0) = false := beq_eq_false_iff_ne.2 (by omega)
          have hk8 : (k = 0) = False := eq_false (by omega)
          have hk3 : (((k : Int) - 1) * 5).toNat = (k - 1) * 5 := by omega
          have hk4 : ((k : Int) - 1).toNat = k - 1 := by omega
          have hka : (0 : Int) ≤ (k : Int) - 1 := by omega
          have hkb : (k : Int) - 1 < (l.length : Int) := by omega
          have hkc : (0 : Int) < (k : Int) := by omega
          obtain ⟨p0, p1, p2, p3, p4⟩ := ln_cells (hr.far (hb.alloc hb.size (.cells #[.int .i64 x.off, .int .i64 x.place, .int .i64 x.j, .int .i64 x.key, .int .i64 x.val] 53))) (show k - 1 < l.length by omega)
          generalize hy : l.getD (k - 1) lnD = y at *
          have hm : IntKind.i64.wrap (y.off + 1) = y.off + 1 := IntWalk.i64_in _ (by omega)
          have hm2 : wrap64 (y.off + 1) = y.off + 1 := IntWalk.wrap64_in _ (by omega)
          obtain ⟨t4, t5, t6⟩ := t3
          have e11 : (x.off = y.off + 1) = True := eq_true t4
          have e11' : (x.off != y.off + 1) = false := by simp [t4]
          have e11'' : (x.off == y.off + 1) = true := by simp [t4]
          have e12 : (x.place < y.place) = False := eq_false (by omega)
          by_cases t7 : x.place = y.place
          · have e13 : (x.place = y.place) = True := eq_true t7
            have e13' : (x.place == y.place) = true := by simp [t7]
            have e14 : (x.j ≤ y.j) = False := eq_false (by have := t6 t7; omega)
            clear h0 h1 h2 h3 h4 h5 h6 h7 h8 h9
            clear hz t4 t5 t6 t7 hpv
            go_wp2_with fail
            go_quiet (fail)
            go_wp2
            go_roundw
            case rel => exact ⟨k + 1, by omega, by go_num, hsucc, (by first | exact hb.alloc hb.size _ | exact (hb.alloc hb.size _).trans (below_drewN _ _ _) | exact ((hb.alloc hb.size _).trans (below_drewN _ _ _)).trans (below_drewN _ _ _))⟩
            case measure => simp [intOf]; omega
          · have e13 : (x.place = y.place) = False := eq_false t7
            have e13' : (x.place == y.place) = false := by simp [t7]
            clear h0 h1 h2 h3 h4 h5 h6 h7 h8 h9
            clear hz t4 t5 t6 t7 hpv
            go_wp2_with fail
            go_quiet (fail)
            go_wp2
            go_roundw
            case rel => exact ⟨k + 1, by omega, by go_num, hsucc, (by first | exact hb.alloc hb.size _ | exact (hb.alloc hb.size _).trans (below_drewN _ _ _) | exact ((hb.alloc hb.size _).trans (below_drewN _ _ _)).trans (below_drewN _ _ _))⟩
            case measure => simp [intOf]; omega
        · have hno := lnsB_no (l := l) (pl := pl) (cut := cut) hlt (by unfold lnAt; rw [Bool.and_eq_false_iff]; right; exact decide_eq_false (fun h => h.elim hz t3))
          clear t1 hsucc hall
          generalize hx : l.getD k lnD = x at *
          have e0 : (x.off < 0) = False := eq_false (by omega)
          have e1 : (4194304 ≤ x.off) = False := eq_false (by omega)
          have e2 : (x.place < 1) = False := eq_false (by omega)
          have e3 : (pl < x.place) = False := eq_false (by omega)
          have e4 : (x.j < 0) = False := eq_false (by omega)
          have e5 : (4 ≤ x.j) = False := eq_false (by omega)
          have e6 : (x.key < 0) = False := eq_false (by omega)
          have e7 : (8 ≤ x.key) = False := eq_false (by omega)
          have e8 : (x.val < 0) = False := eq_false (by omega)
          have e9 : (255 < x.val) = False := eq_false (by omega)
          have hk5 : ((0 : Int) < (k : Int)) = True := eq_true (by omega)
          have hk6 : (0 < k) = True := eq_true (by omega)
          have hk7 : ((k : Int) = 0) = False := eq_false (by omega)
          have hk9 : ((k : Int) == 0) = false := beq_eq_false_iff_ne.2 (by omega)
          have hk8 : (k = 0) = False := eq_false (by omega)
          have hk3 : (((k : Int) - 1) * 5).toNat = (k - 1) * 5 := by omega
          have hk4 : ((k : Int) - 1).toNat = k - 1 := by omega
          have hka : (0 : Int) ≤ (k : Int) - 1 := by omega
          have hkb : (k : Int) - 1 < (l.length : Int) := by omega
          have hkc : (0 : Int) < (k : Int) := by omega
          obtain ⟨p0, p1, p2, p3, p4⟩ := ln_cells (hr.far (hb.alloc hb.size (.cells #[.int .i64 x.off, .int .i64 x.place, .int .i64 x.j, .int .i64 x.key, .int .i64 x.val] 53))) (show k - 1 < l.length by omega)
          generalize hy : l.getD (k - 1) lnD = y at *
          have hm : IntKind.i64.wrap (y.off + 1) = y.off + 1 := IntWalk.i64_in _ (by omega)
          have hm2 : wrap64 (y.off + 1) = y.off + 1 := IntWalk.wrap64_in _ (by omega)
          have hex : x.off ≠ y.off + 1 ∨ (x.off = y.off + 1 ∧ x.place < y.place) ∨ (x.off = y.off + 1 ∧ x.place = y.place ∧ x.j ≤ y.j) := by omega
          rcases hex with t4 | ⟨t4, t5⟩ | ⟨t4, t5, t6⟩
          · have e11 : (x.off = y.off + 1) = False := eq_false t4
            have e11' : (x.off != y.off + 1) = true := by simp [t4]
            have e11'' : (x.off == y.off + 1) = false := by simp [t4]
            clear h0 h1 h2 h3 h4 h5 h6 h7 h8 h9
            clear hz t3 t4 hpv
            go_wp2_with fail
            go_quiet (fail)
            go_wp2
            go_ret
            exact ⟨ret_bool hno.symm, (by first | exact hb.alloc hb.size _ | exact (hb.alloc hb.size _).trans (below_drewN _ _ _) | exact ((hb.alloc hb.size _).trans (below_drewN _ _ _)).trans (below_drewN _ _ _))⟩
          · have e11 : (x.off = y.off + 1) = True := eq_true t4
            have e11' : (x.off != y.off + 1) = false := by simp [t4]
            have e11'' : (x.off == y.off + 1) = true := by simp [t4]
            clear h0 h1 h2 h3 h4 h5 h6 h7 h8 h9
            clear hz t3 t4 hpv
            go_wp2_with fail
            go_quiet (fail)
            go_wp2
            go_ret
            exact ⟨ret_bool hno.symm, (by first | exact hb.alloc hb.size _ | exact (hb.alloc hb.size _).trans (below_drewN _ _ _) | exact ((hb.alloc hb.size _).trans (below_drewN _ _ _)).trans (below_drewN _ _ _))⟩
          · have e11 : (x.off = y.off + 1) = True := eq_true t4
            have e11' : (x.off != y.off + 1) = false := by simp [t4]
            have e11'' : (x.off == y.off + 1) = true := by simp [t4]
            have e12 : (x.place < y.place) = False := eq_false (by omega)
            have e13 : (x.place = y.place) = True := eq_true t5
            have e13' : (x.place == y.place) = true := by simp [t5]
            clear h0 h1 h2 h3 h4 h5 h6 h7 h8 h9
            clear hz t3 t4 t5 hpv
            go_wp2_with fail
            go_quiet (fail)
            go_wp2
            go_ret
            exact ⟨ret_bool hno.symm, (by first | exact hb.alloc hb.size _ | exact (hb.alloc hb.size _).trans (below_drewN _ _ _) | exact ((hb.alloc hb.size _).trans (below_drewN _ _ _)).trans (below_drewN _ _ _))⟩
    · obtain rfl : k = l.length := by omega
      have e : lnsB l pl cut = true := by unfold lnsB; rw [hall, decide_eq_true ⟨hc1, hc2, hc3⟩]; rfl
      go_wp2
      go_ret
      exact ⟨ret_bool e.symm, hb⟩
end Go.Proofs.Ytmbphhcgmdaoeaa
