/- What is proved: flumeref05's items answers as the document says. -/
import Derived.Test.YtmbphhcgmdaoeaaReF
namespace Go.Proofs.Ytmbphhcgmdaoeaa
open Go.RowKit

theorem itsB_no {l : List It} {pl : Int} {k : Nat} (hk : k < l.length) (h : itAt l pl k = false) : itsB l pl = false := by
  unfold itsB
  exact rowAll_no hk h
set_option maxRecDepth 100000 in
set_option maxHeartbeats 6400000 in
theorem ritems_walk (v : Value) (l : List It) (pl : Int) (w : World) (h : Sl 3 w 0 w.heap.size v l.length (itC l)) (hl : l.length ≤ 1000) :
    Calls Try.prog 44 #[v, .int .i64 pl] w fun e w' => e = .returned (.bool (itsB l pl)) ∧ Below w.heap.size w w' := by
  obtain ⟨a, c, rfl, hnc, hcm, hr⟩ := h
  go_enter Try.func44, Try.ntmps44
  go_wp2_with fail
  go_loopw [5] (fun i wr => ∃ k : Nat, k ≤ l.length ∧ i = .int .i64 k ∧ rowAll (itAt l pl) k = true ∧ Below w.heap.size w wr) (fun i _ => l.length - (intOf i).toNat)
  case atStart => exact ⟨0, Nat.zero_le _, rfl, rfl, Below.refl _ _⟩
  case round =>
    obtain ⟨k, hk, rfl, hall, hb⟩ := hrel
    by_cases hlt : k < l.length
    · obtain ⟨g, o, rfl, _, hg, _⟩ := hr.addr (by omega)
      have hrw := hr.far hb
      obtain ⟨q0, q1, q2⟩ := it_cells hrw hlt
      have hk2 : ((k : Int) * 3).toNat = k * 3 := by omega
      have hsucc := rowAll_succ (itAt l pl) k
      rw [hall, Bool.true_and] at hsucc
      rcases hok : itAt l pl k with _ | _
      · have hno := itsB_no hlt hok
        have hex : (l.getD k itD).key < 0 ∨ (0 ≤ (l.getD k itD).key ∧ 24 ≤ (l.getD k itD).key) ∨ (0 ≤ (l.getD k itD).key ∧ (l.getD k itD).key < 24 ∧ 0 < k ∧ (l.getD k itD).key ≤ (l.getD (k - 1) itD).key) ∨ (0 ≤ (l.getD k itD).key ∧ (l.getD k itD).key < 24 ∧ (k = 0 ∨ (0 < k ∧ (l.getD (k - 1) itD).key < (l.getD k itD).key)) ∧ ((l.getD k itD).place < 1 ∨ (1 ≤ (l.getD k itD).place ∧ pl < (l.getD k itD).place) ∨ (1 ≤ (l.getD k itD).place ∧ (l.getD k itD).place ≤ pl ∧ (l.getD k itD).val < 0) ∨ (1 ≤ (l.getD k itD).place ∧ (l.getD k itD).place ≤ pl ∧ 0 ≤ (l.getD k itD).val ∧ 255 < (l.getD k itD).val))) := by
          have := of_decide_eq_false hok
          omega
        clear hok hsucc
        generalize hx : l.getD k itD = x at *
        rcases hex with h1 | ⟨h1, h2⟩ | ⟨h1, h2, h3, h4⟩ | ⟨h1, h2, h3, h4⟩
        · go_wp2_with fail
          go_quiet (fail)
          go_wp2
          go_ret
          exact ⟨ret_bool hno.symm, (hb.alloc hb.size _).trans (below_drewN _ _ _)⟩
        · have e1 : (x.key < 0) = False := eq_false (by omega)
          go_wp2_with fail
          go_quiet (fail)
          go_wp2
          go_ret
          exact ⟨ret_bool hno.symm, (hb.alloc hb.size _).trans (below_drewN _ _ _)⟩
        · have e1 : (x.key < 0) = False := eq_false (by omega)
          have e2 : (24 ≤ x.key) = False := eq_false (by omega)
          obtain ⟨p0, p1, p2⟩ := it_cells (hr.far (hb.alloc hb.size (.cells #[.int .i64 x.key, .int .i64 x.place, .int .i64 x.val] 51))) (show k - 1 < l.length by omega)
          have hk3 : (((k : Int) - 1) * 3).toNat = (k - 1) * 3 := by omega
          have hk4 : ((k : Int) - 1).toNat = k - 1 := by omega
          have hk5 : (0 : Int) < (k : Int) := by omega
          have hk6 : (0 < k) = True := eq_true (by omega)
          generalize hy : l.getD (k - 1) itD = y at *
          go_wp2_with fail
          go_quiet (fail)
          go_wp2
          go_ret
          exact ⟨ret_bool hno.symm, (hb.alloc hb.size _).trans (below_drewN _ _ _)⟩
        · have e1 : (x.key < 0) = False := eq_false (by omega)
          have e2 : (24 ≤ x.key) = False := eq_false (by omega)
          clear h1 h2
          rcases h3 with h0 | ⟨h0, h3⟩
          · have hk5 : ((0 : Int) < (k : Int)) = False := eq_false (by omega)
            have hk6 : (0 < k) = False := eq_false (by omega)
            clear h0
            rcases h4 with h4 | ⟨h4, h5⟩ | ⟨h4, h5, h6⟩ | ⟨h4, h5, h6, h7⟩
            · go_wp2_with fail
              go_quiet (fail)
              go_wp2
              go_ret
              exact ⟨ret_bool hno.symm, (hb.alloc hb.size _).trans (below_drewN _ _ _)⟩
            · have e3 : (x.place < 1) = False := eq_false (by omega)
              go_wp2_with fail
              go_quiet (fail)
              go_wp2
              go_ret
              exact ⟨ret_bool hno.symm, (hb.alloc hb.size _).trans (below_drewN _ _ _)⟩
            · have e3 : (x.place < 1) = False := eq_false (by omega)
              have e4 : (pl < x.place) = False := eq_false (by omega)
              go_wp2_with fail
              go_quiet (fail)
              go_wp2
              go_ret
              exact ⟨ret_bool hno.symm, (hb.alloc hb.size _).trans (below_drewN _ _ _)⟩
            · have e3 : (x.place < 1) = False := eq_false (by omega)
              have e4 : (pl < x.place) = False := eq_false (by omega)
              have e5 : (x.val < 0) = False := eq_false (by omega)
              go_wp2_with fail
              go_quiet (fail)
              go_wp2
              go_ret
              exact ⟨ret_bool hno.symm, (hb.alloc hb.size _).trans (below_drewN _ _ _)⟩
          · have h8 : (x.key ≤ (l.getD (k - 1) itD).key) = False := eq_false (by omega)
            obtain ⟨p0, p1, p2⟩ := it_cells (hr.far (hb.alloc hb.size (.cells #[.int .i64 x.key, .int .i64 x.place, .int .i64 x.val] 51))) (show k - 1 < l.length by omega)
            have hk3 : (((k : Int) - 1) * 3).toNat = (k - 1) * 3 := by omega
            have hk4 : ((k : Int) - 1).toNat = k - 1 := by omega
            have hk5 : (0 : Int) < (k : Int) := by omega
            have hk6 : (0 < k) = True := eq_true (by omega)
            clear h0 h3
            generalize hy : l.getD (k - 1) itD = y at *
            rcases h4 with h4 | ⟨h4, h5⟩ | ⟨h4, h5, h6⟩ | ⟨h4, h5, h6, h7⟩
            · go_wp2_with fail
              go_quiet (fail)
              go_wp2
              go_ret
              exact ⟨ret_bool hno.symm, (hb.alloc hb.size _).trans (below_drewN _ _ _)⟩
            · have e3 : (x.place < 1) = False := eq_false (by omega)
              go_wp2_with fail
              go_quiet (fail)
              go_wp2
              go_ret
              exact ⟨ret_bool hno.symm, (hb.alloc hb.size _).trans (below_drewN _ _ _)⟩
            · have e3 : (x.place < 1) = False := eq_false (by omega)
              have e4 : (pl < x.place) = False := eq_false (by omega)
              go_wp2_with fail
              go_quiet (fail)
              go_wp2
              go_ret
              exact ⟨ret_bool hno.symm, (hb.alloc hb.size _).trans (below_drewN _ _ _)⟩
            · have e3 : (x.place < 1) = False := eq_false (by omega)
              have e4 : (pl < x.place) = False := eq_false (by omega)
              have e5 : (x.val < 0) = False := eq_false (by omega)
              go_wp2_with fail
              go_quiet (fail)
              go_wp2
              go_ret
              exact ⟨ret_bool hno.symm, (hb.alloc hb.size _).trans (below_drewN _ _ _)⟩
      · have hex := of_decide_eq_true hok
        obtain ⟨h1, h2, h3, h4, h5, h6, h7⟩ := hex
        rw [hok] at hsucc
        clear hok
        generalize hx : l.getD k itD = x at *
        have e1 : (x.key < 0) = False := eq_false (by omega)
        have e2 : (24 ≤ x.key) = False := eq_false (by omega)
        have e3 : (x.place < 1) = False := eq_false (by omega)
        have e4 : (pl < x.place) = False := eq_false (by omega)
        have e5 : (x.val < 0) = False := eq_false (by omega)
        have e6 : (255 < x.val) = False := eq_false (by omega)
        clear h1 h2 h4 h5 h6 h7
        by_cases h0 : k = 0
        · have hk5 : ((0 : Int) < (k : Int)) = False := eq_false (by omega)
          have hk6 : (0 < k) = False := eq_false (by omega)
          clear h0
          go_wp2_with fail
          go_quiet (fail)
          go_wp2
          go_roundw
          case rel => exact ⟨k + 1, by omega, by go_num, hsucc, (hb.alloc hb.size _).trans (below_drewN _ _ _)⟩
          case measure => simp [intOf]; omega
        · have h8 : (x.key ≤ (l.getD (k - 1) itD).key) = False := eq_false (by omega)
          obtain ⟨p0, p1, p2⟩ := it_cells (hr.far (hb.alloc hb.size (.cells #[.int .i64 x.key, .int .i64 x.place, .int .i64 x.val] 51))) (show k - 1 < l.length by omega)
          have hk3 : (((k : Int) - 1) * 3).toNat = (k - 1) * 3 := by omega
          have hk4 : ((k : Int) - 1).toNat = k - 1 := by omega
          have hk5 : (0 : Int) < (k : Int) := by omega
          have hk6 : (0 < k) = True := eq_true (by omega)
          clear h0 h3
          generalize hy : l.getD (k - 1) itD = y at *
          go_wp2_with fail
          go_quiet (fail)
          go_wp2
          go_roundw
          case rel => exact ⟨k + 1, by omega, by go_num, hsucc, (hb.alloc hb.size _).trans (below_drewN _ _ _)⟩
          case measure => simp [intOf]; omega
    · obtain rfl : k = l.length := by omega
      have e : itsB l pl = true := hall
      go_wp2
      go_ret
      exact ⟨ret_bool e.symm, hb⟩
end Go.Proofs.Ytmbphhcgmdaoeaa
