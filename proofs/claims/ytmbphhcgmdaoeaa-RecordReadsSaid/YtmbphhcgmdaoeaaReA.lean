/- What is proved: flumeref05's Written, May, Same, SameLines answer as the specs say. -/
import Derived.Test.YtmbphhcgmdaoeaaRcX
import Derived.Deep.QuietTactic
import Derived.BigQuiet
namespace Go.Proofs.Ytmbphhcgmdaoeaa
open Go.RowKit

theorem wr_cells {w : World} {lo hi g o n : Nat} {l : List Wr} (h : Rg 2 w lo hi (some ⟨g, o, none⟩) n (wrC l)) {k : Nat} (hk : k < l.length) :
    w.cell? ⟨g, o + k * 2, none⟩ = some (.int .i64 (l.getD k wrD).key) ∧ w.cell? ⟨g, o + k * 2 + 1, none⟩ = some (.int .i64 (l.getD k wrD).val) := by
  obtain ⟨h1, h2⟩ := h
  rw [wrC_len] at h1
  rcases h2 with h0 | ⟨g', o', e, _, _, hc⟩
  · omega
  cases e
  have hx : l.getD k wrD = l[k] := getD_at (List.getElem?_eq_getElem hk)
  rw [hx]
  have h3 := fun j (hj : j < 2) => flat_at Wr.cells 2 (fun _ => rfl) l k j hk hj
  exact ⟨hc (k * 2) _ (h3 0 (by decide)), by rw [Nat.add_assoc]; exact hc (k * 2 + 1) _ (h3 1 (by decide))⟩
theorem wrB_no {l : List Wr} {k : Nat} (hk : k < l.length) (h : wrAt l k = false) : wrB l = false := by
  unfold wrB
  rw [rowAll_no hk h, Bool.and_false]
set_option maxRecDepth 100000 in
set_option maxHeartbeats 3200000 in
theorem rwritten_spec : WrittenSpec 20 := by
  intro v l w h hI hl
  obtain ⟨a, c, rfl, hnc, hcm, hr⟩ := h
  by_cases h4 : 4 < (l.length : Int)
  · have e : wrB l = false := by unfold wrB; rw [decide_eq_false (by omega), Bool.false_and]
    rw [e]
    go_enter Try.func20, Try.ntmps20
    go_wp2
    go_ret
    exact ⟨rfl, Below.refl _ _⟩
  · go_enter Try.func20, Try.ntmps20
    go_wp2_with fail
    go_loopw [3] (fun i wr => ∃ k : Nat, k ≤ l.length ∧ i = .int .i64 k ∧ rowAll (wrAt l) k = true ∧ Below w.heap.size w wr) (fun i _ => l.length - (intOf i).toNat)
    case atStart => exact ⟨0, Nat.zero_le _, rfl, rfl, Below.refl _ _⟩
    case round =>
      obtain ⟨k, hk, rfl, hall, hb⟩ := hrel
      by_cases hlt : k < l.length
      · obtain ⟨g, o, rfl, _, hg, _⟩ := hr.addr (by omega)
        have hrw := hr.far hb
        obtain ⟨q0, q1⟩ := wr_cells hrw hlt
        have hk2 : ((k : Int) * 2).toNat = k * 2 := by omega
        have hsucc := rowAll_succ (wrAt l) k
        rw [hall, Bool.true_and] at hsucc
        rcases hok : wrAt l k with _ | _
        · have hno := wrB_no hlt hok
          have hex : (l.getD k wrD).key < 0 ∨ (¬ (l.getD k wrD).key < 0 ∧ 24 ≤ (l.getD k wrD).key) ∨ (¬ (l.getD k wrD).key < 0 ∧ ¬ 24 ≤ (l.getD k wrD).key ∧ (l.getD k wrD).val < 0) ∨ (¬ (l.getD k wrD).key < 0 ∧ ¬ 24 ≤ (l.getD k wrD).key ∧ ¬ (l.getD k wrD).val < 0 ∧ 255 < (l.getD k wrD).val) ∨ (¬ (l.getD k wrD).key < 0 ∧ ¬ 24 ≤ (l.getD k wrD).key ∧ ¬ (l.getD k wrD).val < 0 ∧ ¬ 255 < (l.getD k wrD).val ∧ 0 < k ∧ (l.getD k wrD).key ≤ (l.getD (k - 1) wrD).key) := by
            have := of_decide_eq_false hok
            omega
          clear hok hsucc
          generalize hx : l.getD k wrD = x at *
          rcases hex with h1 | ⟨h1, h2⟩ | ⟨h1, h2, h3⟩ | ⟨h1, h2, h3, h4'⟩ | ⟨h1, h2, h3, h4', h5, h6⟩
          · go_wp2_with fail
            go_quiet (fail)
            go_wp2
            go_ret
            exact ⟨ret_bool hno.symm, hb.trans (below_drewN _ _ _)⟩
          · have e1 : (x.key < 0) = False := eq_false (by omega)
            go_wp2_with fail
            go_quiet (fail)
            go_wp2
            go_ret
            exact ⟨ret_bool hno.symm, hb.trans (below_drewN _ _ _)⟩
          · have e1 : (x.key < 0) = False := eq_false (by omega)
            have e2 : (24 ≤ x.key) = False := eq_false (by omega)
            go_wp2_with fail
            go_quiet (fail)
            go_wp2
            go_ret
            exact ⟨ret_bool hno.symm, hb.trans (below_drewN _ _ _)⟩
          · have e1 : (x.key < 0) = False := eq_false (by omega)
            have e2 : (24 ≤ x.key) = False := eq_false (by omega)
            have e3 : (x.val < 0) = False := eq_false (by omega)
            go_wp2_with fail
            go_quiet (fail)
            go_wp2
            go_ret
            exact ⟨ret_bool hno.symm, hb.trans (below_drewN _ _ _)⟩
          · have e1 : (x.key < 0) = False := eq_false (by omega)
            have e2 : (24 ≤ x.key) = False := eq_false (by omega)
            have e3 : (x.val < 0) = False := eq_false (by omega)
            have e4 : (255 < x.val) = False := eq_false (by omega)
            obtain ⟨p0, p1⟩ := wr_cells hrw (show k - 1 < l.length by omega)
            have hk3 : (((k : Int) - 1) * 2).toNat = (k - 1) * 2 := by omega
            have hk4 : ((k : Int) - 1).toNat = k - 1 := by omega
            have hk5 : (0 : Int) < (k : Int) := by omega
            generalize hy : l.getD (k - 1) wrD = y at *
            go_wp2_with fail
            go_quiet (fail)
            go_wp2
            go_ret
            exact ⟨ret_bool hno.symm, hb.trans (below_drewN _ _ _)⟩
        · have hex := of_decide_eq_true hok
          obtain ⟨h1, h2, h3, h4', h5⟩ := hex
          rw [hok] at hsucc
          clear hok
          generalize hx : l.getD k wrD = x at *
          have e1 : (x.key < 0) = False := eq_false (by omega)
          have e2 : (24 ≤ x.key) = False := eq_false (by omega)
          have e3 : (x.val < 0) = False := eq_false (by omega)
          have e4 : (255 < x.val) = False := eq_false (by omega)
          clear h1 h2 h3 h4'
          by_cases h0 : k = 0
          · have hk5 : ((0 : Int) < (k : Int)) = False := eq_false (by omega)
            have hk6 : (0 < k) = False := eq_false (by omega)
            clear h0
            go_wp2_with fail
            go_quiet (fail)
            go_wp2
            go_roundw
            case rel => exact ⟨k + 1, by omega, by go_num, hsucc, hb.trans (below_drewN _ _ _)⟩
            case measure => simp [intOf]; omega
          · have h6 : (x.key ≤ (l.getD (k - 1) wrD).key) = False := eq_false (by omega)
            obtain ⟨p0, p1⟩ := wr_cells hrw (show k - 1 < l.length by omega)
            have hk3 : (((k : Int) - 1) * 2).toNat = (k - 1) * 2 := by omega
            have hk4 : ((k : Int) - 1).toNat = k - 1 := by omega
            have hk5 : (0 : Int) < (k : Int) := by omega
            have hk6 : (0 < k) = True := eq_true (by omega)
            clear h0
            generalize hy : l.getD (k - 1) wrD = y at *
            go_wp2_with fail
            go_quiet (fail)
            go_wp2
            go_roundw
            case rel => exact ⟨k + 1, by omega, by go_num, hsucc, hb.trans (below_drewN _ _ _)⟩
            case measure => simp [intOf]; omega
      · obtain rfl : k = l.length := by omega
        have e : wrB l = true := by unfold wrB; rw [hall, decide_eq_true (by omega)]; rfl
        go_wp2
        go_ret
        exact ⟨ret_bool e.symm, hb⟩
end Go.Proofs.Ytmbphhcgmdaoeaa
