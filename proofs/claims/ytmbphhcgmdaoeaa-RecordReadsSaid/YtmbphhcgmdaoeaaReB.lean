/- What is proved: flumeref05's May, Bytes answer as the specs say. -/
import Derived.Test.YtmbphhcgmdaoeaaReA
namespace Go.Proofs.Ytmbphhcgmdaoeaa
open Go.RowKit

set_option maxRecDepth 100000 in
set_option maxHeartbeats 1600000 in
theorem rmay_spec : MaySpec 18 := by
  intro v r w h hI
  obtain ⟨_, rfl, a, c, rfl, hnc, hcm, hr⟩ := id h
  obtain ⟨W1, E1, B1, X1, S1⟩ := Blk.new w 24 #[.int .i64 r.place, .bool r.yes, .slice a r.ws.length c]
  have k0 : W1.cell? ⟨w.heap.size, 0, none⟩ = some (.int .i64 r.place) := X1.cell 0
  have k1 : W1.cell? ⟨w.heap.size, 1, none⟩ = some (.bool r.yes) := X1.cell 1
  have k2 : W1.cell? ⟨w.heap.size, 2, none⟩ = some (.slice a r.ws.length c) := X1.cell 2
  have n1 := rwritten_spec (.slice a r.ws.length c) r.ws W1 ⟨_, _, rfl, hnc, hcm, (hr.far B1).wide (Nat.le_refl _) B1.size⟩ hI.2.1 hI.2.2
  have hm : mayB r = (decide (1 ≤ r.place ∧ r.place ≤ 1048575) && wrB r.ws && (r.yes || decide (r.ws.length = 0))) := rfl
  by_cases c1 : 1 ≤ r.place
  · by_cases c2 : r.place ≤ 1048575
    · rw [decide_eq_true ⟨c1, c2⟩, Bool.true_and] at hm
      generalize wrB r.ws = q at n1 hm
      rcases q with _ | _
      · rw [Bool.false_and] at hm
        rw [hm]
        go_enter Try.func18, Try.ntmps18
        go_wp2_with fail
        refine n1.mono ?_
        rintro e w2 ⟨rfl, b2⟩
        go_wp2
        go_ret
        exact ⟨rfl, below_on B1 b2⟩
      · rw [Bool.true_and] at hm
        obtain ⟨p, y, l⟩ := r
        simp only at *
        rcases y with _ | _
        · rw [hm]
          go_enter Try.func18, Try.ntmps18
          go_wp2_with fail
          refine n1.mono ?_
          rintro e w2 ⟨rfl, b2⟩
          have X2 := X1.far b2 X1.lt
          have j1 : w2.cell? ⟨w.heap.size, 1, none⟩ = some (.bool false) := X2.cell 1
          have j2 : w2.cell? ⟨w.heap.size, 2, none⟩ = some (.slice a l.length c) := X2.cell 2
          go_wp2
          go_ret
          exact ⟨ret_bool (by rw [Bool.eq_iff_iff]; simp), below_on B1 b2⟩
        · rw [hm]
          go_enter Try.func18, Try.ntmps18
          go_wp2_with fail
          refine n1.mono ?_
          rintro e w2 ⟨rfl, b2⟩
          have X2 := X1.far b2 X1.lt
          have j1 : w2.cell? ⟨w.heap.size, 1, none⟩ = some (.bool true) := X2.cell 1
          go_wp2
          go_ret
          exact ⟨rfl, below_on B1 b2⟩
    · rw [decide_eq_false (by omega), Bool.false_and, Bool.false_and] at hm
      rw [hm]
      go_enter Try.func18, Try.ntmps18
      go_wp2
      go_ret
      exact ⟨rfl, B1⟩
  · rw [decide_eq_false (by omega), Bool.false_and, Bool.false_and] at hm
    rw [hm]
    go_enter Try.func18, Try.ntmps18
    go_wp2
    go_ret
    exact ⟨rfl, B1⟩
end Go.Proofs.Ytmbphhcgmdaoeaa
