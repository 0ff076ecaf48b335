/- What is proved: DiskOwn where the input is too great or the disk may not be; the statement's walk. -/
import Derived.Test.YtjahhheipeggeaaDvH
namespace Go.Proofs.Ytjahhheipeggeaa
open Go.RowKit

set_option maxRecDepth 100000 in
set_option maxHeartbeats 16000000 in
theorem own_no (a : Option Addr) (l c : Nat) (a' : Option Addr) (l' c' : Nat) (d : Dsk) (x : DAct) (w : World)
    (Dd : Dk w 0 w.heap.size (.agg #[.slice a l c, .slice a' l' c']) d) (hno : smallD d = false ∨ (smallD d = true ∧ ((1000 < x.b.size) ∨ (x.b.size ≤ 1000 ∧ chkB d = false)))) :
    Calls Try.prog 8 #[.agg #[.slice a l c, .slice a' l' c'], x.val] w fun e w' => e = .returned (.bool true) ∧ Below w.heap.size w w' := by
  have HB := Below.refl w.heap.size w
  simp only [DAct.val]
  obtain ⟨w1, ee, hbx, Bx1, hzz⟩ := box_new w 24 (.slice a l c) (.slice a' l' c')
  replace hzz := Lib.hid hzz
  replace Dd := Dd.on hbx
  replace HB := HB.trans (hbx.mono HB.size)
  clear hbx hzz
  obtain ⟨w2, ee2, hbx, Bx2⟩ := box5_new w1 47 (.int .i64 x.k) (.int .i64 x.s) (.int .i64 x.n) (.string x.b) (.int .u64 x.lost)
  replace Bx1 := Bx1.far hbx
  replace Dd := Dd.on hbx
  replace HB := HB.trans (hbx.mono HB.size)
  clear hbx
  rcases hno with sd | ⟨sd, g0 | ⟨q0, hk⟩⟩
  · have SD := Lib.hid sd
    clear sd
    go_enter Try.func8, Try.ntmps8
    have nn := great_walk 0 w2.heap.size _ d w2 Dd (Nat.le_refl _)
    obtain ⟨_, x1_0, x1_1, x1_2, x1_3⟩ := id Bx1
    obtain ⟨_, x2_0, x2_1, x2_2, x2_3, x2_4⟩ := id Bx2
    go_wp2_with fail
    refine nn.mono ?_
    rintro e wg ⟨rfl, hbx⟩
    clear nn x1_0 x1_1 x1_2 x1_3 x2_0 x2_1 x2_2 x2_3 x2_4
    replace Bx1 := Bx1.far hbx
    replace Bx2 := Bx2.far hbx
    replace Dd := Dd.on hbx
    replace HB := HB.trans (hbx.mono HB.size)
    clear hbx
    rw [SD.out]
    have nn := wakes_walk dnew_spec dput_spec dget_spec dcrash_spec wg
    obtain ⟨_, x1_0, x1_1, x1_2, x1_3⟩ := id Bx1
    obtain ⟨_, x2_0, x2_1, x2_2, x2_3, x2_4⟩ := id Bx2
    go_wp2_with fail
    refine nn.mono ?_
    rintro e wk ⟨rfl, hbx⟩
    go_wp2
    go_ret
    exact ⟨rfl, HB.trans (hbx.mono HB.size)⟩
  · have SD := Lib.hid sd
    clear sd
    have t0 : ((1000 : Int) < (x.b.size : Int)) = True := by simp; omega
    go_enter Try.func8, Try.ntmps8
    have nn := great_walk 0 w2.heap.size _ d w2 Dd (Nat.le_refl _)
    obtain ⟨_, x1_0, x1_1, x1_2, x1_3⟩ := id Bx1
    obtain ⟨_, x2_0, x2_1, x2_2, x2_3, x2_4⟩ := id Bx2
    go_wp2_with fail
    refine nn.mono ?_
    rintro e wg ⟨rfl, hbx⟩
    clear nn x1_0 x1_1 x1_2 x1_3 x2_0 x2_1 x2_2 x2_3 x2_4
    replace Bx1 := Bx1.far hbx
    replace Bx2 := Bx2.far hbx
    replace Dd := Dd.on hbx
    replace HB := HB.trans (hbx.mono HB.size)
    clear hbx
    rw [SD.out]
    have nn := wakes_walk dnew_spec dput_spec dget_spec dcrash_spec wg
    obtain ⟨_, x1_0, x1_1, x1_2, x1_3⟩ := id Bx1
    obtain ⟨_, x2_0, x2_1, x2_2, x2_3, x2_4⟩ := id Bx2
    go_wp2_with fail
    refine nn.mono ?_
    rintro e wk ⟨rfl, hbx⟩
    go_wp2
    go_ret
    exact ⟨rfl, HB.trans (hbx.mono HB.size)⟩
  · have SD := Lib.hid sd
    have CK := Lib.hid (chk_no hk)
    clear sd hk
    have s0 : ((1000 : Int) < (x.b.size : Int)) = False := by simp; omega
    go_enter Try.func8, Try.ntmps8
    have nn := great_walk 0 w2.heap.size _ d w2 Dd (Nat.le_refl _)
    obtain ⟨_, x1_0, x1_1, x1_2, x1_3⟩ := id Bx1
    obtain ⟨_, x2_0, x2_1, x2_2, x2_3, x2_4⟩ := id Bx2
    go_wp2_with fail
    refine nn.mono ?_
    rintro e wg ⟨rfl, hbx⟩
    clear nn x1_0 x1_1 x1_2 x1_3 x2_0 x2_1 x2_2 x2_3 x2_4
    replace Bx1 := Bx1.far hbx
    replace Bx2 := Bx2.far hbx
    replace Dd := Dd.on hbx
    replace HB := HB.trans (hbx.mono HB.size)
    clear hbx
    rw [SD.out]
    have nn := rcheck_spec wg.heap.size _ d wg Dd (Nat.le_refl _) SD.out
    obtain ⟨_, x1_0, x1_1, x1_2, x1_3⟩ := id Bx1
    obtain ⟨_, x2_0, x2_1, x2_2, x2_3, x2_4⟩ := id Bx2
    go_wp2_with fail
    refine nn.mono ?_
    rintro e wc ⟨rfl, hbx⟩
    clear nn x1_0 x1_1 x1_2 x1_3 x2_0 x2_1 x2_2 x2_3 x2_4
    replace Bx1 := Bx1.far hbx
    replace Bx2 := Bx2.far hbx
    replace Dd := Dd.on hbx
    replace HB := HB.trans (hbx.mono HB.size)
    clear hbx
    rw [CK.out]
    have nn := wakes_walk dnew_spec dput_spec dget_spec dcrash_spec wc
    obtain ⟨_, x1_0, x1_1, x1_2, x1_3⟩ := id Bx1
    obtain ⟨_, x2_0, x2_1, x2_2, x2_3, x2_4⟩ := id Bx2
    go_wp2_with fail
    refine nn.mono ?_
    rintro e wk ⟨rfl, hbx⟩
    go_wp2
    go_ret
    exact ⟨rfl, HB.trans (hbx.mono HB.size)⟩
end Go.Proofs.Ytjahhheipeggeaa
