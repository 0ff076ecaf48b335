/- What is proved: the contract of flumeref03's Crash: its walk. -/
import Derived.Test.YtjahhheipeggeaaDskJ
import Derived.BigRegion
namespace Go.Proofs.Ytjahhheipeggeaa
open Go.RowKit

set_option maxHeartbeats 3200000 in
theorem rcrash_no (lo hi : Nat) (v : Value) (d : Dsk) (lost : Int) (w : World) (hd : Dk w lo hi v d) (hh : hi ≤ w.heap.size) (hk : chkB d = false) :
    Calls Try.prog 18 #[v, .int .u64 lost] w fun e w' => e = .returned (.tuple #[nilDisk, .int .i64 2]) ∧ Below w.heap.size w w' := by
  obtain ⟨a, l, c, a', l', c', rfl, h1, h2, hc⟩ := hd
  obtain ⟨W2, e2, hb1, k0, k1, k3, k4, k5, hsz⟩ := two_boxes w 24 24 (.slice a l c) (.slice a' l' c') (.slice none 0 0) (.slice none 0 0)
  have r1 := check_walk lo hi (.agg #[.slice a l c, .slice a' l' c']) d W2 ⟨a, l, c, a', l', c', rfl, h1.far (hb1.mono hh), h2.far (hb1.mono hh), hc⟩ (by omega)
  rw [chk_no hk] at r1
  clear hk h1 h2
  go_enter Try.func18, Try.ntmps18
  go_wp2_with fail
  refine r1.mono ?_
  rintro e w3 ⟨rfl, hb3⟩
  obtain ⟨q0, q1, q2, q3⟩ := kR k3 k4 k5 hsz hb3
  have hend : Below w.heap.size w ((w3.setCell ⟨w.heap.size + 1, 0, none⟩ (.slice none 0 0)).setCell ⟨w.heap.size + 1, 1, none⟩ (.slice none 0 0)) := ((hb1.trans (hb3.mono hb1.size)).setCell (Nat.le_succ _) _).setCell (Nat.le_succ _) _
  clear k0 k1 k3 k4 k5 e2
  go_wp2
  exact bodyPost_ret (v := .tuple #[nilDisk, .int .i64 2]) (by simp [results, Try.results18, go_sem, nilDisk, q0, q1]) rfl ⟨rfl, hend⟩

set_option maxHeartbeats 3200000 in
theorem rcrash_yes (lo hi : Nat) (v : Value) (d : Dsk) (lost : Int) (w : World) (hd : Dk w lo hi v d) (hh : hi ≤ w.heap.size) (hk : chkB d = true) (hl0 : 0 ≤ lost) (hl1' : lost < 18446744073709551616) :
    Calls Try.prog 18 #[v, .int .u64 lost] w fun e w' => ∃ v', e = .returned (.tuple #[v', .int .i64 0]) ∧ Own2 w.heap.size w' 35 v' (crashD d lost) ∧ Below w.heap.size w w' := by
  obtain ⟨a, l, c, a', l', c', rfl, h1, h2, hc⟩ := hd
  obtain ⟨W2, e2, hb1, k0, k1, k3, k4, k5, hsz⟩ := two_boxes w 24 24 (.slice a l c) (.slice a' l' c') (.slice none 0 0) (.slice none 0 0)
  have r1 := check_walk lo hi (.agg #[.slice a l c, .slice a' l' c']) d W2 ⟨a, l, c, a', l', c', rfl, h1.far (hb1.mono hh), h2.far (hb1.mono hh), hc⟩ (by omega)
  obtain ⟨hp1, hp2, _⟩ := chkB_parts hk
  have hl1 : l = 33 := by rw [← secs_len h1]; exact rowB_length hp1
  have hl2 : l' = 33 := by rw [← secs_len h2]; exact rowB_length hp2
  subst hl1 hl2
  have HL := Lib.hid (rowB_length hp1)
  have HL' := Lib.hid (rowB_length hp2)
  have HE := Lib.hid (crashTo_end d lost HL.out HL'.out)
  rw [chk_yes hk] at r1
  clear hk hp1 hp2
  go_enter Try.func18, Try.ntmps18
  go_wp2_with fail
  refine r1.mono ?_
  rintro e w3 ⟨rfl, hb3⟩
  have hB3 := hb1.trans (hb3.mono hb1.size)
  obtain ⟨q0, q1, q2, q3⟩ := kR k3 k4 k5 hsz hb3
  have q4 := (hb3.cell (p := ⟨w.heap.size, 0, none⟩) (show w.heap.size < _ by omega)).trans k0
  have q5 := (hb3.cell (p := ⟨w.heap.size, 1, none⟩) (show w.heap.size < _ by omega)).trans k1
  have hz3 := hb3.size
  have r2 := copied_walk lo hi a 33 c a' 33 c' d.now d.sure w3 (h1.far (hB3.mono hh)) (h2.far (hB3.mono hh)) (by omega) (by decide) (by decide) (by decide) (by decide)
  clear k0 k1 k3 k4 k5 e2 r1 h1 h2
  go_wp2_with fail
  refine r2.mono ?_
  rintro e w4 ⟨_, rfl, ⟨g, l, c3, g', l', c4, rfl, hgg, hg1, hg2, hg3, hg4, ho1, ho2⟩, hb4⟩
  have hl3 : l = 33 := by have := ho1.1; rw [secs_length, HL.out] at this; omega
  have hl4 : l' = 33 := by have := ho2.1; rw [secs_length, HL'.out] at this; omega
  subst hl3 hl4
  have hz4 := hb4.size
  have hB4 := hB3.trans (hb4.mono hB3.size)
  obtain ⟨W5, e5, hb5, j0, j1, hz5⟩ := one_box w4 24 (.slice (some ⟨g, 0, none⟩) 33 c3) (.slice (some ⟨g', 0, none⟩) 33 c4)
  have hb45 : Below (w.heap.size + 2) w3 W5 := (hb4.mono (by omega)).trans (hb5.mono (by omega))
  have hR : CrR w w4.heap.size (w.heap.size + 1) g c3 g' c4 35 (crashTo d lost 0) W5 :=
    ⟨hB4.trans (hb5.mono hB4.size), j0, j1, (hb45.cell (p := ⟨w.heap.size + 1, 0, none⟩) (show w.heap.size + 1 < _ by omega)).trans q0, (hb45.cell (p := ⟨w.heap.size + 1, 1, none⟩) (show w.heap.size + 1 < _ by omega)).trans q1,
      (hb45.frozen (p := ⟨w.heap.size + 1, 0, none⟩) (show w.heap.size + 1 < _ by omega)).trans q2, (hb45.frozen (p := ⟨w.heap.size + 1, 1, none⟩) (show w.heap.size + 1 < _ by omega)).trans q3, by omega, by omega,
      own_base (own_below ho1 hb5) (by omega), own_base (own_below ho2 hb5) (by omega)⟩
  clear q0 q1 q2 q3 q4 q5 r2 hb3 hb4 hB3 hb1 j0 j1 ho1 ho2 hb5 hb45 hB4
  go_wp2
  go_loopw [7] (fun i wr => ∃ k : Nat, k ≤ 33 ∧ i = .int .i64 k ∧ CrR w w4.heap.size (w.heap.size + 1) g c3 g' c4 35 (crashTo d lost k) wr) (fun i _ => 33 - (intOf i).toNat)
  case atStart => exact ⟨0, Nat.zero_le _, rfl, hR⟩
  case round =>
    obtain ⟨k, hk, rfl, hcr⟩ := hrel
    have hcr0 := hcr
    obtain ⟨i1, i2, i3, i4, i5, i6, i7, i8, i9, i10, i11⟩ := hcr
    by_cases hlt : k < 33
    · obtain ⟨x1, x2⟩ := crashTo_len d lost k
      have l1 : k < (crashTo d lost k).now.length := by rw [x1, HL.out]; exact hlt
      have l2 : k < (crashTo d lost k).sure.length := by rw [x2, HL'.out]; exact hlt
      have hbit := bit_u64 lost k hl0 hl1'
      have hki : (k : Int) < 33 := by omega
      have hk0 : (0 : Int) ≤ k := by omega
      have c1 : wr.cell? ⟨g, k * 2, none⟩ = some (.int .i64 (crashTo d lost k).now[k].n) := by rw [i10.cellAt (k * 2) (by omega), secs_n _ k l1]
      have c2 : wr.cell? ⟨g, k * 2 + 1, none⟩ = some (.string (crashTo d lost k).now[k].b) := by rw [i10.cellAt (k * 2 + 1) (by omega), secs_b _ k l1]
      have c5 : wr.cell? ⟨g', k * 2, none⟩ = some (.int .i64 (crashTo d lost k).sure[k].n) := by rw [i11.cellAt (k * 2) (by omega), secs_n _ k l2]
      have c6 : wr.cell? ⟨g', k * 2 + 1, none⟩ = some (.string (crashTo d lost k).sure[k].b) := by rw [i11.cellAt (k * 2 + 1) (by omega), secs_b _ k l2]
      have f1 := i10.frozenAt (k * 2)
      have f2 := i10.frozenAt (k * 2 + 1)
      have f3 := i11.frozenAt (k * 2)
      have f4 := i11.frozenAt (k * 2 + 1)
      rcases hq : bitI lost k with _ | _
      · have hst := hcr0.sure (by omega) (by omega) (by omega) hgg l2 (crashTo d lost k).now[k]
        have HT := Lib.hid (show crashTo d lost (k + 1) = ⟨(crashTo d lost k).now, (crashTo d lost k).sure.set k (crashTo d lost k).now[k]⟩ by
          show (if bitI lost k then _ else _) = _
          rw [hq, if_neg (by decide), List.getElem?_eq_getElem l1]; rfl)
        rw [hq] at hbit
        generalize (crashTo d lost k).now[k] = s at *
        generalize (crashTo d lost k).sure[k] = t at *
        have HST := Lib.hid hst.drew
        clear i10 i11 hst hcr0 hR i1 i4 i5 i6 i7 x1 x2 hq
        go_wp2
        go_region
        go_wp2
        go_roundw
        case rel => exact ⟨k + 1, by omega, by go_num, by rw [HT.out]; exact HST.out⟩
        case measure => simp [intOf]; omega
      · have hst := hcr0.now (by omega) (by omega) (by omega) hgg l1 (crashTo d lost k).sure[k]
        have HT := Lib.hid (show crashTo d lost (k + 1) = ⟨(crashTo d lost k).now.set k (crashTo d lost k).sure[k], (crashTo d lost k).sure⟩ by
          show (if bitI lost k then _ else _) = _
          rw [hq, if_pos rfl, List.getElem?_eq_getElem l2]; rfl)
        rw [hq] at hbit
        generalize (crashTo d lost k).now[k] = s at *
        generalize (crashTo d lost k).sure[k] = t at *
        have HST := Lib.hid hst.drew
        clear i10 i11 hst hcr0 hR i1 i4 i5 i6 i7 x1 x2 hq
        go_wp2
        go_region
        go_wp2
        go_roundw
        case rel => exact ⟨k + 1, by omega, by go_num, by rw [HT.out]; exact HST.out⟩
        case measure => simp [intOf]; omega
    · obtain rfl : k = 33 := by omega
      rw [HE.out] at i10 i11
      have hend : Below w.heap.size w ((wr.setCell ⟨w.heap.size + 1, 0, none⟩ (.slice (some ⟨g, 0, none⟩) 33 c3)).setCell ⟨w.heap.size + 1, 1, none⟩ (.slice (some ⟨g', 0, none⟩) 33 c4)) := (i1.setCell (Nat.le_succ _) _).setCell (Nat.le_succ _) _
      have y1 := own_set_far (own_set_far i10 (p := ⟨w.heap.size + 1, 0, none⟩) (show g ≠ w.heap.size + 1 by omega) (.slice (some ⟨g, 0, none⟩) 33 c3)) (p := ⟨w.heap.size + 1, 1, none⟩) (show g ≠ w.heap.size + 1 by omega) (.slice (some ⟨g', 0, none⟩) 33 c4)
      have y2 := own_set_far (own_set_far i11 (p := ⟨w.heap.size + 1, 0, none⟩) (show g' ≠ w.heap.size + 1 by omega) (.slice (some ⟨g, 0, none⟩) 33 c3)) (p := ⟨w.heap.size + 1, 1, none⟩) (show g' ≠ w.heap.size + 1 by omega) (.slice (some ⟨g', 0, none⟩) 33 c4)
      clear i10 i11 hcr0 hR i1
      go_wp2
      refine bodyPost_ret (v := .tuple #[.agg #[.slice (some ⟨g, 0, none⟩) 33 c3, .slice (some ⟨g', 0, none⟩) 33 c4], .int .i64 0]) (by simp [results, Try.results18, go_sem, i4, i5]) rfl ⟨_, rfl, ⟨g, 33, c3, g', 33, c4, rfl, hgg, by omega, by omega, by simp; omega, by simp; omega, y1, y2⟩, hend⟩
end Go.Proofs.Ytjahhheipeggeaa
