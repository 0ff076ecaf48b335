/- What is proved: the contracts of flumeref03's Great, Dirty. -/
import Derived.Test.YtjahhheipeggeaaDskG
namespace Go.Proofs.Ytjahhheipeggeaa
open Go.RowKit

theorem one_box (w : World) (e : TypeId) (s1 s2 : Value) : ∃ W1, w.alloc (.cells #[s1, s2] e) = W1 ∧ Below w.heap.size w W1 ∧ W1.cell? ⟨w.heap.size, 0, none⟩ = some s1 ∧ W1.cell? ⟨w.heap.size, 1, none⟩ = some s2 ∧ w.heap.size + 1 ≤ W1.heap.size :=
  ⟨_, rfl, (Below.refl _ _).alloc (Nat.le_refl _) _, cell_of_row _ _ 0 _ _ _ (heap_alloc_new w _), cell_of_row _ _ 1 _ _ _ (heap_alloc_new w _), by simp⟩
set_option maxHeartbeats 1600000 in
theorem great_walk (lo hi : Nat) (v : Value) (d : Dsk) (w : World) (hd : Dk w lo hi v d) (hh : hi ≤ w.heap.size) :
    Calls Try.prog 10 #[v] w fun e w' => e = .returned (.bool (!smallD d)) ∧ Below w.heap.size w w' := by
  obtain ⟨a, l, c, a', l', c', rfl, h1, h2, hc1, hc2, hm1, hm2⟩ := hd
  obtain ⟨W1, e1, hb1, k0, k1, hsz⟩ := one_box w 24 (.slice a l c) (.slice a' l' c')
  have hx := secs_len h1
  have hy := secs_len h2
  have hl : l ≤ 9223372036854775807 := by unfold maxLen at hm1; omega
  have hl' : l' ≤ 9223372036854775807 := by unfold maxLen at hm2; omega
  by_cases hg1 : 60 < l
  · have HN := Lib.hid (small_no1 (d := d) (.inl (by omega)))
    clear hx hy h1 h2
    go_enter Try.func10, Try.ntmps10
    go_wp2
    go_ret
    exact ⟨ret_bool (by rw [HN.out]; rfl), hb1⟩
  by_cases hg2 : 60 < l'
  · have HN := Lib.hid (small_no1 (d := d) (.inr (by omega)))
    clear hx hy h1 h2
    go_enter Try.func10, Try.ntmps10
    go_wp2
    go_ret
    exact ⟨ret_bool (by rw [HN.out]; rfl), hb1⟩
  have H1 := Lib.hid (h1.far (hb1.mono hh))
  have H2 := Lib.hid (h2.far (hb1.mono hh))
  have HX := Lib.hid hx
  have HY := Lib.hid hy
  clear h1 h2 hx hy
  go_enter Try.func10, Try.ntmps10
  go_wp2
  go_loop [3] (fun i => ∃ k : Nat, k ≤ l ∧ i = .int .i64 k ∧ (d.now.take k).all slim = true) (fun i => l - (intOf i).toNat)
  case atStart => exact ⟨0, Nat.zero_le _, rfl, by simp⟩
  case round =>
    obtain ⟨k, hk, rfl, hall⟩ := hrel
    by_cases hlt : k < l
    · obtain ⟨s, hs⟩ : ∃ s, d.now[k]? = some s := ⟨_, List.getElem?_eq_getElem (by rw [HX.out]; exact hlt)⟩
      obtain ⟨g, o, rfl, _, _, hc⟩ := H1.out.addr (by omega)
      obtain ⟨c1, c2⟩ := secs_cell hc hs
      clear hc
      rcases hq : slim s with _ | _
      · have HN := Lib.hid (small_no2 (all_no hs hq))
        have hq' : 3000 < s.b.size := by have := of_decide_eq_false hq; omega
        clear hs hall hq
        go_wp2
        go_ret
        exact ⟨ret_bool (by rw [HN.out]; rfl), hb1⟩
      · have HT := Lib.hid (all_succ _ _ k _ hs hall hq)
        have hq' : s.b.size ≤ 3000 := of_decide_eq_true hq
        clear hs hall hq
        go_wp2
        go_round
        case rel => exact ⟨k + 1, by omega, by go_num, HT.out⟩
        case measure => simp [intOf]; omega
    · obtain rfl : k = l := by omega
      have HA := Lib.hid (show d.now.all slim = true by rw [← hall, List.take_of_length_le (by rw [HX.out]; exact Nat.le_refl _)])
      clear hall
      go_wp2
      go_loop [4] (fun i => ∃ j : Nat, j ≤ l' ∧ i = .int .i64 j ∧ (d.sure.take j).all slim = true) (fun i => l' - (intOf i).toNat)
      case atStart => exact ⟨0, Nat.zero_le _, rfl, by simp⟩
      case round =>
        obtain ⟨j, hj, rfl, hall⟩ := hrel
        by_cases hlt2 : j < l'
        · obtain ⟨s, hs⟩ : ∃ s, d.sure[j]? = some s := ⟨_, List.getElem?_eq_getElem (by rw [HY.out]; exact hlt2)⟩
          obtain ⟨g, o, rfl, _, _, hc⟩ := H2.out.addr (by omega)
          obtain ⟨c1, c2⟩ := secs_cell hc hs
          clear hc
          rcases hq : slim s with _ | _
          · have HN := Lib.hid (small_no3 (all_no hs hq))
            have hq' : 3000 < s.b.size := by have := of_decide_eq_false hq; omega
            clear hs hall hq
            go_wp2
            go_ret
            exact ⟨ret_bool (by rw [HN.out]; rfl), hb1⟩
          · have HT := Lib.hid (all_succ _ _ j _ hs hall hq)
            have hq' : s.b.size ≤ 3000 := of_decide_eq_true hq
            clear hs hall hq
            go_wp2
            go_round
            case rel => exact ⟨j + 1, by omega, by go_num, HT.out⟩
            case measure => simp [intOf]; omega
        · obtain rfl : j = l' := by omega
          have HB := Lib.hid (show d.sure.all slim = true by rw [← hall, List.take_of_length_le (by rw [HY.out]; exact Nat.le_refl _)])
          have HS := Lib.hid (small_yes (d := d) (by rw [HX.out]; omega) (by rw [HY.out]; omega) HA.out HB.out)
          clear hall
          go_wp2
          go_ret
          exact ⟨ret_bool (by rw [HS.out]; rfl), hb1⟩
end Go.Proofs.Ytjahhheipeggeaa
