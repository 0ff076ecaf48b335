/- What is proved: the contracts of flumeref03's Check, copied. -/
import Derived.Test.YtjahhheipeggeaaDskB
namespace Go.Proofs.Ytjahhheipeggeaa
open Go.RowKit

theorem secs_cell {w : World} {g o : Nat} {l : List Sec} (h : ∀ j u, (secs l)[j]? = some u → w.cell? ⟨g, o + j, none⟩ = some u) {k : Nat} {s : Sec} (hk : l[k]? = some s) :
    w.cell? ⟨g, o + k * 2, none⟩ = some (.int .i64 s.n) ∧ w.cell? ⟨g, o + k * 2 + 1, none⟩ = some (.string s.b) := by
  obtain ⟨hl, rfl⟩ := List.getElem?_eq_some_iff.1 hk
  exact ⟨h _ _ (secs_n l k hl), by rw [Nat.add_assoc]; exact h _ _ (secs_b l k hl)⟩
set_option maxHeartbeats 400000 in
theorem check_walk (lo hi : Nat) (v : Value) (d : Dsk) (w : World) (hd : Dk w lo hi v d) (hh : hi ≤ w.heap.size) :
    Calls Try.prog 22 #[v] w fun e w' => e = .returned (.int .i64 (chk d)) ∧ Below w.heap.size w w' := by
  obtain ⟨a, l, c, a', l', c', rfl, h1, h2, hc1, hc2, hm1, hm2⟩ := hd
  have hb0 : Below w.heap.size w (w.alloc (.cells #[.slice a l c, .slice a' l' c'] 24)) := (Below.refl _ _).alloc (Nat.le_refl _) _
  have r1 := row_walk lo hi a l c d.now (w.alloc (.cells #[.slice a l c, .slice a' l' c'] 24)) (h1.alloc_ hh _) (by unfold maxLen at hm1; omega)
  have r2 := row_walk lo hi a' l' c' d.sure (w.alloc (.cells #[.slice a l c, .slice a' l' c'] 24)) (h2.alloc_ hh _) (by unfold maxLen at hm2; omega)
  rcases hr1 : rowB d.now with _ | _
  · have HN := Lib.hid (chk_no (d := d) (by unfold chkB; rw [hr1]; rfl))
    rw [hr1] at r1
    clear hr1 h1 h2
    go_enter Try.func22, Try.ntmps22
    go_wp2_with fail
    refine r1.mono ?_
    rintro e w' ⟨rfl, rfl⟩
    go_wp2
    go_ret
    exact ⟨ret_int HN.out.symm, hb0⟩
  · rw [hr1] at r1
    rcases hr2 : rowB d.sure with _ | _
    · have HN := Lib.hid (chk_no (d := d) (by unfold chkB; rw [hr1, hr2]; rfl))
      rw [hr2] at r2
      clear hr1 h1 h2 hr2
      go_enter Try.func22, Try.ntmps22
      go_wp2_with fail
      refine r1.mono ?_
      rintro e w' ⟨rfl, rfl⟩
      go_wp2_with fail
      refine r2.mono ?_
      rintro e w' ⟨rfl, rfl⟩
      go_wp2
      go_ret
      exact ⟨ret_int HN.out.symm, hb0⟩
    · rw [hr2] at r2
      have HR := Lib.hid (And.intro hr1 hr2)
      have hl1 : l = 33 := by rw [← secs_len h1]; exact rowB_length hr1
      have hl2 : l' = 33 := by rw [← secs_len h2]; exact rowB_length hr2
      subst hl1 hl2
      obtain ⟨g, o, rfl, _, _, hcell⟩ := (h1.alloc_ hh (.cells #[.slice a 33 c, .slice a' 33 c'] 24)).addr (by decide)
      obtain ⟨g', o', rfl, _, _, hcell'⟩ := (h2.alloc_ hh (.cells #[.slice (some ⟨g, o, none⟩) 33 c, .slice a' 33 c'] 24)).addr (by decide)
      have HC := Lib.hid hcell
      have HC' := Lib.hid hcell'
      have HL := Lib.hid (And.intro (rowB_length hr1) (rowB_length hr2))
      clear hr1 hr2 h1 h2 hcell hcell'
      go_enter Try.func22, Try.ntmps22
      go_wp2_with fail
      refine r1.mono ?_
      rintro e w' ⟨rfl, rfl⟩
      go_wp2_with fail
      refine r2.mono ?_
      rintro e w' ⟨rfl, rfl⟩
      go_wp2
      have hb1 := heap_alloc_new w (.cells #[.slice (some ⟨g, o, none⟩) 33 c, .slice (some ⟨g', o', none⟩) 33 c'] 24)
      have k0 := cell_of_row _ _ 0 _ _ _ hb1
      have k1 := cell_of_row _ _ 1 _ _ _ hb1
      simp only [List.getElem?_toArray, List.getElem?_cons_zero, List.getElem?_cons_succ] at k0 k1
      clear hb1 r1 r2
      generalize w.alloc (.cells #[.slice (some ⟨g, o, none⟩) 33 c, .slice (some ⟨g', o', none⟩) 33 c'] 24) = W1 at *
      go_loopw [3] (fun i wr => ∃ k n : Nat, k ≤ 33 ∧ i = .int .i64 k ∧ ((d.now.zip d.sure).take k).all (fun p => decide (p.2.n ≤ p.1.n)) = true ∧ wr = W1.drewN n) (fun i _ => 33 - (intOf i).toNat)
      case atStart => exact ⟨0, 0, Nat.zero_le _, rfl, by simp, rfl⟩
      case round =>
        obtain ⟨k, n, hk, rfl, hall, rfl⟩ := hrel
        by_cases hlt : k < 33
        · obtain ⟨s, hs⟩ : ∃ s, d.now[k]? = some s := ⟨_, List.getElem?_eq_getElem (by rw [HL.out.1]; exact hlt)⟩
          obtain ⟨t, ht⟩ : ∃ s, d.sure[k]? = some s := ⟨_, List.getElem?_eq_getElem (by rw [HL.out.2]; exact hlt)⟩
          have c1 := (secs_cell HC.out hs).1
          have c2 := (secs_cell HC'.out ht).1
          have hki : (k : Int) < 33 := by omega
          have hk0 : (0 : Int) ≤ k := by omega
          by_cases hle : t.n ≤ s.n
          · have HT := Lib.hid (all_succ _ _ k _ (zip_at hs ht) hall (by simpa using hle))
            clear hs ht hall
            go_wp2
            go_quiet (fail)
            go_wp2
            go_roundw
            case rel => exact ⟨k + 1, n + nq, by omega, by go_num, HT.out, rfl⟩
            case measure => simp [intOf]; omega
          · have HN := Lib.hid (chk_no (d := d) (by unfold chkB; rw [leB_no hs ht hle, Bool.and_false]))
            clear hs ht hall
            have hle2 : s.n < t.n := by omega
            go_wp2
            go_quiet (fail)
            go_wp2
            go_ret
            exact ⟨ret_int HN.out.symm, (hb0.trans (below_drewN W1 n _)).trans (below_drewN _ nq _)⟩
        · obtain rfl : k = 33 := by omega
          have HT := Lib.hid (chk_yes (d := d) (by
            unfold chkB leB
            rw [HR.out.1, HR.out.2]
            rw [List.take_of_length_le (by rw [List.length_zip, HL.out.1, HL.out.2]; decide)] at hall
            simpa using hall))
          clear hall
          go_wp2
          go_ret
          exact ⟨ret_int HT.out.symm, hb0.trans (below_drewN W1 _ _)⟩
end Go.Proofs.Ytjahhheipeggeaa
