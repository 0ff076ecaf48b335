/- What is proved: the contracts of disk's has, Get, Dirty, slices.Equal, Same. -/
import Derived.Test.YtjahhheipeggeaaDvB
namespace Go.Proofs.Ytjahhheipeggeaa
open Go.RowKit

def hasD (d : Dsk) (s : Int) : Bool := chkB d && decide (0 ≤ s ∧ s < 33)
theorem hasD_get (d : Dsk) (s : Int) : getOk d s = hasD d s := rfl
set_option maxHeartbeats 1600000 in
theorem has_walk (lo hi : Nat) (v : Value) (d : Dsk) (s : Int) (w : World) (hd : Dk w lo hi v d) (hh : hi ≤ w.heap.size) :
    Calls Try.prog 30 #[v, .int .i64 s] w fun e w' => e = .returned (.bool (hasD d s)) ∧ Below w.heap.size w w' := by
  obtain ⟨a, l, c, a', l', c', rfl, h1, h2, hc⟩ := hd
  obtain ⟨W1, e1, hb1, k0, k1, hsz⟩ := one_box w 24 (.slice a l c) (.slice a' l' c')
  have r1 := dcheck_walk lo hi (.agg #[.slice a l c, .slice a' l' c']) d W1 ⟨a, l, c, a', l', c', rfl, h1.far (hb1.mono hh), h2.far (hb1.mono hh), hc⟩ (by omega)
  clear h1 h2
  rcases hk : chkB d with _ | _
  · have HN := Lib.hid (show hasD d s = false by unfold hasD; rw [hk]; rfl)
    rw [chk_no hk] at r1
    clear hk
    go_enter Try.func30, Try.ntmps30
    go_wp2_with fail
    refine r1.mono ?_
    rintro e w3 ⟨rfl, hb3⟩
    go_wp2
    go_ret
    exact ⟨ret_bool (by first | exact HN.out.symm | (rw [HN.out]; first | exact decide_eq_false (by omega) | exact decide_eq_true (by omega))), hb1.trans (hb3.mono hb1.size)⟩
  · rw [chk_yes hk] at r1
    have hcase : (s < 0) ∨ (0 ≤ s ∧ 33 ≤ s) ∨ (0 ≤ s ∧ s < 33) := by omega
    have HS := Lib.hid (show hasD d s = decide (0 ≤ s ∧ s < 33) by unfold hasD; rw [hk]; rfl)
    clear hk
    rcases hcase with h | ⟨h, h'⟩ | ⟨h, h'⟩
    · have HN := Lib.hid (show hasD d s = false by rw [HS.out]; exact decide_eq_false (by omega))
      go_enter Try.func30, Try.ntmps30
      go_wp2_with fail
      refine r1.mono ?_
      rintro e w3 ⟨rfl, hb3⟩
      go_wp2
      go_ret
      exact ⟨ret_bool (by first | exact HN.out.symm | (rw [HN.out]; first | exact decide_eq_false (by omega) | exact decide_eq_true (by omega))), hb1.trans (hb3.mono hb1.size)⟩
    · have HN := Lib.hid (show hasD d s = false by rw [HS.out]; exact decide_eq_false (by omega))
      go_enter Try.func30, Try.ntmps30
      go_wp2_with fail
      refine r1.mono ?_
      rintro e w3 ⟨rfl, hb3⟩
      go_wp2
      go_ret
      exact ⟨ret_bool (by first | exact HN.out.symm | (rw [HN.out]; first | exact decide_eq_false (by omega) | exact decide_eq_true (by omega))), hb1.trans (hb3.mono hb1.size)⟩
    · have HN := Lib.hid (show hasD d s = true by rw [HS.out]; exact decide_eq_true (by omega))
      go_enter Try.func30, Try.ntmps30
      go_wp2_with fail
      refine r1.mono ?_
      rintro e w3 ⟨rfl, hb3⟩
      go_wp2
      go_ret
      exact ⟨ret_bool (by first | exact HN.out.symm | (rw [HN.out]; first | exact decide_eq_false (by omega) | exact decide_eq_true (by omega))), hb1.trans (hb3.mono hb1.size)⟩

set_option maxHeartbeats 1600000 in
theorem dget_spec : GetSpec 19 := by
  intro hi v d s w hd hh _ _
  have hd0 := hd
  obtain ⟨a, l, c, a', l', c', rfl, h1, h2, hc⟩ := hd
  obtain ⟨W2, e2, hb1, k0, k1, k3, k4, k5, hsz⟩ := two_boxes w 24 35 (.slice a l c) (.slice a' l' c') (.int .i64 0) (.string ⟨#[]⟩)
  have r1 := has_walk 0 hi (.agg #[.slice a l c, .slice a' l' c']) d s W2 (hd0.far (hb1.mono hh)) (by omega)
  clear hd0
  rcases hk : hasD d s with _ | _
  · have HN := Lib.hid (show getF d s = (noSec, 2) by unfold getF; rw [hasD_get, hk]; rfl)
    rw [hk] at r1
    clear hk h1 h2
    go_enter Try.func19, Try.ntmps19
    go_wp2_with fail
    refine r1.mono ?_
    rintro e w3 ⟨rfl, hb3⟩
    obtain ⟨q0, q1, q2, q3⟩ := kR k3 k4 k5 hsz hb3
    have hend : Below w.heap.size w ((w3.setCell ⟨w.heap.size + 1, 0, none⟩ (.int .i64 0)).setCell ⟨w.heap.size + 1, 1, none⟩ (.string ⟨#[]⟩)) := ((hb1.trans (hb3.mono hb1.size)).setCell (Nat.le_succ _) _).setCell (Nat.le_succ _) _
    clear k0 k1 k3 k4 k5 e2 r1
    go_wp2
    exact bodyPost_ret (v := .tuple #[noSec.val, .int .i64 2]) (by simp [results, Try.results19, go_sem, noSec, Sec.val, q0, q1]) rfl ⟨by rw [HN.out], hend⟩
  · have hk' := hk
    unfold hasD at hk'
    obtain ⟨hk1, ha⟩ := Bool.and_eq_true_iff.1 hk'
    obtain ⟨ha1, ha2⟩ := of_decide_eq_true ha
    obtain ⟨k, rfl⟩ := Int.eq_ofNat_of_zero_le ha1
    obtain ⟨hp1, _, _⟩ := chkB_parts hk1
    have hl1 : l = 33 := by rw [← secs_len h1]; exact rowB_length hp1
    subst hl1
    have hln := rowB_length hp1
    obtain ⟨s, hs⟩ : ∃ s, d.now[k]? = some s := ⟨_, List.getElem?_eq_getElem (by rw [hln]; omega)⟩
    have HS := Lib.hid (show getF d (k : Int) = (s, 0) by unfold getF; rw [hasD_get, hk]; simp only [if_true, Int.toNat_natCast]; rw [hs]; rfl)
    obtain ⟨g, o, rfl, hg1, hg2, hcell⟩ := h1.addr (by decide)
    obtain ⟨c1, c2⟩ := secs_cell hcell hs
    rw [hk] at r1
    clear hk hk' hk1 ha hp1 hln h1 h2 hcell hs
    go_enter Try.func19, Try.ntmps19
    go_wp2_with fail
    refine r1.mono ?_
    rintro e w3 ⟨rfl, hb3⟩
    obtain ⟨q0, q1, q2, q3⟩ := kR k3 k4 k5 hsz hb3
    have q4 := (hb3.cell (p := ⟨w.heap.size, 0, none⟩) (show w.heap.size < _ by omega)).trans k0
    have hB3 := hb1.trans (hb3.mono hb1.size)
    have d1 := (hB3.cell (p := ⟨g, o + k * 2, none⟩) (show g < w.heap.size by omega)).trans c1
    have d2 := (hB3.cell (p := ⟨g, o + k * 2 + 1, none⟩) (show g < w.heap.size by omega)).trans c2
    have hend : Below w.heap.size w ((w3.setCell ⟨w.heap.size + 1, 0, none⟩ (.int .i64 s.n)).setCell ⟨w.heap.size + 1, 1, none⟩ (.string s.b)) := ((hb1.trans (hb3.mono hb1.size)).setCell (Nat.le_succ _) _).setCell (Nat.le_succ _) _
    clear k0 k1 k3 k4 k5 e2 r1 c1 c2
    go_wp2
    exact bodyPost_ret (v := .tuple #[s.val, .int .i64 0]) (by simp [results, Try.results19, go_sem, Sec.val, q0, q1]) rfl ⟨by rw [HS.out], hend⟩

theorem dcheck_spec : CheckSpec 21 := fun hi v d w hd hh _ => dcheck_walk 0 hi v d w hd hh

theorem where_dirty {d : Dsk} (hk : chkB d = true) : whereTo (fun k s => !(s.n == (d.sure[k]?.getD noSec).n)) d.now 33 = dirtyD d := by
  obtain ⟨hp1, _, _⟩ := chkB_parts hk
  have hln := rowB_length hp1
  unfold dirtyD dirtyTo whereTo
  rw [hk]
  refine List.filter_congr fun j hj => ?_
  have hj := List.mem_range.1 hj
  unfold hitAt isDirty
  rw [List.getElem?_eq_getElem (show j < d.now.length by omega)]
  rfl
set_option maxHeartbeats 1600000 in
theorem ddirty_spec : DirtySpec 25 := by
  intro hi v d w hd hh _
  have hd0 := hd
  obtain ⟨a, l, c, a', l', c', rfl, h1, h2, hc⟩ := hd
  obtain ⟨W1, e1, hb1, k0, k1, hsz⟩ := one_box w 24 (.slice a l c) (.slice a' l' c')
  have r1 := dcheck_walk 0 hi (.agg #[.slice a l c, .slice a' l' c']) d W1 (hd0.far (hb1.mono hh)) (by omega)
  clear hd0
  rcases hk : chkB d with _ | _
  · have HN := Lib.hid (show dirtyD d = [] by unfold dirtyD; rw [hk]; rfl)
    rw [chk_no hk] at r1
    clear hk h1 h2
    go_enter Try.func25, Try.ntmps25
    go_wp2_with fail
    refine r1.mono ?_
    rintro e w3 ⟨rfl, hb3⟩
    go_wp2
    go_ret
    exact ⟨none, 0, 0, rfl, by rw [HN.out]; exact Rg.nil, Nat.le_refl _, Nat.zero_le _, hb1.trans (hb3.mono hb1.size)⟩
  · have HD := Lib.hid (where_dirty hk)
    obtain ⟨hp1, hp2, _⟩ := chkB_parts hk
    have hl1 : l = 33 := by rw [← secs_len h1]; exact rowB_length hp1
    have hl2 : l' = 33 := by rw [← secs_len h2]; exact rowB_length hp2
    subst hl1 hl2
    have HL := Lib.hid (rowB_length hp1)
    have HL' := Lib.hid (rowB_length hp2)
    rw [chk_yes hk] at r1
    clear hk hp1 hp2
    go_enter Try.func25, Try.ntmps25
    go_wp2_with fail
    refine r1.mono ?_
    rintro e w3 ⟨rfl, hb3⟩
    have hB3 := hb1.trans (hb3.mono hb1.size)
    have q0 := (hb3.cell (p := ⟨w.heap.size, 0, none⟩) (show w.heap.size < _ by omega)).trans k0
    have q1 := (hb3.cell (p := ⟨w.heap.size, 1, none⟩) (show w.heap.size < _ by omega)).trans k1
    have hz3 := hb3.size
    obtain ⟨g', o', rfl, _, hg2', hcell'⟩ := (h2.far (hB3.mono hh)).addr (by decide)
    have r2 := where_walk 40 #[.pointer (some ⟨w.heap.size, 0, none⟩)] (fun k s => !(s.n == (d.sure[k]?.getD noSec).n)) 0 hi a 33 c d.now w3 (h1.far (hB3.mono hh)) (by omega) (by decide) go_unsure
      (ask_unsure d.now d.sure w.heap.size g' o' c' w3 HL.out HL'.out q1 hcell' (by omega) (by omega))
    rw [HD.out] at r2
    clear h1 h2 k0 k1 e1 r1 hcell'
    go_wp2_with fail
    refine r2.mono ?_
    rintro e w4 ⟨a4, n4, c4, rfl, hr4, hn4, hc4, hb4⟩
    go_wp2
    go_ret
    exact ⟨_, _, _, rfl, hr4.wide (Nat.zero_le _) (Nat.le_refl _), hn4, hc4, hB3.trans (hb4.mono hB3.size)⟩

set_option maxHeartbeats 1600000 in
theorem equal_walk (lo hi : Nat) (a : Option Addr) (l c : Nat) (xs : List Sec) (lo' hi' : Nat) (a' : Option Addr) (l' c' : Nat) (ys : List Sec) (w : World) (h1 : Rg 2 w lo hi a l (secs xs)) (h2 : Rg 2 w lo' hi' a' l' (secs ys)) (hl : l ≤ 9223372036854775807) (hl' : l' ≤ 9223372036854775807) :
    Calls Try.prog 39 #[.slice a l c, .slice a' l' c'] w fun e w' => e = .returned (.bool (sameB xs ys)) ∧ Below w.heap.size w w' := by
  have hx := secs_len h1
  have hy := secs_len h2
  by_cases hne : l = l'
  · subst hne
    have HX := Lib.hid hx
    have HY := Lib.hid hy
    have H1 := Lib.hid h1
    have H2 := Lib.hid h2
    clear hx hy h1 h2
    go_enter Try.func39, Try.ntmps39
    go_wp2
    go_loopw [13] (fun i wr => ∃ k n : Nat, k ≤ l ∧ i = .int .i64 k ∧ ((xs.zip ys).take k).all (fun p => secEq p.1 p.2) = true ∧ wr = w.drewN n) (fun i _ => l - (intOf i).toNat)
    case atStart => exact ⟨0, 0, Nat.zero_le _, rfl, by simp, rfl⟩
    case round =>
      obtain ⟨k, n, hk, rfl, hall, rfl⟩ := hrel
      by_cases hlt : k < l
      · obtain ⟨s, hs⟩ : ∃ s, xs[k]? = some s := ⟨_, List.getElem?_eq_getElem (by rw [HX.out]; exact hlt)⟩
        obtain ⟨t, ht⟩ : ∃ s, ys[k]? = some s := ⟨_, List.getElem?_eq_getElem (by rw [HY.out]; exact hlt)⟩
        obtain ⟨g, o, rfl, _, _, hc⟩ := H1.out.addr (by omega)
        obtain ⟨g', o', rfl, _, _, hc'⟩ := H2.out.addr (by omega)
        obtain ⟨c1, c2⟩ := secs_cell hc hs
        obtain ⟨c3, c4⟩ := secs_cell hc' ht
        have hki : (k : Int) < l := by omega
        have hk0 : (0 : Int) ≤ k := by omega
        clear hc hc'
        rcases hq : secEq s t with _ | _
        · have HN := Lib.hid (sameB_no hs ht hq)
          clear hs ht hall
          have hneq := run_sec_neq s t
          have hgd : Try.prog.eqGuardType Try.prog.depth 35 = false := by kernel_rfl
          go_wp2
          go_quiet (fail)
          go_wp2
          go_ret
          exact ⟨ret_bool HN.out.symm, (below_drewN w n _).trans (below_drewN _ nq _)⟩
        · have HT := Lib.hid (all_succ _ _ k _ (zip_at hs ht) hall hq)
          clear hs ht hall
          have hneq := run_sec_neq s t
          have hgd : Try.prog.eqGuardType Try.prog.depth 35 = false := by kernel_rfl
          go_wp2
          go_quiet (fail)
          go_wp2
          go_roundw
          case rel => exact ⟨k + 1, n + nq, by omega, by go_num, HT.out, rfl⟩
          case measure => simp [intOf]; omega
      · obtain rfl : k = l := by omega
        have HT := Lib.hid (show sameB xs ys = true by
          unfold sameB
          rw [List.take_of_length_le (by rw [List.length_zip, HX.out, HY.out]; omega)] at hall
          rw [hall, HX.out, HY.out]
          simp)
        clear hall
        go_wp2
        go_ret
        exact ⟨ret_bool HT.out.symm, below_drewN _ _ _⟩
  · have HN := Lib.hid (show sameB xs ys = false by unfold sameB; rw [hx, hy, decide_eq_false hne, Bool.false_and])
    clear hx hy h1 h2
    have hn2 : ((l : Int) == (l' : Int)) = false := by simp; omega
    go_enter Try.func39, Try.ntmps39
    go_wp2
    go_ret
    exact ⟨ret_bool HN.out.symm, Below.refl _ _⟩

set_option maxHeartbeats 1600000 in
theorem dsame_spec : SameSpec 23 := by
  intro hi hi' v v' d d' w hd hh hd' hh' _ _
  obtain ⟨a, l, c, a', l', c', rfl, h1, h2, hc1, hc2, hm1, hm2⟩ := hd
  obtain ⟨b, m, e, b', m', e', rfl, h3, h4, hc3, hc4, hm3, hm4⟩ := hd'
  obtain ⟨W2, e2, hb1, k0, k1, k3, k4, _, hsz⟩ := two_boxes w 24 24 (.slice a l c) (.slice a' l' c') (.slice b m e) (.slice b' m' e')
  have r1 := equal_walk 0 hi a l c d.now 0 hi' b m e d'.now W2 (h1.far (hb1.mono hh)) (h3.far (hb1.mono hh')) (by unfold maxLen at hm1; omega) (by unfold maxLen at hm3; omega)
  rcases hq : sameB d.now d'.now with _ | _
  · have HN := Lib.hid (show sameD d d' = false by unfold sameD; rw [hq]; rfl)
    rw [hq] at r1
    clear hq h1 h2 h3 h4
    go_enter Try.func23, Try.ntmps23
    go_wp2_with fail
    refine r1.mono ?_
    rintro e w3 ⟨rfl, hb3⟩
    go_wp2
    go_ret
    exact ⟨ret_bool HN.out.symm, hb1.trans (hb3.mono hb1.size)⟩
  · have HT := Lib.hid (show sameD d d' = sameB d.sure d'.sure by unfold sameD; rw [hq]; rfl)
    rw [hq] at r1
    clear hq
    go_enter Try.func23, Try.ntmps23
    go_wp2_with fail
    refine r1.mono ?_
    rintro e w3 ⟨rfl, hb3⟩
    have hB3 := hb1.trans (hb3.mono hb1.size)
    have q0 := (hb3.cell (p := ⟨w.heap.size, 1, none⟩) (show w.heap.size < _ by omega)).trans k1
    have q1 := (hb3.cell (p := ⟨w.heap.size + 1, 1, none⟩) (show w.heap.size + 1 < _ by omega)).trans k4
    have r2 := equal_walk 0 hi a' l' c' d.sure 0 hi' b' m' e' d'.sure w3 (h2.far (hB3.mono hh)) (h4.far (hB3.mono hh')) (by unfold maxLen at hm2; omega) (by unfold maxLen at hm4; omega)
    clear h1 h2 h3 h4 k0 k1 k3 k4 e2
    go_wp2_with fail
    refine r2.mono ?_
    rintro e w4 ⟨rfl, hb4⟩
    go_wp2
    go_ret
    exact ⟨ret_bool HT.out.symm, hB3.trans (hb4.mono hB3.size)⟩
end Go.Proofs.Ytjahhheipeggeaa
