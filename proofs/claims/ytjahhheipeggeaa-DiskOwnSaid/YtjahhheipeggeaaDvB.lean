/- What is proved: the contract of disk's Check, has, Dirty. -/
import Derived.Test.YtjahhheipeggeaaDvA
import Derived.Shelf.Abstract
import Derived.Laws.EntriesVeiled
namespace Go.Proofs.Ytjahhheipeggeaa
open Go.RowKit

theorem whereTo_mem {p : Nat → Sec → Bool} {xs : List Sec} {n : Nat} (h : whereTo p xs n ≠ []) : ∃ k s, xs[k]? = some s ∧ p k s = true := by
  obtain ⟨k, hk⟩ := List.exists_mem_of_ne_nil _ h
  have := (List.mem_filter.1 hk).2
  unfold hitAt at this
  rcases hs : xs[k]? with _ | s
  · rw [hs] at this; cases this
  · rw [hs] at this; exact ⟨k, s, hs, this⟩
theorem whereTo_nil {p : Nat → Sec → Bool} {xs : List Sec} {n : Nat} (h : whereTo p xs n = []) {k : Nat} {s : Sec} (hs : xs[k]? = some s) (hk : k < n) : p k s = false := by
  rcases hp : p k s with _ | _
  · rfl
  · have : k ∈ whereTo p xs n := List.mem_filter.2 ⟨List.mem_range.2 hk, by unfold hitAt; rw [hs]; exact hp⟩
    rw [h] at this
    cases this
def pWrong (_ : Nat) (s : Sec) : Bool := !secOk s
def pAbove (xs : List Sec) (k : Nat) (s : Sec) : Bool := decide ((xs[k]?.getD noSec).n < s.n)
theorem wrong_none {xs : List Sec} (hl : xs.length = 33) (h : whereTo pWrong xs 33 = []) : rowB xs = true := by
  refine rowB_yes hl (List.all_eq_true.2 fun s hs => ?_)
  obtain ⟨k, hk, e⟩ := List.getElem_of_mem hs
  have := whereTo_nil h (show xs[k]? = some s by rw [List.getElem?_eq_getElem hk, e]) (by omega)
  simpa [pWrong] using this
theorem wrong_some {xs : List Sec} (h : whereTo pWrong xs 33 ≠ []) : rowB xs = false := by
  obtain ⟨k, s, hs, hp⟩ := whereTo_mem h
  exact rowB_no hs (by simpa [pWrong] using hp)
theorem above_none {xs ys : List Sec} (hy : ys.length = 33) (h : whereTo (pAbove xs) ys 33 = []) : leB xs ys = true := by
  unfold leB
  refine List.all_eq_true.2 fun p hp => ?_
  obtain ⟨k, hk⟩ := List.mem_iff_getElem?.1 hp
  obtain ⟨h1, h2⟩ := List.getElem?_zip_eq_some.1 hk
  have h3 := (List.getElem?_eq_some_iff.1 h2).1
  have := whereTo_nil h h2 (by omega)
  have := of_decide_eq_false this
  rw [h1, Option.getD_some] at this
  exact decide_eq_true (by omega)
theorem above_some {xs ys : List Sec} (hx : xs.length = 33) (hy : ys.length = 33) (h : whereTo (pAbove xs) ys 33 ≠ []) : leB xs ys = false := by
  obtain ⟨k, s, hs, hp⟩ := whereTo_mem h
  have h3 := (List.getElem?_eq_some_iff.1 hs).1
  have h4 : xs[k]? = some (xs[k]'(by omega)) := List.getElem?_eq_getElem (by omega)
  have := of_decide_eq_true hp
  rw [h4, Option.getD_some] at this
  exact leB_no h4 hs (by omega)
theorem nums_zero {w : World} {lo hi : Nat} {a : Option Addr} {l : List Nat} (h : Rg 1 w lo hi a 0 (nums l)) : l = [] := by
  have := h.1
  rw [nums_length] at this
  exact List.length_eq_zero_iff.1 (by omega)
theorem nums_pos {w : World} {lo hi n : Nat} {a : Option Addr} {l : List Nat} (h : Rg 1 w lo hi a n (nums l)) (hn : n ≠ 0) : l ≠ [] := by
  have := h.1
  rw [nums_length] at this
  intro e
  rw [e] at this
  simp at this
  omega
theorem chk_no' {d : Dsk} (h : ¬ (d.now.length = 33 ∧ d.sure.length = 33)) : chk d = 2 := by
  apply chk_no
  rcases hk : chkB d with _ | _
  · rfl
  · obtain ⟨h1, h2, _⟩ := chkB_parts hk
    exact absurd ⟨rowB_length h1, rowB_length h2⟩ h

theorem ask_wrong (xs : List Sec) (w : World) (k : Nat) (s : Sec) (W : World) (_ : xs[k]? = some s) (_ : Below w.heap.size w W) :
    Calls Try.prog 35 (#[.int .i64 k, s.val] ++ #[]) W fun e W' => e = .returned (.bool (pWrong k s)) ∧ Below W.heap.size W W' := wrong_walk k s W
theorem ask_above (xs ys : List Sec) (Q g o c : Nat) (w : World) (hx : xs.length = 33) (hy : ys.length = 33) (c0 : w.cell? ⟨Q, 0, none⟩ = some (.slice (some ⟨g, o, none⟩) 33 c)) (hc : ∀ j u, (secs xs)[j]? = some u → w.cell? ⟨g, o + j, none⟩ = some u) (hQ : Q < w.heap.size) (hg : g < w.heap.size)
    (k : Nat) (s : Sec) (W : World) (hs : ys[k]? = some s) (hb : Below w.heap.size w W) :
    Calls Try.prog 36 (#[.int .i64 k, s.val] ++ #[.pointer (some ⟨Q, 0, none⟩)]) W fun e W' => e = .returned (.bool (pAbove xs k s)) ∧ Below W.heap.size W W' := by
  have hk : k < 33 := by rw [← hy]; exact (List.getElem?_eq_some_iff.1 hs).1
  have h4 : xs[k]? = some (xs[k]'(by omega)) := List.getElem?_eq_getElem (by omega)
  have := above_walk k s (xs[k]'(by omega)).n Q g o c W ((hb.cell (p := ⟨Q, 0, none⟩) hQ).trans c0) ((hb.cell (p := ⟨g, o + k * 2, none⟩) hg).trans (secs_cell hc h4).1) hk (Nat.lt_of_lt_of_le hQ hb.size) (Nat.lt_of_lt_of_le hg hb.size)
  unfold pAbove
  rw [h4, Option.getD_some]
  exact this
theorem ask_unsure (xs ys : List Sec) (Q g o c : Nat) (w : World) (hx : xs.length = 33) (hy : ys.length = 33) (c0 : w.cell? ⟨Q, 1, none⟩ = some (.slice (some ⟨g, o, none⟩) 33 c)) (hc : ∀ j u, (secs ys)[j]? = some u → w.cell? ⟨g, o + j, none⟩ = some u) (hQ : Q < w.heap.size) (hg : g < w.heap.size)
    (k : Nat) (s : Sec) (W : World) (hs : xs[k]? = some s) (hb : Below w.heap.size w W) :
    Calls Try.prog 40 (#[.int .i64 k, s.val] ++ #[.pointer (some ⟨Q, 0, none⟩)]) W fun e W' => e = .returned (.bool (!(s.n == (ys[k]?.getD noSec).n))) ∧ Below W.heap.size W W' := by
  have hk : k < 33 := by rw [← hx]; exact (List.getElem?_eq_some_iff.1 hs).1
  have h4 : ys[k]? = some (ys[k]'(by omega)) := List.getElem?_eq_getElem (by omega)
  have := unsure_walk k s (ys[k]'(by omega)).n Q g o c W ((hb.cell (p := ⟨Q, 1, none⟩) hQ).trans c0) ((hb.cell (p := ⟨g, o + k * 2, none⟩) hg).trans (secs_cell hc h4).1) hk (Nat.lt_of_lt_of_le hQ hb.size) (Nat.lt_of_lt_of_le hg hb.size)
  rw [h4, Option.getD_some]
  exact this
theorem go_wrong : ∀ args W, (callFunc 35 args).run Try.prog W = .ok (.enter 35 args) W := enters_of Try.func35 (by kernel_rfl) rfl
theorem go_above : ∀ args W, (callFunc 36 args).run Try.prog W = .ok (.enter 36 args) W := enters_of Try.func36 (by kernel_rfl) rfl
theorem go_unsure : ∀ args W, (callFunc 40 args).run Try.prog W = .ok (.enter 40 args) W := enters_of Try.func40 (by kernel_rfl) rfl

theorem six_cells (w : World) (e : TypeId) (u0 u1 u2 u3 u4 u5 : Value) : ∃ W2, w.alloc (.cells #[u0, u1, u2, u3, u4, u5] e) = W2 ∧ Below w.heap.size w W2 ∧ W2.cell? ⟨w.heap.size, 0, none⟩ = some u0 ∧ W2.cell? ⟨w.heap.size, 1, none⟩ = some u1 ∧ W2.cell? ⟨w.heap.size, 2, none⟩ = some u2 ∧
    W2.cell? ⟨w.heap.size, 3, none⟩ = some u3 ∧ W2.cell? ⟨w.heap.size, 4, none⟩ = some u4 ∧ W2.cell? ⟨w.heap.size, 5, none⟩ = some u5 ∧ w.heap.size + 1 ≤ W2.heap.size :=
  ⟨_, rfl, (Below.refl _ _).alloc (Nat.le_refl _) _, cell_of_row _ _ 0 _ _ _ (heap_alloc_new w _), cell_of_row _ _ 1 _ _ _ (heap_alloc_new w _), cell_of_row _ _ 2 _ _ _ (heap_alloc_new w _), cell_of_row _ _ 3 _ _ _ (heap_alloc_new w _), cell_of_row _ _ 4 _ _ _ (heap_alloc_new w _), cell_of_row _ _ 5 _ _ _ (heap_alloc_new w _), by simp⟩
set_option maxHeartbeats 3200000 in
theorem dcheck_walk (lo hi : Nat) (v : Value) (d : Dsk) (w : World) (hd : Dk w lo hi v d) (hh : hi ≤ w.heap.size) :
    Calls Try.prog 21 #[v] w fun e w' => e = .returned (.int .i64 (chk d)) ∧ Below w.heap.size w w' := by
  obtain ⟨a, l, c, a', l', c', rfl, h1, h2, hc1, hc2, hm1, hm2⟩ := hd
  have hx := secs_len h1
  have hy := secs_len h2
  have hq1 : l ≤ 9223372036854775807 := by unfold maxLen at hm1; omega
  have hq2 : l' ≤ 9223372036854775807 := by unfold maxLen at hm2; omega
  obtain ⟨W1, e1, hb1, k0, k1, hsz⟩ := one_box w 24 (.slice a l c) (.slice a' l' c')
  by_cases hl : l = 33
  · by_cases hl' : l' = 33
    · subst hl hl'
      have HX := Lib.hid hx
      have HY := Lib.hid hy
      have h1' := h1.far (hb1.mono hh)
      have h2' := h2.far (hb1.mono hh)
      obtain ⟨g, o, rfl, _, hg2, hcell⟩ := h1'.addr (by decide)
      obtain ⟨g', o', rfl, _, hg2', hcell'⟩ := h2'.addr (by decide)
      obtain ⟨W2, e2, hb2, cc0, cc1, cc2, cc3, cc4, cc5, hsz2⟩ := six_cells W1 61 (.slice (some ⟨g, o, none⟩) 33 c) (.func (.func 35) #[] #[]) (.slice (some ⟨g', o', none⟩) 33 c') (.func (.func 35) #[] #[]) (.slice (some ⟨g', o', none⟩) 33 c') (.func (.func 36) #[] #[.pointer (some ⟨w.heap.size, 0, none⟩)])
      have H1 := Lib.hid h1'
      have H2 := Lib.hid h2'
      have HC := Lib.hid hcell
      clear hx hy h1 h2 h1' h2' hcell hcell'
      go_enter Try.func21, Try.ntmps21
      go_wp2
      have hb12 := hb2
      have hB := HC.out
      go_loopw [27] (fun i wr => ∃ k : Nat, k ≤ 3 ∧ i = .int .i64 k ∧ Below W2.heap.size W2 wr ∧ ((1 ≤ k → rowB d.now = true) ∧ (2 ≤ k → rowB d.sure = true) ∧ (3 ≤ k → leB d.now d.sure = true))) (fun i _ => 3 - (intOf i).toNat)
      case atStart => exact ⟨0, Nat.zero_le _, rfl, Below.refl _ _, fun h => absurd h (by decide), fun h => absurd h (by decide), fun h => absurd h (by decide)⟩
      case round =>
        obtain ⟨k, hk, rfl, hbr, hF⟩ := hrel
        have t0 := (hbr.cell (p := ⟨W1.heap.size, 0, none⟩) (show W1.heap.size < _ by omega)).trans cc0
        have t1 := (hbr.cell (p := ⟨W1.heap.size, 1, none⟩) (show W1.heap.size < _ by omega)).trans cc1
        have t2 := (hbr.cell (p := ⟨W1.heap.size, 2, none⟩) (show W1.heap.size < _ by omega)).trans cc2
        have t3 := (hbr.cell (p := ⟨W1.heap.size, 3, none⟩) (show W1.heap.size < _ by omega)).trans cc3
        have t4 := (hbr.cell (p := ⟨W1.heap.size, 4, none⟩) (show W1.heap.size < _ by omega)).trans cc4
        have t5 := (hbr.cell (p := ⟨W1.heap.size, 5, none⟩) (show W1.heap.size < _ by omega)).trans cc5
        have HF := Lib.hid hF
        clear cc0 cc1 cc2 cc3 cc4 cc5 hF
        obtain rfl | rfl | rfl | rfl : k = 0 ∨ k = 1 ∨ k = 2 ∨ k = 3 := by omega
        · obtain ⟨W3, e3, hb3, v0, v1, hsz3⟩ := one_box wr 61 (.slice (some ⟨g, o, none⟩) 33 c) (.func (.func 35) #[] #[])
          have hb23 := hbr.trans (hb3.mono hbr.size)
          have hb13 := hb12.trans (hb23.mono hb12.size)
          have r1 := where_walk 35 #[] pWrong lo hi (some ⟨g, o, none⟩) 33 c d.now W3 (H1.out.far (hb13.mono (by omega))) (Nat.le_trans (Nat.le_trans hh hb1.size) hb13.size) (by decide) go_wrong (ask_wrong d.now W3)
          clear e2 e1
          go_wp2_with fail
          refine r1.mono ?_
          rintro e w4 ⟨a4, n4, c4, rfl, hr4, _, _, hb4⟩
          have hb24 := hb23.trans (hb4.mono hb23.size)
          by_cases hn4 : n4 = 0
          · subst hn4
            have HT := Lib.hid (show (1 ≤ 1 → rowB d.now = true) ∧ (2 ≤ 1 → rowB d.sure = true) ∧ (3 ≤ 1 → leB d.now d.sure = true) from ⟨fun _ => wrong_none HX.out (nums_zero hr4), fun h => absurd h (by decide), fun h => absurd h (by decide)⟩)
            clear hr4
            go_wp2
            go_roundw
            case rel => exact ⟨1, by omega, by go_num, hb24, HT.out⟩
            case measure => simp [intOf]
          · have HN := Lib.hid (chk_no (d := d) (by unfold chkB; rw [wrong_some (nums_pos hr4 hn4)]; rfl))
            have hn5 : (0 : Int) < n4 := by omega
            clear hr4
            go_wp2
            go_ret
            exact ⟨ret_int HN.out.symm, hb1.trans ((hb12.trans (hb24.mono hb12.size)).mono hb1.size)⟩
        · obtain ⟨W3, e3, hb3, v0, v1, hsz3⟩ := one_box wr 61 (.slice (some ⟨g', o', none⟩) 33 c') (.func (.func 35) #[] #[])
          have hb23 := hbr.trans (hb3.mono hbr.size)
          have hb13 := hb12.trans (hb23.mono hb12.size)
          have r1 := where_walk 35 #[] pWrong lo hi (some ⟨g', o', none⟩) 33 c' d.sure W3 (H2.out.far (hb13.mono (by omega))) (Nat.le_trans (Nat.le_trans hh hb1.size) hb13.size) (by decide) go_wrong (ask_wrong d.sure W3)
          clear e2 e1
          go_wp2_with fail
          refine r1.mono ?_
          rintro e w4 ⟨a4, n4, c4, rfl, hr4, _, _, hb4⟩
          have hb24 := hb23.trans (hb4.mono hb23.size)
          by_cases hn4 : n4 = 0
          · subst hn4
            have HT := Lib.hid (show (1 ≤ 2 → rowB d.now = true) ∧ (2 ≤ 2 → rowB d.sure = true) ∧ (3 ≤ 2 → leB d.now d.sure = true) from ⟨fun _ => HF.out.1 (by decide), fun _ => wrong_none HY.out (nums_zero hr4), fun h => absurd h (by decide)⟩)
            clear hr4
            go_wp2
            go_roundw
            case rel => exact ⟨2, by omega, by go_num, hb24, HT.out⟩
            case measure => simp [intOf]
          · have HN := Lib.hid (chk_no (d := d) (by unfold chkB; rw [wrong_some (nums_pos hr4 hn4), Bool.and_false]; rfl))
            have hn5 : (0 : Int) < n4 := by omega
            clear hr4
            go_wp2
            go_ret
            exact ⟨ret_int HN.out.symm, hb1.trans ((hb12.trans (hb24.mono hb12.size)).mono hb1.size)⟩
        · obtain ⟨W3, e3, hb3, v0, v1, hsz3⟩ := one_box wr 61 (.slice (some ⟨g', o', none⟩) 33 c') (.func (.func 36) #[] #[.pointer (some ⟨w.heap.size, 0, none⟩)])
          have hb23 := hbr.trans (hb3.mono hbr.size)
          have hb13 := hb12.trans (hb23.mono hb12.size)
          have r1 := where_walk 36 #[.pointer (some ⟨w.heap.size, 0, none⟩)] (pAbove d.now) lo hi (some ⟨g', o', none⟩) 33 c' d.sure W3 (H2.out.far (hb13.mono (by omega))) (Nat.le_trans (Nat.le_trans hh hb1.size) hb13.size) (by decide) go_above (ask_above d.now d.sure w.heap.size g o c W3 HX.out HY.out ((hb13.cell (p := ⟨w.heap.size, 0, none⟩) (show w.heap.size < _ by omega)).trans k0) (fun j u hu => (hb13.cell (p := ⟨g, o + j, none⟩) (show g < _ by omega)).trans (hB j u hu)) (Nat.lt_of_lt_of_le (by omega) hb13.size) (Nat.lt_of_lt_of_le (by omega) hb13.size))
          clear e2 e1
          go_wp2_with fail
          refine r1.mono ?_
          rintro e w4 ⟨a4, n4, c4, rfl, hr4, _, _, hb4⟩
          have hb24 := hb23.trans (hb4.mono hb23.size)
          by_cases hn4 : n4 = 0
          · subst hn4
            have HT := Lib.hid (show (1 ≤ 3 → rowB d.now = true) ∧ (2 ≤ 3 → rowB d.sure = true) ∧ (3 ≤ 3 → leB d.now d.sure = true) from ⟨fun _ => HF.out.1 (by decide), fun _ => HF.out.2.1 (by decide), fun _ => above_none HY.out (nums_zero hr4)⟩)
            clear hr4
            go_wp2
            go_roundw
            case rel => exact ⟨3, by omega, by go_num, hb24, HT.out⟩
            case measure => simp [intOf]
          · have HN := Lib.hid (chk_no (d := d) (by unfold chkB; rw [above_some HX.out HY.out (nums_pos hr4 hn4), Bool.and_false]))
            have hn5 : (0 : Int) < n4 := by omega
            clear hr4
            go_wp2
            go_ret
            exact ⟨ret_int HN.out.symm, hb1.trans ((hb12.trans (hb24.mono hb12.size)).mono hb1.size)⟩
        · have HN := Lib.hid (chk_yes (d := d) (by unfold chkB; rw [HF.out.1 (by decide), HF.out.2.1 (by decide), HF.out.2.2 (by decide)]; rfl))
          go_wp2
          go_ret
          exact ⟨ret_int HN.out.symm, hb1.trans ((hb12.trans (hbr.mono hb12.size)).mono hb1.size)⟩
    · have HN := Lib.hid (chk_no' (d := d) (by omega))
      have hn2 : ((l' : Int) == 33) = false := by simp; omega
      clear hx hy h1 h2
      subst hl
      go_enter Try.func21, Try.ntmps21
      go_wp2
      go_ret
      exact ⟨ret_int HN.out.symm, by first | exact hb1 | (rw [e1]; exact hb1)⟩
  · have HN := Lib.hid (chk_no' (d := d) (by omega))
    have hn2 : ((l : Int) == 33) = false := by simp; omega
    clear hx hy h1 h2
    go_enter Try.func21, Try.ntmps21
    go_wp2
    go_ret
    exact ⟨ret_int HN.out.symm, by first | exact hb1 | (rw [e1]; exact hb1)⟩
end Go.Proofs.Ytjahhheipeggeaa
