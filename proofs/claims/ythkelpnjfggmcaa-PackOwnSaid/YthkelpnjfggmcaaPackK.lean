/- What is proved: the walk of PackOwn: it returns true at any bytes, any two ints and any byte, and nothing that was there before the call turns. -/
import Derived.Test.YthkelpnjfggmcaaPackJ
import Derived.StillTailTactics
namespace Go.Proofs.Ythkelpnjfggmcaa
open Go.RowKit

theorem bits_byte (op : BinOp) (x y : Int) : 0 ≤ bits op .u8 x y ∧ bits op .u8 x y ≤ 255 := by
  unfold bits
  rw [IntKind.wrap_u8]
  omega
theorem u8s_set (xs : List Int) (k : Nat) (u : Int) : (u8s xs).set k (.int .u8 u) = u8s (xs.set k u) := by
  unfold u8s
  rw [List.map_set]
theorem isBytes_set {xs : List Int} (h : IsBytes xs) {k : Nat} {u : Int} (h1 : 0 ≤ u) (h2 : u ≤ 255) : IsBytes (xs.set k u) := by
  intro b hb
  rcases List.mem_or_eq_of_mem_set hb with hb | rfl
  · exact h b hb
  · exact ⟨h1, h2⟩
theorem own_form {w : World} {base : Nat} {e : TypeId} {v : Value} {n : Nat} {xs : List Value} (h : w.ownsRow base e 1 v n xs) (hn : 0 < n) : ∃ g c, v = .slice (some ⟨g, 0, none⟩) n c ∧ base ≤ g ∧ g < w.heap.size ∧ n ≤ c := by
  rcases h.2 with ⟨_, h0⟩ | ⟨g, c, cur, hv, hb, hg, hc, _⟩
  · omega
  · exact ⟨g, c, hv, hb, (Array.getElem?_eq_some_iff.1 hg).1, hc⟩
theorem own_far {w w' : World} {base : Nat} {e : TypeId} {v : Value} {n : Nat} {xs : List Value} (h : w.ownsRow base e 1 v n xs) (hb : Below w.heap.size w w') : w'.ownsRow base e 1 v n xs := by
  refine ⟨h.1, h.2.imp id ?_⟩
  rintro ⟨g, c, cur, hv, h1, hg, h2⟩
  exact ⟨g, c, cur, hv, h1, (hb.block g (Array.getElem?_eq_some_iff.1 hg).1).trans hg, h2⟩
theorem Rd.drew_ {w : World} {B : Nat} {a : Option Addr} {n : Nat} {xs : List Value} (h : Rd w B a n xs) : Rd w.drew B a n xs := h
/-- In the loop that turns one's own bytes: old memory is as it was, one's own row is a row of bytes, and what Put made is as it was. -/
def OwnRel (W : World) (base : Nat) (g l c : Nat) (v : Value) (k : Nat) (bs : List Int) (wr : World) : Prop :=
  Below W.heap.size W wr ∧ (∃ zs, IsBytes zs ∧ wr.ownsRow W.heap.size 5 1 (.slice (some ⟨g, 0, none⟩) l c) l (u8s zs)) ∧ wr.ownsRow base 5 1 v k (u8s bs)
theorem ownRel_step {W : World} {base g l c : Nat} {v : Value} {k : Nat} {bs : List Int} {wr : World} (h : OwnRel W base g l c v k bs wr) (hW : W.heap.size ≤ g) (hg : g < base) (j : Nat) (u : Int) (h1 : 0 ≤ u) (h2 : u ≤ 255) :
    OwnRel W base g l c v k bs (wr.setCell ⟨g, j, none⟩ (.int .u8 u)) := by
  obtain ⟨hb, ⟨zs, hz, ho⟩, hv⟩ := h
  refine ⟨hb.setCell hW _, ⟨zs.set j u, isBytes_set hz h1 h2, ?_⟩, ownsRow_setCell_below hv hg _⟩
  rw [← u8s_set]
  exact (ho.stored j _).1

set_option maxHeartbeats 800000 in
theorem own_pos (a : Option Addr) (l c : Nat) (xs : List Int) (n : Int) (m : Nat) (by' : Int) (w : World) (hi : In8 w a l c xs) (h1 : l ≤ 2000) (h0 : 0 < l) (hf : fitsB n m = true) :
    Calls Try.prog 6 #[.slice a l c, .int .i64 n, .int .i64 m, .int .u8 by'] w fun e w' => e = .returned (.bool true) ∧ Below w.heap.size w w' := by
  obtain ⟨hr, hx, hlc, hcm⟩ := hi
  obtain ⟨hm1, hm6, hn0, _⟩ := fits_yes hf
  have hlen : xs.length = l := by rw [← hr.1]; exact (u8s_length xs).symm
  have HL := Lib.hid hlen
  have HX := Lib.hid hx
  have HF := Lib.hid hf
  obtain ⟨i0, hi, hz0, hz1, hz2⟩ := info_parts info_u8
  have hown0 := own_empty w 5
  have hbd : Below w.heap.size w (w.alloc (.cells #[] 5)) := (Below.refl _ _).alloc (Nat.le_refl _) _
  have hx0 := hr.far hbd
  clear hx hlen hf
  go_enter Try.func6, Try.ntmps6
  go_wp2_with (at_builtin; refine wpList_append_src _ rfl (.tmp 17) (.tmp 18) _ rfl i0 (.int .u8 0) 1 Try.underlying22 hi hz0 hz1 hz2 rfl rfl hbd hown0 rfl hx0 (u8s_one _) (by unfold maxLen; omega) (by omega) ?_; intro v1 w1 hb1' hown1; obtain ⟨g1, c1, rfl, hg1, hg2, hc1⟩ := own_form hown1 (by omega))
  rw [Nat.zero_add, List.nil_append] at hown1
  rw [Nat.zero_add] at hc1
  have hrd : Rd w1 w1.heap.size (some ⟨g1, 0, none⟩) l (u8s xs) := by
    obtain ⟨a', c', e', _, _, h⟩ := Rd.own hown1
    cases e'
    exact h
  refine (put_ok _ _ _ _ n m _ HF.out (by omega) (by omega) hn0 hrd (Nat.le_refl _) (by omega)).mono ?_
  rintro e w2 ⟨v2, rfl, hown2, hb2⟩
  have hR : OwnRel w w1.heap.size g1 l c1 v2 (l + m) (xs ++ le n m) w2 := ⟨hb1'.trans (hb2.mono hb1'.size), ⟨xs, HX.out, own_far hown1 hb2⟩, hown2⟩
  obtain ⟨g2, c2, rfl, hg3, hg4, hc2⟩ := own_form hown2 (by omega)
  clear hown0 hbd hx0 hrd hown2 hown1
  go_wp2
  go_loopw [34] (fun i wr => ∃ j : Nat, j ≤ l ∧ i = .int .i64 j ∧ OwnRel w w1.heap.size g1 l c1 (.slice (some ⟨g2, 0, none⟩) (l + m) c2) (l + m) (xs ++ le n m) wr) (fun i _ => l - (intOf i).toNat)
  case atStart => exact ⟨0, Nat.zero_le _, rfl, hR⟩
  case round =>
    obtain ⟨j, hj, rfl, hR⟩ := hrel
    by_cases hlt : j < l
    · obtain ⟨_, ⟨zs, hzs, hzo⟩, _⟩ := id hR
      have hzl : zs.length = l := by have := hzo.1; rw [u8s_length, Nat.mul_one] at this; exact this
      have hcell : wr.cell? ⟨g1, j, none⟩ = some (.int .u8 (zs.getD j 0)) := by
        rw [hzo.cellAt j (by omega)]
        simp [u8s, List.getD_eq_getElem?_getD, show j < zs.length by omega]
      have hfro : wr.frozen? ⟨g1, j, none⟩ = false := hzo.frozenAt j
      have hbz := bits_byte .xor (zs.getD j 0) by'
      generalize zs.getD j 0 = z at *
      obtain ⟨hbz1, hbz2⟩ := hbz
      have hR' := ownRel_step hR hg1 hg2 j (bits .xor .u8 z by') hbz1 hbz2
      clear hzo hzl hzs hR
      go_wp2
      go_roundw
      case rel => exact ⟨j + 1, by omega, by go_num, hR'⟩
      case measure => simp [intOf]; omega
    · obtain ⟨hbr, _, hvr⟩ := hR
      obtain ⟨a', c', e', _, _, hrv⟩ := Rd.own hvr
      cases e'
      have hp1 := hrv.first (k := l) (by omega)
      rw [u8s_append, List.take_left' (by rw [u8s_length]; exact HL.out)] at hp1
      have hs1 := run_str Try.underlying22 Try.underlying5 Try.underlying9 (w := wr.drew) (Rd.drew_ hp1) c2
      have hs2 := run_str Try.underlying22 Try.underlying5 Try.underlying9 (w := wr.drew) (Rd.drew_ (hr.far hbr)) c
      obtain rfl : j = l := by omega
      have hmin : (if (j : Int) + (m : Int) < (j : Int) then (j : Int) + (m : Int) else (j : Int)) = (j : Int) := if_neg (by omega)
      have hmin2 : ((j : Int) + (m : Int) < (j : Int)) = False := by simp; omega
      have hsum : IntKind.i64.wrap ((j : Int) + (m : Int)) = (j : Int) + (m : Int) := IntWalk.i64_in _ (by omega)
      have hj0 : (0 : Int) ≤ (j : Int) := by omega
      have hjc : (j : Int) ≤ (c2 : Int) := by omega
      go_wp2
      refine wp_region_still_tail 16 (by kernel_rfl) (by kernel_rfl) ?_
      simp only [List.take_succ_cons, List.take_zero, List.drop_succ_cons, List.drop_zero]
      repeat
        with_reducible refine wpStill_step ?_
        intro K hK
        go_simp
        with_reducible refine hK _ ?_
        clear hK K
      with_reducible refine wpStill_nil ?_
      go_wp2_with (go_at_call 9; refine (wakes_any _).mono ?_; rintro e w4 ⟨rfl, hb4⟩)
      go_ret
      exact ⟨rfl, (hbr.drew).trans (hb4.mono hbr.size)⟩

set_option maxHeartbeats 800000 in
theorem own_pos_no (a : Option Addr) (l c : Nat) (xs : List Int) (n m by' : Int) (w : World) (hi : In8 w a l c xs) (h1 : l ≤ 2000) (h0 : 0 < l) (hf : fitsB n m = false) :
    Calls Try.prog 6 #[.slice a l c, .int .i64 n, .int .i64 m, .int .u8 by'] w fun e w' => e = .returned (.bool true) ∧ Below w.heap.size w w' := by
  obtain ⟨hr, hx, hlc, hcm⟩ := hi
  have hlen : xs.length = l := by rw [← hr.1]; exact (u8s_length xs).symm
  have HL := Lib.hid hlen
  have HX := Lib.hid hx
  have HF := Lib.hid hf
  obtain ⟨i0, hi, hz0, hz1, hz2⟩ := info_parts info_u8
  have hown0 := own_empty w 5
  have hbd : Below w.heap.size w (w.alloc (.cells #[] 5)) := (Below.refl _ _).alloc (Nat.le_refl _) _
  have hx0 := hr.far hbd
  clear hx hlen hf
  go_enter Try.func6, Try.ntmps6
  go_wp2_with (at_builtin; refine wpList_append_src _ rfl (.tmp 17) (.tmp 18) _ rfl i0 (.int .u8 0) 1 Try.underlying22 hi hz0 hz1 hz2 rfl rfl hbd hown0 rfl hx0 (u8s_one _) (by unfold maxLen; omega) (by omega) ?_; intro v1 w1 hb1' hown1; obtain ⟨g1, c1, rfl, hg1, hg2, hc1⟩ := own_form hown1 (by omega))
  rw [Nat.zero_add, List.nil_append] at hown1
  rw [Nat.zero_add] at hc1
  refine (put_no _ _ _ n m _ HF.out).mono ?_
  rintro e w2 ⟨rfl, rfl⟩
  have hR : OwnRel w w1.heap.size g1 l c1 (.slice none 0 0) 0 [] w1 := ⟨hb1', ⟨xs, HX.out, hown1⟩, World.ownsRow_nil _ _ _ 1⟩
  clear hown0 hbd hx0 hown1
  go_wp2
  go_loopw [34] (fun i wr => ∃ j : Nat, j ≤ l ∧ i = .int .i64 j ∧ OwnRel w w1.heap.size g1 l c1 (.slice none 0 0) 0 [] wr) (fun i _ => l - (intOf i).toNat)
  case atStart => exact ⟨0, Nat.zero_le _, rfl, hR⟩
  case round =>
    obtain ⟨j, hj, rfl, hR⟩ := hrel
    by_cases hlt : j < l
    · obtain ⟨_, ⟨zs, hzs, hzo⟩, _⟩ := id hR
      have hzl : zs.length = l := by have := hzo.1; rw [u8s_length, Nat.mul_one] at this; exact this
      have hcell : wr.cell? ⟨g1, j, none⟩ = some (.int .u8 (zs.getD j 0)) := by
        rw [hzo.cellAt j (by omega)]
        simp [u8s, List.getD_eq_getElem?_getD, show j < zs.length by omega]
      have hfro : wr.frozen? ⟨g1, j, none⟩ = false := hzo.frozenAt j
      have hbz := bits_byte .xor (zs.getD j 0) by'
      generalize zs.getD j 0 = z at *
      obtain ⟨hbz1, hbz2⟩ := hbz
      have hR' := ownRel_step hR hg1 hg2 j (bits .xor .u8 z by') hbz1 hbz2
      clear hzo hzl hzs hR
      go_wp2
      go_roundw
      case rel => exact ⟨j + 1, by omega, by go_num, hR'⟩
      case measure => simp [intOf]; omega
    · obtain ⟨hbr, _, _⟩ := hR
      obtain rfl : j = l := by omega
      go_wp2
      refine wp_region_still_tail 16 (by kernel_rfl) (by kernel_rfl) ?_
      simp only [List.take_succ_cons, List.take_zero, List.drop_succ_cons, List.drop_zero]
      repeat
        with_reducible refine wpStill_step ?_
        intro K hK
        go_simp
        with_reducible refine hK _ ?_
        clear hK K
      with_reducible refine wpStill_nil ?_
      go_wp2_with (go_at_call 9; refine (wakes_any _).mono ?_; rintro e w4 ⟨rfl, hb4⟩)
      go_ret
      exact ⟨rfl, (hbr.drew).trans (hb4.mono hbr.size)⟩

set_option maxHeartbeats 800000 in
theorem own_zero_no (a : Option Addr) (c : Nat) (xs : List Int) (n m by' : Int) (w : World) (hi : In8 w a 0 c xs) (hf : fitsB n m = false) :
    Calls Try.prog 6 #[.slice a 0 c, .int .i64 n, .int .i64 m, .int .u8 by'] w fun e w' => e = .returned (.bool true) ∧ Below w.heap.size w w' := by
  obtain ⟨hr, hx, hlc, hcm⟩ := hi
  have hlen : xs.length = 0 := by rw [← hr.1]; exact (u8s_length xs).symm
  have HL := Lib.hid hlen
  have HX := Lib.hid hx
  have HF := Lib.hid hf
  obtain ⟨i0, hi, hz0, hz1, hz2⟩ := info_parts info_u8
  have hown0 := own_empty w 5
  have hbd : Below w.heap.size w (w.alloc (.cells #[] 5)) := (Below.refl _ _).alloc (Nat.le_refl _) _
  have hx0 := hr.far hbd
  clear hx hlen hf
  go_enter Try.func6, Try.ntmps6
  go_wp2_with (at_builtin; refine wpList_append_src _ rfl (.tmp 17) (.tmp 18) _ rfl i0 (.int .u8 0) 1 Try.underlying22 hi hz0 hz1 hz2 rfl rfl hbd hown0 rfl hx0 (u8s_one _) (by unfold maxLen; omega) (by omega) ?_; intro v1 w1 hb1' hown1; obtain ⟨a1, c1, rfl, hc1, hc2, hr1⟩ := Rd.own hown1)
  refine (put_no _ _ _ n m _ HF.out).mono ?_
  rintro e w2 ⟨rfl, rfl⟩
  clear hown0 hbd hx0 hown1 hr1
  go_wp2
  refine wp_loop_rounds 1 ?_
  rw [rounds_succ]
  go_wp2
  refine wp_region_still_tail 16 (by kernel_rfl) (by kernel_rfl) ?_
  simp only [List.take_succ_cons, List.take_zero, List.drop_succ_cons, List.drop_zero]
  repeat
    with_reducible refine wpStill_step ?_
    intro K hK
    go_simp
    with_reducible refine hK _ ?_
    clear hK K
  with_reducible refine wpStill_nil ?_
  go_wp2_with (go_at_call 9; refine (wakes_any _).mono ?_; rintro e w4 ⟨rfl, hb4⟩)
  go_ret
  exact ⟨rfl, (hb1'.drew).trans (hb4.mono hb1'.size)⟩

set_option maxHeartbeats 800000 in
theorem own_zero (a : Option Addr) (c : Nat) (xs : List Int) (n : Int) (m : Nat) (by' : Int) (w : World) (hi : In8 w a 0 c xs) (hf : fitsB n m = true) :
    Calls Try.prog 6 #[.slice a 0 c, .int .i64 n, .int .i64 m, .int .u8 by'] w fun e w' => e = .returned (.bool true) ∧ Below w.heap.size w w' := by
  obtain ⟨hm1, hm6, hn0, _⟩ := fits_yes hf
  obtain ⟨hr, hx, hlc, hcm⟩ := hi
  have hlen : xs.length = 0 := by rw [← hr.1]; exact (u8s_length xs).symm
  have HL := Lib.hid hlen
  have HX := Lib.hid hx
  have HF := Lib.hid hf
  obtain ⟨i0, hi, hz0, hz1, hz2⟩ := info_parts info_u8
  have hown0 := own_empty w 5
  have hbd : Below w.heap.size w (w.alloc (.cells #[] 5)) := (Below.refl _ _).alloc (Nat.le_refl _) _
  have hx0 := hr.far hbd
  clear hx hlen hf
  go_enter Try.func6, Try.ntmps6
  go_wp2_with (at_builtin; refine wpList_append_src _ rfl (.tmp 17) (.tmp 18) _ rfl i0 (.int .u8 0) 1 Try.underlying22 hi hz0 hz1 hz2 rfl rfl hbd hown0 rfl hx0 (u8s_one _) (by unfold maxLen; omega) (by omega) ?_; intro v1 w1 hb1' hown1; obtain ⟨a1, c1, rfl, hc1, hc2, hr1⟩ := Rd.own hown1)
  have hrd : Rd w1 w1.heap.size a1 0 (u8s []) := ⟨rfl, .inl rfl⟩
  refine (put_rd a1 0 0 [] n m _ HF.out hrd (Nat.le_refl _) (by omega)).mono ?_
  rintro e w2 ⟨a2, c2, rfl, hr2, hc3, hm2, hb2⟩
  obtain ⟨_, h0 | ⟨g2, o2, rfl, hg2, _⟩⟩ := id hr2
  · omega
  have hp1 : Rd w2 w2.heap.size (some ⟨g2, o2, none⟩) 0 (u8s []) := ⟨rfl, .inl rfl⟩
  have hnil : xs = [] := List.eq_nil_of_length_eq_zero HL.out
  subst hnil
  have hs1 := run_str Try.underlying22 Try.underlying5 Try.underlying9 (w := w2.drew) (Rd.drew_ hp1) c2
  have hs2 := run_str Try.underlying22 Try.underlying5 Try.underlying9 (w := w2.drew) (Rd.drew_ (hr.far (hb1'.trans (hb2.mono hb1'.size)))) c
  have hmin : (if (m : Int) < 0 then (m : Int) else 0) = 0 := if_neg (by omega)
  have hmin2 : ((m : Int) < 0) = False := by simp
  have hsum : IntKind.i64.wrap (0 + (m : Int)) = (m : Int) := by rw [Int.zero_add]; exact IntWalk.i64_in _ (by omega)
  clear hown0 hbd hx0 hown1 hr1 hrd
  go_wp2
  refine wp_loop_rounds 1 ?_
  rw [rounds_succ]
  go_wp2
  refine wp_region_still_tail 16 (by kernel_rfl) (by kernel_rfl) ?_
  simp only [List.take_succ_cons, List.take_zero, List.drop_succ_cons, List.drop_zero]
  repeat
    with_reducible refine wpStill_step ?_
    intro K hK
    go_simp
    with_reducible refine hK _ ?_
    clear hK K
  with_reducible refine wpStill_nil ?_
  go_wp2_with (go_at_call 9; refine (wakes_any _).mono ?_; rintro e w4 ⟨rfl, hb4⟩)
  go_ret
  have hbb := hb1'.trans (hb2.mono hb1'.size)
  exact ⟨rfl, (hbb.drew).trans (hb4.mono hbb.size)⟩

theorem walkPackOwn (a : Option Addr) (l c : Nat) (xs : List Int) (n m by' : Int) (w : World) (hi : In8 w a l c xs) (_ : -9223372036854775808 ≤ n ∧ n ≤ 9223372036854775807) (_ : -9223372036854775808 ≤ m ∧ m ≤ 9223372036854775807) (_ : 0 ≤ by' ∧ by' ≤ 255) :
    Calls Try.prog 6 #[.slice a l c, .int .i64 n, .int .i64 m, .int .u8 by'] w fun e w' => e = .returned (.bool true) ∧ Below w.heap.size w w' := by
  have hl2 : l ≤ 9223372036854775807 := by have := hi.2.2.1; have := hi.2.2.2; unfold maxLen at this; omega
  by_cases h1 : l ≤ 2000
  · rcases hf : fitsB n m with _ | _
    · rcases Nat.eq_zero_or_pos l with h0 | h0
      · subst h0
        exact own_zero_no a c xs n m by' w hi hf
      · exact own_pos_no a l c xs n m by' w hi h1 h0 hf
    · obtain ⟨m1, m2, _, _⟩ := fits_yes hf
      obtain ⟨j, rfl⟩ := Int.eq_ofNat_of_zero_le (show 0 ≤ m by omega)
      rcases Nat.eq_zero_or_pos l with h0 | h0
      · subst h0
        exact own_zero a c xs n j by' w hi hf
      · exact own_pos a l c xs n j by' w hi h1 h0 hf
  · clear hi
    go_enter Try.func6, Try.ntmps6
    go_wp2_with (go_at_call 9; refine (wakes_any _).mono ?_; rintro e w4 ⟨rfl, hb4⟩)
    go_ret
    exact ⟨rfl, hb4⟩
end Go.Proofs.Ythkelpnjfggmcaa
