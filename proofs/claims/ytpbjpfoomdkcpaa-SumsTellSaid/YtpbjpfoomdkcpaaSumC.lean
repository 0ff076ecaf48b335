/- What is proved: the walks of SumsTurns and SumsJoin: each returns true at every input, and nothing that was there before the call turns. -/
import Derived.Test.YtpbjpfoomdkcpaaSumB
import Derived.Test.YtpbjpfoomdkcpaaFrm
namespace Go.Proofs.Ytpbjpfoomdkcpaa
open Go.RowKit

theorem wakes_any (w : World) : Calls Try.prog 7 #[] w fun e w' => e = .returned (.bool true) ∧ w = w' := by
  have h0 : Calls Try.prog 12 #[.slice none 0 0] w fun e w' => e = .returned (.int .u32 0) ∧ w = w' := by
    have h := sum_walk none 0 0 [] w (Rd.nil w _ _) (fun b hb => by simp at hb) (by decide)
    rw [show iu (sum []) = 0 by decide +kernel] at h
    exact h
  have h1 : Calls Try.prog 10 #[.int .u32 1] w fun e w' => e = .returned (.int .u32 3988292384) ∧ w = w' := by
    have h := step_walk 1#32 w
    rw [show iu (stp 1#32) = 3988292384 by decide +kernel, show iu 1#32 = 1 by decide +kernel] at h
    exact h
  have h2 : Calls Try.prog 10 #[.int .u32 2] w fun e w' => e = .returned (.int .u32 1) ∧ w = w' := by
    have h := step_walk 2#32 w
    rw [show iu (stp 2#32) = 1 by decide +kernel, show iu 2#32 = 2 by decide +kernel] at h
    exact h
  go_enter Try.func7, Try.ntmps7
  go_wp2_with (first
    | (go_at_call 12; with_reducible refine h0.mono ?_; rintro e w' ⟨rfl, rfl⟩)
    | (go_at_call 10; with_reducible refine h1.mono ?_; rintro e w' ⟨rfl, rfl⟩)
    | (go_at_call 10; with_reducible refine h2.mono ?_; rintro e w' ⟨rfl, rfl⟩))
  go_ret
  exact ⟨rfl, rfl⟩

/-! ### SumsTurns -/
theorem iu_beq (x y : B32) : (iu x == iu y) = (x == y) := by
  rw [Bool.eq_iff_iff, beq_iff_eq, beq_iff_eq]
  exact ⟨iu_inj, fun h => by rw [h]⟩
theorem step_same (x y : B32) : (iu (stp x) == iu (stp y)) = (iu x == iu y) := by
  rw [iu_beq, iu_beq, Bool.eq_iff_iff, beq_iff_eq, beq_iff_eq]
  exact ⟨stp_inj, fun h => by rw [h]⟩
theorem not_inj {x y : B32} (h : ~~~ x = ~~~ y) : x = y := by
  have := congrArg (fun z => ~~~ z) h
  simpa using this
theorem more_same (x y : B32) (xs : List Int) : (iu (more x xs) == iu (more y xs)) = (iu x == iu y) := by
  rw [iu_beq, iu_beq, Bool.eq_iff_iff, beq_iff_eq, beq_iff_eq]
  exact ⟨fun h => not_inj (puts_inj (not_inj h)), fun h => by rw [h]⟩
theorem even_of {x : B32} (h : x.getLsbD 0 = false) : iu x % 2 = 0 := by
  rw [BitVec.getLsbD, Nat.testBit_zero] at h
  unfold iu
  have := of_decide_eq_false h
  omega
theorem odd_of {x : B32} (h : x.getLsbD 0 = true) : iu x % 2 = 1 := by
  rw [BitVec.getLsbD, Nat.testBit_zero] at h
  unfold iu
  have := of_decide_eq_true h
  omega
theorem top_even {x : B32} (h : x.getLsbD 0 = false) : (iu (stp x) / 2147483648 == 1) = false := by
  have hb := iu_bd x
  unfold stp
  rw [h, if_neg (by decide), ← half_iu, beq_eq_false_iff_ne]
  omega
theorem top_odd {x : B32} (h : x.getLsbD 0 = true) : (iu (stp x) / 2147483648 == 1) = true := by
  have hb := iu_bd (stp x)
  have h31 : (stp x).getLsbD 31 = true := by
    unfold stp
    rw [h, if_pos rfl, BitVec.getLsbD_xor, BitVec.getLsbD_ushiftRight, BitVec.getLsbD_of_ge x 32 (by decide)]
    decide
  have : 2147483648 ≤ (stp x).toNat := by
    have := Nat.ge_two_pow_of_testBit h31
    omega
  rw [beq_iff_eq]
  unfold iu at hb ⊢
  omega
theorem back_even {x : B32} (h : x.getLsbD 0 = false) : iu (stp x) * 2 = iu x := by
  have := even_of h
  unfold stp
  rw [h, if_neg (by decide), ← half_iu]
  omega
theorem back_odd {x : B32} (h : x.getLsbD 0 = true) : bits .xor .u32 (iu (stp x)) 3988292384 = iu x / 2 := by
  rw [show (3988292384 : Int) = iu poly by rfl, xor_u32, half_iu]
  unfold stp
  rw [h, if_pos rfl, BitVec.xor_assoc, BitVec.xor_self, BitVec.xor_zero]
theorem or_one (x : B32) (h : iu x % 2 = 1) : bits .or .u32 (iu x / 2 * 2) 1 = iu x := by
  have hb := iu_bd x
  obtain ⟨y, hy⟩ := iu_of (iu x / 2 * 2) (by omega)
  have e : (1 : Int) = iu 1#32 := by rfl
  rw [hy, e, or_u32]
  unfold iu at hy h ⊢
  have hy' : y.toNat % 2 ^ 1 = 0 := by omega
  rw [BitVec.toNat_or, nat_join 1 y.toNat (1#32).toNat hy' (by decide)]
  rw [show (1#32).toNat = 1 by rfl]
  omega

set_option maxHeartbeats 400000 in
theorem turns_in (x y : B32) (a : Option Addr) (l c : Nat) (xs : List Int) (w : World) (hi : In8 w a l c xs) (hl : l ≤ 4000) :
    Calls Try.prog 6 #[.int .u32 (iu x), .int .u32 (iu y), .slice a l c] w fun e w' => e = .returned (.bool true) ∧ w = w' := by
  obtain ⟨hr, hx, hlc, hcm⟩ := hi
  have hs := step_same x y
  have hm := more_same x y xs
  have hb := iu_bd x
  rcases h0 : x.getLsbD 0 with _ | _
  · have ht := top_even h0
    have hk := back_even h0
    go_enter Try.func6, Try.ntmps6
    go_wp2_with (first
      | (go_at_call 10; refine (step_walk _ _).mono ?_; rintro e w' ⟨rfl, rfl⟩)
      | (go_at_call 14; refine (more_walk _ a l c xs _ hr hx (by omega)).mono ?_; rintro e w' ⟨rfl, rfl⟩)
      | (go_at_call 7; refine (wakes_any _).mono ?_; rintro e w' ⟨rfl, rfl⟩))
    go_ret
    exact ⟨rfl, rfl⟩
  · have ht := top_odd h0
    have hk := back_odd h0
    have ho := or_one x (odd_of h0)
    go_enter Try.func6, Try.ntmps6
    go_wp2_with (first
      | (go_at_call 10; refine (step_walk _ _).mono ?_; rintro e w' ⟨rfl, rfl⟩)
      | (go_at_call 14; refine (more_walk _ a l c xs _ hr hx (by omega)).mono ?_; rintro e w' ⟨rfl, rfl⟩)
      | (go_at_call 7; refine (wakes_any _).mono ?_; rintro e w' ⟨rfl, rfl⟩))
    go_ret
    exact ⟨rfl, rfl⟩
theorem walkSumsTurns (n m : Int) (a : Option Addr) (l c : Nat) (xs : List Int) (w : World) (hn : 0 ≤ n ∧ n ≤ 4294967295) (hm : 0 ≤ m ∧ m ≤ 4294967295) (hi : In8 w a l c xs) :
    Calls Try.prog 6 #[.int .u32 n, .int .u32 m, .slice a l c] w fun e w' => e = .returned (.bool true) ∧ Below w.heap.size w w' := by
  by_cases h : l ≤ 4000
  · obtain ⟨x, rfl⟩ := iu_of n hn
    obtain ⟨y, rfl⟩ := iu_of m hm
    refine (turns_in x y a l c xs w hi h).mono ?_
    rintro e w' ⟨rfl, rfl⟩
    exact ⟨rfl, Below.refl _ _⟩
  · have hl2 : l ≤ 140737488351232 := by have := hi.2.2.1; have := hi.2.2.2; omega
    clear hi
    go_enter Try.func6, Try.ntmps6
    go_wp2_with (go_at_call 7; refine (wakes_any _).mono ?_; rintro e w' ⟨rfl, rfl⟩)
    go_ret
    exact ⟨rfl, Below.refl _ _⟩

/-! ### SumsJoin -/
theorem more_sum (xs ys : List Int) : more (sum xs) ys = sum (xs ++ ys) := by
  unfold sum more
  rw [puts_append, BitVec.not_not]
theorem more_none (xs : List Int) : more 0#32 xs = sum xs := rfl
set_option maxHeartbeats 400000 in
theorem join_in (a : Option Addr) (l c : Nat) (xs : List Int) (b : Option Addr) (k d : Nat) (ys : List Int) (w : World) (hi : In8 w a l c xs) (hj : In8 w b k d ys) (hl : l + k ≤ 4000) :
    Calls Try.prog 4 #[.slice a l c, .slice b k d] w fun e w' => e = .returned (.bool true) ∧ Below w.heap.size w w' := by
  obtain ⟨hr, hx, hlc, hcm⟩ := hi
  obtain ⟨hr', hy, hkd, hdm⟩ := hj
  have HX := Lib.hid hx
  have HY := Lib.hid hy
  obtain ⟨i0, hi, hz0, hz1, hz2⟩ := info_parts info_u8
  clear hx hy
  have hb0 := Below.refl w.heap.size w
  have hown0 := World.ownsRow_nil w w.heap.size 5 1
  have hj1 := more_sum xs ys
  have hj2 := more_none xs
  have hm : ∀ w', Below w.heap.size w w' → Calls Try.prog 14 #[.int .u32 0, .slice a l c] w' fun e w'' => e = .returned (.int .u32 (iu (sum xs))) ∧ w' = w'' :=
    fun w' h => more_walk 0#32 a l c xs w' ((hr.far h).up h.size) HX.out (by omega)
  go_enter Try.func4, Try.ntmps4
  go_wp2_with (first
    | (at_builtin; refine wpList_append_src _ rfl (.tmp 13) (.tmp 14) _ rfl i0 (.int .u8 0) 1 Try.underlying22 hi hz0 hz1 hz2 rfl rfl hb0 hown0 rfl hr (u8s_one _) (by unfold maxLen; omega) (by omega) ?_; intro v1 w1 hb1 hown1)
    | (at_builtin; refine wpList_append_src _ rfl (.tmp 16) (.tmp 17) _ rfl i0 (.int .u8 0) 1 Try.underlying22 hi hz0 hz1 hz2 rfl rfl hb1 hown1 rfl (hr'.far hb1) (u8s_one _) (by unfold maxLen; omega) (by omega) ?_; intro v2 w2 hb2 hown2; obtain ⟨a2, c2, rfl, hc2, hm2, hr2⟩ := Rd.own hown2))
  rw [List.nil_append, ← u8s_append, Nat.zero_add] at hr2
  have ha := (hr.far hb2).up hb2.size
  have hb := (hr'.far hb2).up hb2.size
  have hj : (iu (more (sum xs) ys) == iu (sum (xs ++ ys))) = true := by rw [more_sum]; exact beq_self_eq_true _
  go_wp2_with (first
    | (go_at_call 12; with_reducible refine (sum_walk a l c xs _ ha HX.out (by omega)).mono ?_; rintro e w' ⟨rfl, rfl⟩)
    | (go_at_call 14; with_reducible refine (more_walk _ b k d ys _ hb HY.out (by omega)).mono ?_; rintro e w' ⟨rfl, rfl⟩)
    | (go_at_call 12; with_reducible refine (sum_walk a2 _ c2 _ _ hr2 (isBytes_append HX.out HY.out) (by omega)).mono ?_; rintro e w' ⟨rfl, rfl⟩)
    | (go_at_call 14; with_reducible refine (hm _ hb2).mono ?_; rintro e w' ⟨rfl, rfl⟩)
    | (go_at_call 7; refine (wakes_any _).mono ?_; rintro e w' ⟨rfl, rfl⟩))
  go_ret
  exact ⟨rfl, hb2⟩
theorem walkSumsJoin (a : Option Addr) (l c : Nat) (xs : List Int) (b : Option Addr) (k d : Nat) (ys : List Int) (w : World) (hi : In8 w a l c xs) (hj : In8 w b k d ys) :
    Calls Try.prog 4 #[.slice a l c, .slice b k d] w fun e w' => e = .returned (.bool true) ∧ Below w.heap.size w w' := by
  by_cases h : l + k ≤ 4000
  · exact join_in a l c xs b k d ys w hi hj h
  · have hl2 : l ≤ 140737488351232 := by have := hi.2.2.1; have := hi.2.2.2; omega
    have hk2 : k ≤ 140737488351232 := by have := hj.2.2.1; have := hj.2.2.2; omega
    clear hi hj
    go_enter Try.func4, Try.ntmps4
    go_wp2_with (go_at_call 7; refine (wakes_any _).mono ?_; rintro e w' ⟨rfl, rfl⟩)
    go_ret
    exact ⟨rfl, Below.refl _ _⟩
end Go.Proofs.Ytpbjpfoomdkcpaa
