/- What is proved: the walk of PackBack: it returns true at any two slices of bytes and any two ints, and nothing that was there before the call turns. -/
import Derived.Test.YthkelpnjfggmcaaPackI
import Derived.Deep.QuietTactic
import Derived.BigQuiet
namespace Go.Proofs.Ythkelpnjfggmcaa
open Go.RowKit

theorem Rd.first {w : World} {B : Nat} {a : Option Addr} {n : Nat} {xs : List Value} (h : Rd w B a n xs) {k : Nat} (hk : k ≤ n) : Rd w B a k (xs.take k) := by
  obtain ⟨h1, h2⟩ := h
  refine ⟨by simp; omega, ?_⟩
  rcases h2 with h2 | ⟨g, o, ha, hg, hc⟩
  · exact .inl (by omega)
  · refine .inr ⟨g, o, ha, hg, fun j u hu => hc j u ?_⟩
    rw [List.getElem?_take] at hu
    split at hu
    · exact hu
    · cases hu
theorem Rd.drewN {w : World} {B : Nat} {a : Option Addr} {n : Nat} {xs : List Value} (h : Rd w B a n xs) (k : Nat) : Rd (w.drewN k) B a n xs := h
theorem own_empty (w : World) (e : TypeId) : (w.alloc (.cells #[] e)).ownsRow w.heap.size e 1 (.slice (some ⟨w.heap.size, 0, none⟩) 0 0) 0 [] := World.ownsRow_made w #[] 0 (Nat.le_refl _) (Nat.zero_le _) rfl

theorem below_drewN (w : World) (k : Nat) (B : Nat) : Below B w (w.drewN k) := ⟨rfl, rfl, rfl, Nat.le_refl _, fun _ _ => rfl⟩
theorem le_sum (n : Int) (k : Nat) : n = num (le n k) + 256 ^ k * (n / 256 ^ k) := by
  induction k with
  | zero => simp [le, num]
  | succ k ih =>
    rw [le_succ, num_snoc, le_length, ← div_step]
    generalize num (le n k) = a at *
    generalize n / 256 ^ k = q at *
    have h := Int.mul_ediv_add_emod q 256
    generalize q / 256 = d at *
    generalize q % 256 = r at *
    rw [Int.pow_succ, Int.mul_comm r, Int.mul_assoc, Int.add_assoc, ← Int.mul_add, Int.add_comm r, h]
    exact ih
theorem num_le_of {n : Int} {m : Nat} (h : fitsB n m = true) : num (le n m) = n := by
  obtain ⟨_, _, h3, h4⟩ := fits_yes h
  rw [Int.toNat_natCast] at h4
  have := le_sum n m
  rw [div_zero h3 h4, Int.mul_zero, Int.add_zero] at this
  exact this.symm
theorem isBytes_append {xs ys : List Int} (h : IsBytes xs) (h' : IsBytes ys) : IsBytes (xs ++ ys) := fun b hb => (List.mem_append.1 hb).elim (h b) (h' b)
theorem isBytes_le (n : Int) (k : Nat) : IsBytes (le n k) := by
  intro b hb
  obtain ⟨j, _, rfl⟩ := List.mem_map.1 hb
  omega

set_option maxHeartbeats 400000 in
theorem back_in (a : Option Addr) (l c : Nat) (xs : List Int) (b : Option Addr) (k d : Nat) (ys : List Int) (n : Int) (m : Nat) (w : World) (hi : In8 w a l c xs) (hj : In8 w b k d ys) (h1 : l ≤ 2000) (h2 : k ≤ 2000) (hf : fitsB n m = true) (hm1 : 1 ≤ m) (hm6 : m ≤ 6) :
    Calls Try.prog 4 #[.slice a l c, .slice b k d, .int .i64 n, .int .i64 m] w fun e w' => e = .returned (.bool true) ∧ Below w.heap.size w w' := by
  obtain ⟨hr, hx, hlc, hcm⟩ := hi
  obtain ⟨hr', hy, hkd, hdm⟩ := hj
  have hlen : xs.length = l := by rw [← hr.1]; exact (u8s_length xs).symm
  have HL := Lib.hid hlen
  have HX := Lib.hid hx
  have HY := Lib.hid hy
  have HF := Lib.hid hf
  clear hx hy hlen hf
  go_enter Try.func4, Try.ntmps4
  go_wp2_with fail
  refine (put_rd a l c xs n m _ HF.out hr hlc (by omega)).mono ?_
  rintro e w1 ⟨a1, c1, rfl, hr1, hc1, hm1', hb1⟩
  obtain ⟨_, h0 | ⟨g1, o1, rfl, hg1, _⟩⟩ := id hr1
  · omega
  have hp1 := hr1.first (k := l) (by omega)
  rw [u8s_append, List.take_left' (by rw [u8s_length]; exact HL.out)] at hp1
  have hs1 := fun nq => run_str Try.underlying22 Try.underlying5 Try.underlying9 (hp1.drewN nq) c1
  have hs2 := fun nq => run_str Try.underlying22 Try.underlying5 Try.underlying9 ((hr.far hb1).drewN nq) c
  have hsum : IntKind.i64.wrap ((l : Int) + (m : Int)) = (l : Int) + (m : Int) := IntWalk.i64_in _ (by omega)
  go_wp2
  go_quiet (fail)
  obtain ⟨i0, hi, hz0, hz1, hz2⟩ := info_parts info_u8
  have hsz := hb1.size
  have hbd : Below w.heap.size w ((w1.drewN nq).alloc (.cells #[] 5)) := (hb1.trans (below_drewN w1 nq _)).alloc hsz _
  have hown0 : ((w1.drewN nq).alloc (.cells #[] 5)).ownsRow w.heap.size 5 1 (.slice (some ⟨w1.heap.size, 0, none⟩) 0 0) 0 [] := own_base (own_empty (w1.drewN nq) 5) hsz
  have hx0 := hr1.far (((Below.refl w1.heap.size w1).trans (below_drewN w1 nq _)).alloc (Nat.le_refl _) (.cells #[] 5))
  have hy0 := hr'.far hbd
  clear hs1 hs2 hsum hp1
  go_wp2_with (first
    | (at_builtin; refine wpList_append_src _ rfl (.tmp 61) (.tmp 62) _ rfl i0 (.int .u8 0) 1 Try.underlying22 hi hz0 hz1 hz2 rfl rfl hbd hown0 rfl hx0 (u8s_one _) (by unfold maxLen; omega) (by omega) ?_; intro v1 w2 hb2 hown2)
    | (at_builtin; refine wpList_append_src _ rfl (.tmp 63) (.tmp 64) _ rfl i0 (.int .u8 0) 1 Try.underlying22 hi hz0 hz1 hz2 rfl rfl hb2 hown2 rfl (hr'.far hb2) (u8s_one _) (by unfold maxLen; omega) (by omega) ?_; intro v3 w3 hb3 hown3; obtain ⟨a3, c3, rfl, hc3, hm3, hr3⟩ := Rd.own hown3))
  rw [List.nil_append, ← u8s_append, Nat.zero_add] at hr3
  rw [Nat.zero_add] at hc3
  have hlen : (xs ++ le n m ++ ys).length = l + m + k := by rw [← u8s_length]; exact hr3.1
  have hgo : num (((xs ++ le n m ++ ys).drop (l : Int).toNat).take (m : Int).toNat) = n := by
    rw [Int.toNat_natCast, Int.toNat_natCast, List.append_assoc, List.drop_left' HL.out, List.take_left' (le_length n m)]
    exact num_le_of HF.out
  have hby := isBytes_append (isBytes_append HX.out (isBytes_le n m)) HY.out
  refine (get_int a3 _ c3 _ l m w3 (by omega) (by omega) (by omega) hr3 hby hc3 (by omega) (by omega)).mono ?_
  rw [hgo]
  rintro e w' ⟨rfl, rfl⟩
  clear hgo hby hlen
  go_wp2_with (go_at_call 9; refine (wakes_any _).mono ?_; rintro e w4 ⟨rfl, hb4⟩)
  go_ret
  exact ⟨rfl, hb3.trans (hb4.mono hb3.size)⟩

theorem walkPackBack (a : Option Addr) (l c : Nat) (xs : List Int) (b : Option Addr) (k d : Nat) (ys : List Int) (n m : Int) (w : World) (hi : In8 w a l c xs) (hj : In8 w b k d ys) (_ : -9223372036854775808 ≤ n ∧ n ≤ 9223372036854775807) (_ : -9223372036854775808 ≤ m ∧ m ≤ 9223372036854775807) :
    Calls Try.prog 4 #[.slice a l c, .slice b k d, .int .i64 n, .int .i64 m] w fun e w' => e = .returned (.bool true) ∧ Below w.heap.size w w' := by
  have hl2 : l ≤ 9223372036854775807 := by have := hi.2.2.1; have := hi.2.2.2; unfold maxLen at this; omega
  have hk2 : k ≤ 9223372036854775807 := by have := hj.2.2.1; have := hj.2.2.2; unfold maxLen at this; omega
  by_cases h1 : l ≤ 2000
  · by_cases h2 : k ≤ 2000
    · rcases hf : fitsB n m with _ | _
      · clear hi hj
        go_enter Try.func4, Try.ntmps4
        go_wp2_with (first
          | (go_at_call 10; refine (put_no _ _ _ _ _ _ hf).mono ?_; rintro e w' ⟨rfl, rfl⟩)
          | (go_at_call 14; refine (fits_any _ _ _).mono ?_; rintro e w' ⟨rfl, rfl⟩)
          | (go_at_call 9; refine (wakes_any _).mono ?_; rintro e w4 ⟨rfl, hb4⟩))
        go_ret
        exact ⟨rfl, hb4⟩
      · obtain ⟨m1, m2, _, _⟩ := fits_yes hf
        obtain ⟨j, rfl⟩ := Int.eq_ofNat_of_zero_le (show 0 ≤ m by omega)
        exact back_in a l c xs b k d ys n j w hi hj h1 h2 hf (by omega) (by omega)
    · clear hi hj
      go_enter Try.func4, Try.ntmps4
      go_wp2_with (go_at_call 9; refine (wakes_any _).mono ?_; rintro e w4 ⟨rfl, hb4⟩)
      go_ret
      exact ⟨rfl, hb4⟩
  · clear hi hj
    go_enter Try.func4, Try.ntmps4
    go_wp2_with (go_at_call 9; refine (wakes_any _).mono ?_; rintro e w4 ⟨rfl, hb4⟩)
    go_ret
    exact ⟨rfl, hb4⟩
end Go.Proofs.Ythkelpnjfggmcaa
