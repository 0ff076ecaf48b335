/- What is proved: the walk of PackWide: it returns true at any two ints, and nothing that was there before the call turns. -/
import Derived.Test.YthkelpnjfggmcaaPackD
namespace Go.Proofs.Ythkelpnjfggmcaa
open Go.RowKit

theorem fits_yes {n m : Int} (h : fitsB n m = true) : 1 ≤ m ∧ m ≤ 6 ∧ 0 ≤ n ∧ n < 256 ^ m.toNat := of_decide_eq_true h
/-- Put, where it does not refuse: what it hands back is a slice that reads as what was there and the number's bytes behind it. -/
theorem put_rd (a : Option Addr) (l c : Nat) (xs : List Int) (n : Int) (m : Nat) (w : World) (hf : fitsB n m = true) (hr : Rd w w.heap.size a l (u8s xs)) (hlc : l ≤ c) (hl : l ≤ 1000000) :
    Calls Try.prog 10 #[.slice a l c, .int .i64 n, .int .i64 m] w fun e w' =>
      ∃ a' c', e = .returned (.tuple #[.slice a' (l + m) c', .int .i64 0]) ∧ Rd w' w'.heap.size a' (l + m) (u8s (xs ++ le n m)) ∧ l + m ≤ c' ∧ c' ≤ maxLen ∧ Below w.heap.size w w' := by
  obtain ⟨h1, h2, h3, _⟩ := fits_yes hf
  refine (put_ok a l c xs n m w hf (by omega) (by omega) h3 hr hlc hl).mono ?_
  rintro e w' ⟨v, rfl, hown, hbel⟩
  obtain ⟨a', c', rfl, k1, k2, hrd⟩ := Rd.own hown
  exact ⟨a', c', rfl, hrd, k1, k2, hbel⟩
theorem put_nil (n : Int) (m : Nat) (w : World) (hf : fitsB n m = true) :
    Calls Try.prog 10 #[.slice none 0 0, .int .i64 n, .int .i64 m] w fun e w' =>
      ∃ a' c', e = .returned (.tuple #[.slice a' m c', .int .i64 0]) ∧ Rd w' w'.heap.size a' m (u8s (le n m)) ∧ m ≤ c' ∧ c' ≤ maxLen ∧ Below w.heap.size w w' := by
  simpa using put_rd none 0 0 [] n m w hf ⟨rfl, .inl rfl⟩ (Nat.le_refl _) (Nat.zero_le _)

theorem fits_more {n : Int} {m : Nat} (h : fitsB n m = true) (h5 : m ≤ 5) : fitsB n ((m : Int) + 1) = true := by
  obtain ⟨h1, h2, h3, h4⟩ := fits_yes h
  have hp : (0 : Int) < 256 ^ m := Int.pow_pos (by decide)
  have e : ((m : Int) + 1).toNat = m + 1 := by omega
  unfold fitsB
  rw [e, Int.pow_succ]
  rw [Int.toNat_natCast] at h4
  refine decide_eq_true ⟨by omega, by omega, h3, by omega⟩
theorem div_zero {n : Int} {k : Nat} (h0 : 0 ≤ n) (h : n < 256 ^ k) : n / 256 ^ k = 0 := Int.ediv_eq_zero_of_lt h0 h
theorem le_wide {n : Int} {m : Nat} (h : fitsB n m = true) : le n (m + 1) = le n m ++ [0] := by
  obtain ⟨_, _, h3, h4⟩ := fits_yes h
  rw [Int.toNat_natCast] at h4
  rw [le_succ, div_zero h3 h4]
  rfl

set_option maxHeartbeats 400000 in
theorem wide_in (n : Int) (m : Nat) (w : World) (hm1 : 1 ≤ m) (hm5 : m ≤ 5) (hf : fitsB n m = true) :
    Calls Try.prog 7 #[.int .i64 n, .int .i64 m] w fun e w' => e = .returned (.bool true) ∧ Below w.heap.size w w' := by
  have hf1 := fits_more hf hm5
  have HF := Lib.hid hf
  have HF1 := Lib.hid hf1
  go_enter Try.func7, Try.ntmps7
  go_wp2_with (go_at_call 14; refine (fits_any _ _ _).mono ?_; rintro e w' ⟨rfl, rfl⟩)
  refine (put_nil n m _ HF.out).mono ?_
  rintro e w1 ⟨a1, c1, rfl, hr1, hc1, hm1', hb1⟩
  go_wp2_with fail
  refine (put_nil n (m + 1) _ HF1.out).mono ?_
  rintro e w2 ⟨a2, c2, rfl, hr2, hc2, hm2', hb2⟩
  have hs1 := run_str Try.underlying22 Try.underlying5 Try.underlying9 (hr1.far hb2) c1
  have hs2 := run_str Try.underlying22 Try.underlying5 Try.underlying9 hr2 c2
  have hsz : (strOfNums (le n m)).size ≤ 6 := by rw [strOfNums_size, le_length]; omega
  have heq : (strOfNums (le n (m + 1))).toList = (strOfNums (le n m) ++ { data := #[0] }).toList := by
    rw [le_wide HF.out, str_list, ByteArray.toList_eq, ByteArray.data_append, Array.toList_append, strOfNums_data, List.map_append]
    rfl
  go_wp2_with (first
    | (go_at_call 14; refine (fits_any _ _ _).mono ?_; rintro e w' ⟨rfl, rfl⟩)
    | (go_at_call 9; refine (wakes_any _).mono ?_; rintro e w3 ⟨rfl, hb3⟩))
  go_ret
  exact ⟨rfl, (hb1.trans (hb2.mono hb1.size)).trans (hb3.mono (Nat.le_trans hb1.size hb2.size))⟩
theorem walkPackWide (n m : Int) (w : World) (_ : -9223372036854775808 ≤ n ∧ n ≤ 9223372036854775807) (_ : -9223372036854775808 ≤ m ∧ m ≤ 9223372036854775807) :
    Calls Try.prog 7 #[.int .i64 n, .int .i64 m] w fun e w' => e = .returned (.bool true) ∧ Below w.heap.size w w' := by
  by_cases h1 : 1 ≤ m
  · by_cases h2 : m ≤ 5
    · rcases hf : fitsB n m with _ | _
      · go_enter Try.func7, Try.ntmps7
        go_wp2_with (first
          | (go_at_call 14; refine (fits_any _ _ _).mono ?_; rintro e w' ⟨rfl, rfl⟩)
          | (go_at_call 9; refine (wakes_any _).mono ?_; rintro e w3 ⟨rfl, hb3⟩))
        go_ret
        exact ⟨rfl, hb3⟩
      · obtain ⟨k, rfl⟩ := Int.eq_ofNat_of_zero_le (show 0 ≤ m by omega)
        exact wide_in n k w (by omega) (by omega) hf
    · go_enter Try.func7, Try.ntmps7
      go_wp2_with (go_at_call 9; refine (wakes_any _).mono ?_; rintro e w3 ⟨rfl, hb3⟩)
      go_ret
      exact ⟨rfl, hb3⟩
  · go_enter Try.func7, Try.ntmps7
    go_wp2_with (go_at_call 9; refine (wakes_any _).mono ?_; rintro e w3 ⟨rfl, hb3⟩)
    go_ret
    exact ⟨rfl, hb3⟩
end Go.Proofs.Ythkelpnjfggmcaa
