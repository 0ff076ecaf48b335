/- What is proved: the walk of PackDigits: it returns true at any bytes and any two ints, and nothing that was there before the call turns. -/
import Derived.Test.YthkelpnjfggmcaaPackD
import Derived.Test.YthkelpnjfggmcaaFrame
namespace Go.Proofs.Ythkelpnjfggmcaa
open Go.RowKit

theorem get_int (a : Option Addr) (l c : Nat) (xs : List Int) (p m : Int) (w : World) (hm1 : 1 ≤ m) (hm6 : m ≤ 6) (hp0 : 0 ≤ p) (hr : Rd w w.heap.size a l (u8s xs)) (hx : IsBytes xs) (hlc : l ≤ c) (hl : l ≤ 1000000) (hp : p + m ≤ l) :
    Calls Try.prog 12 #[.slice a l c, .int .i64 p, .int .i64 m] w fun e w' =>
      e = .returned (.tuple #[.int .i64 (num ((xs.drop p.toNat).take m.toNat)), .int .i64 0]) ∧ w = w' := by
  obtain ⟨q, rfl⟩ := Int.eq_ofNat_of_zero_le hp0
  obtain ⟨k, rfl⟩ := Int.eq_ofNat_of_zero_le (show 0 ≤ m by omega)
  rw [Int.toNat_natCast, Int.toNat_natCast]
  exact get_ok a l c xs q k w (by omega) (by omega) hr hx hlc hl (by omega)
theorem isW_yes {m : Int} (h1 : 1 ≤ m) (h2 : m ≤ 6) : isW m = true := decide_eq_true ⟨h1, h2⟩

theorem num_digits (xs : List Int) (p m : Int) (hp : 0 ≤ p) (hm : 2 ≤ m) (h : p + m ≤ xs.length) :
    num ((xs.drop p.toNat).take m.toNat) = num ((xs.drop p.toNat).take (1 : Int).toNat) + 256 * num ((xs.drop (p + 1).toNat).take (m - 1).toNat) := by
  obtain ⟨q, rfl⟩ := Int.eq_ofNat_of_zero_le hp
  obtain ⟨k, rfl⟩ := Int.eq_ofNat_of_zero_le (show 0 ≤ m by omega)
  obtain ⟨j, rfl⟩ : ∃ j, k = j + 1 := ⟨k - 1, by omega⟩
  rw [show ((q : Int) + 1).toNat = q + 1 by omega, show (((j + 1 : Nat) : Int) - 1).toNat = j by omega, Int.toNat_natCast, Int.toNat_natCast]
  have hd : xs.drop q = xs[q]'(by omega) :: xs.drop (q + 1) := List.drop_eq_getElem_cons (by omega)
  rw [hd]
  clear hd
  generalize xs[q] = b
  generalize xs.drop (q + 1) = r
  simp [num]

set_option maxHeartbeats 400000 in
theorem digits_in (a : Option Addr) (l c : Nat) (xs : List Int) (p m : Int) (w : World) (hi : In8 w a l c xs) (hl : l ≤ 2000) (hm : 2 ≤ m) (hm6 : m ≤ 6) (hp : 0 ≤ p) (hp2 : p ≤ 2000) :
    Calls Try.prog 8 #[.slice a l c, .int .i64 p, .int .i64 m] w fun e w' => e = .returned (.bool true) ∧ Below w.heap.size w w' := by
  obtain ⟨hr, hx, hlc, hcm⟩ := hi
  have hlen : xs.length = l := by rw [← hr.1]; exact (u8s_length xs).symm
  by_cases hin : p + m ≤ l
  · have hd := num_digits xs p m hp hm (by omega)
    have C1 := Lib.hid (get_int a l c xs p m w (by omega) hm6 hp hr hx hlc (by omega) hin)
    have C2 := Lib.hid (get_int a l c xs p 1 w (by omega) (by omega) hp hr hx hlc (by omega) (by omega))
    have C3 := Lib.hid (get_int a l c xs (p + 1) (m - 1) w (by omega) (by omega) (by omega) hr hx hlc (by omega) (by omega))
    have b1 := num_bd _ (isBytes_part hx p.toNat (1 : Int).toNat)
    have b2 := num_bd _ (isBytes_part hx (p + 1).toNat (m - 1).toNat)
    have l1 : ((xs.drop p.toNat).take (1 : Int).toNat).length ≤ 5 := by simp; omega
    have l2 : ((xs.drop (p + 1).toNat).take (m - 1).toNat).length ≤ 5 := by simp; omega
    have q1 := pow256_le _ l1
    have q2 := pow256_le _ l2
    generalize num ((xs.drop p.toNat).take m.toNat) = N at *
    generalize num ((xs.drop p.toNat).take (1 : Int).toNat) = N1 at *
    generalize num ((xs.drop (p + 1).toNat).take (m - 1).toNat) = N2 at *
    have r1 : 0 ≤ N1 ∧ N1 ≤ 1099511627776 := by omega
    have r2 : 0 ≤ N2 ∧ N2 ≤ 1099511627776 := by omega
    have hd' : (N == N1 + 256 * N2) = true := beq_iff_eq.2 hd
    clear b1 b2 l1 l2 q1 q2 hd hlen hr hx hcm
    obtain ⟨r11, r12⟩ := r1
    obtain ⟨r21, r22⟩ := r2
    go_enter Try.func8, Try.ntmps8
    go_wp2_with fail
    refine C1.out.mono ?_
    rintro e w' ⟨rfl, rfl⟩
    go_wp2_with fail
    refine C2.out.mono ?_
    rintro e w' ⟨rfl, rfl⟩
    go_wp2_with fail
    refine C3.out.mono ?_
    rintro e w' ⟨rfl, rfl⟩
    go_wp2_with (go_at_call 9; refine (wakes_any _).mono ?_; rintro e w3 ⟨rfl, hb3⟩)
    go_ret
    exact ⟨rfl, hb3⟩
  · have C1 := Lib.hid (get_code a l c p m w (isW_yes (by omega) hm6) (by omega) (.inr (by omega)))
    have C3 := Lib.hid (get_code a l c (p + 1) (m - 1) w (isW_yes (by omega) (by omega)) (by omega) (.inr (by omega)))
    by_cases h1 : p + 1 ≤ l
    · have C2 := Lib.hid (get_int a l c xs p 1 w (by omega) (by omega) hp hr hx hlc (by omega) h1)
      clear hlen hr hx hcm hin
      go_enter Try.func8, Try.ntmps8
      go_wp2_with fail
      refine C1.out.mono ?_
      rintro e w' ⟨rfl, rfl⟩
      go_wp2_with fail
      refine C2.out.mono ?_
      rintro e w' ⟨rfl, rfl⟩
      go_wp2_with fail
      refine C3.out.mono ?_
      rintro e w' ⟨rfl, rfl⟩
      go_wp2_with (go_at_call 9; refine (wakes_any _).mono ?_; rintro e w3 ⟨rfl, hb3⟩)
      go_ret
      exact ⟨rfl, hb3⟩
    · have C2 := Lib.hid (get_code a l c p 1 w (isW_yes (by omega) (by omega)) (by omega) (.inr (by omega)))
      clear hlen hr hx hcm hin
      go_enter Try.func8, Try.ntmps8
      go_wp2_with fail
      refine C1.out.mono ?_
      rintro e w' ⟨rfl, rfl⟩
      go_wp2_with fail
      refine C2.out.mono ?_
      rintro e w' ⟨rfl, rfl⟩
      go_wp2_with fail
      refine C3.out.mono ?_
      rintro e w' ⟨rfl, rfl⟩
      go_wp2_with (go_at_call 9; refine (wakes_any _).mono ?_; rintro e w3 ⟨rfl, hb3⟩)
      go_ret
      exact ⟨rfl, hb3⟩
theorem walkPackDigits (a : Option Addr) (l c : Nat) (xs : List Int) (p m : Int) (w : World) (hi : In8 w a l c xs) (_ : -9223372036854775808 ≤ p ∧ p ≤ 9223372036854775807) (_ : -9223372036854775808 ≤ m ∧ m ≤ 9223372036854775807) :
    Calls Try.prog 8 #[.slice a l c, .int .i64 p, .int .i64 m] w fun e w' => e = .returned (.bool true) ∧ Below w.heap.size w w' := by
  by_cases h1 : l ≤ 2000
  · by_cases h2 : 2 ≤ m
    · by_cases h3 : m ≤ 6
      · by_cases h4 : 0 ≤ p
        · by_cases h5 : p ≤ 2000
          · exact digits_in a l c xs p m w hi h1 h2 h3 h4 h5
          · clear hi
            go_enter Try.func8, Try.ntmps8
            go_wp2_with (go_at_call 9; refine (wakes_any _).mono ?_; rintro e w3 ⟨rfl, hb3⟩)
            go_ret
            exact ⟨rfl, hb3⟩
        · clear hi
          go_enter Try.func8, Try.ntmps8
          go_wp2_with (go_at_call 9; refine (wakes_any _).mono ?_; rintro e w3 ⟨rfl, hb3⟩)
          go_ret
          exact ⟨rfl, hb3⟩
      · clear hi
        go_enter Try.func8, Try.ntmps8
        go_wp2_with (go_at_call 9; refine (wakes_any _).mono ?_; rintro e w3 ⟨rfl, hb3⟩)
        go_ret
        exact ⟨rfl, hb3⟩
    · clear hi
      go_enter Try.func8, Try.ntmps8
      go_wp2_with (go_at_call 9; refine (wakes_any _).mono ?_; rintro e w3 ⟨rfl, hb3⟩)
      go_ret
      exact ⟨rfl, hb3⟩
  · have hcm := hi.2.2
    have hl2 : l ≤ 9223372036854775807 := by have := hcm.1; have := hcm.2; unfold maxLen at this; omega
    clear hi hcm
    go_enter Try.func8, Try.ntmps8
    go_wp2_with (go_at_call 9; refine (wakes_any _).mono ?_; rintro e w3 ⟨rfl, hb3⟩)
    go_ret
    exact ⟨rfl, hb3⟩
end Go.Proofs.Ythkelpnjfggmcaa
