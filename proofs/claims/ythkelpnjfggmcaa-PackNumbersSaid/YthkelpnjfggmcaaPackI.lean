/- What is proved: the walk of PackNumbers: it returns true at any bytes and any three ints, and nothing that was there before the call turns. -/
import Derived.Test.YthkelpnjfggmcaaPackH
namespace Go.Proofs.Ythkelpnjfggmcaa
open Go.RowKit

/-- What Put hands back, whichever way it goes: a slice that reads as bs, and an error ef. -/
def PutAns (xs : List Int) (n m : Int) (bs : List Int) (ef : Int) : Prop := (fitsB n m = true ∧ bs = xs ++ le n m.toNat ∧ ef = 0) ∨ (fitsB n m = false ∧ bs = [] ∧ ef = 2)
theorem putAns_ex (xs : List Int) (n m : Int) : ∃ bs ef, PutAns xs n m bs ef := by
  rcases h : fitsB n m with _ | _
  · exact ⟨_, _, .inr ⟨h, rfl, rfl⟩⟩
  · exact ⟨_, _, .inl ⟨h, rfl, rfl⟩⟩
theorem put_ans {a : Option Addr} {l c : Nat} {xs : List Int} {n m : Int} {bs : List Int} {ef : Int} (h : PutAns xs n m bs ef) (w : World) (hr : Rd w w.heap.size a l (u8s xs)) (hlc : l ≤ c) (hl : l ≤ 2000) :
    Calls Try.prog 10 #[.slice a l c, .int .i64 n, .int .i64 m] w fun e w' =>
      ∃ a' l' c', e = .returned (.tuple #[.slice a' l' c', .int .i64 ef]) ∧ Rd w' w'.heap.size a' l' (u8s bs) ∧ l' ≤ c' ∧ c' ≤ maxLen ∧ Below w.heap.size w w' := by
  rcases h with ⟨hf, rfl, rfl⟩ | ⟨hf, rfl, rfl⟩
  · obtain ⟨h1, _, _, _⟩ := fits_yes hf
    obtain ⟨k, rfl⟩ := Int.eq_ofNat_of_zero_le (show 0 ≤ m by omega)
    refine (put_rd a l c xs n k w hf hr hlc (by omega)).mono ?_
    rintro e w' ⟨a', c', rfl, h1, h2, h3, h4⟩
    exact ⟨_, _, _, rfl, h1, h2, h3, h4⟩
  · refine (put_no a l c n m w hf).mono ?_
    rintro e w' ⟨rfl, rfl⟩
    exact ⟨_, _, _, rfl, Rd.nil _ _ _, Nat.le_refl _, Nat.zero_le _, Below.refl _ _⟩
theorem rput_ans {a : Option Addr} {l c : Nat} {xs : List Int} {n m : Int} {bs : List Int} {ef : Int} (h : PutAns xs n m bs ef) (w : World) (hn : n ≤ 9223372036854775807) (hr : Rd w w.heap.size a l (u8s xs)) (hl : l ≤ 2000) :
    Calls Try.prog 11 #[.slice a l c, .int .i64 n, .int .i64 m] w fun e w' =>
      ∃ a' l' c', e = .returned (.tuple #[.slice a' l' c', .int .i64 ef]) ∧ Rd w' w'.heap.size a' l' (u8s bs) ∧ l' ≤ c' ∧ c' ≤ maxLen ∧ Below w.heap.size w w' := by
  rcases h with ⟨hf, rfl, rfl⟩ | ⟨hf, rfl, rfl⟩
  · obtain ⟨h1, _, _, _⟩ := fits_yes hf
    obtain ⟨k, rfl⟩ := Int.eq_ofNat_of_zero_le (show 0 ≤ m by omega)
    refine (rput_rd a l c xs n k w hn hf hr (by omega)).mono ?_
    rintro e w' ⟨a', c', rfl, h1, h2, h3, h4⟩
    exact ⟨_, _, _, rfl, h1, h2, h3, h4⟩
  · refine (rput_no a l c n m w hn hf).mono ?_
    rintro e w' ⟨rfl, rfl⟩
    exact ⟨_, _, _, rfl, Rd.nil _ _ _, Nat.le_refl _, Nat.zero_le _, Below.refl _ _⟩
/-- What Get hands back. -/
def GetAns (xs : List Int) (p m : Int) (u g : Int) : Prop :=
  (isW m = false ∧ u = 0 ∧ g = 2) ∨ (isW m = true ∧ (p < 0 ∨ (xs.length : Int) - m < p) ∧ u = 0 ∧ g = 50) ∨
  (isW m = true ∧ 0 ≤ p ∧ p + m ≤ xs.length ∧ u = num ((xs.drop p.toNat).take m.toNat) ∧ g = 0)
theorem getAns_ex (xs : List Int) (p m : Int) : ∃ u g, GetAns xs p m u g := by
  rcases h : isW m with _ | _
  · exact ⟨_, _, .inl ⟨h, rfl, rfl⟩⟩
  · by_cases hp : p < 0 ∨ (xs.length : Int) - m < p
    · exact ⟨_, _, .inr (.inl ⟨h, hp, rfl, rfl⟩)⟩
    · exact ⟨_, _, .inr (.inr ⟨h, by omega, by omega, rfl, rfl⟩)⟩
theorem get_ans {a : Option Addr} {l c : Nat} {xs : List Int} {p m u g : Int} (h : GetAns xs p m u g) (w : World) (hr : Rd w w.heap.size a l (u8s xs)) (hx : IsBytes xs) (hlc : l ≤ c) (hl : l ≤ 2000) :
    Calls Try.prog 12 #[.slice a l c, .int .i64 p, .int .i64 m] w fun e w' => e = .returned (.tuple #[.int .i64 u, .int .i64 g]) ∧ w = w' := by
  have hlen : xs.length = l := by rw [← hr.1]; exact (u8s_length xs).symm
  rcases h with ⟨hf, rfl, rfl⟩ | ⟨hf, hp, rfl, rfl⟩ | ⟨hf, h0, hp, rfl, rfl⟩
  · exact get_arg a l c p m w hf
  · exact get_code a l c p m w hf (by omega) (by omega)
  · have hm : 1 ≤ m ∧ m ≤ 6 := of_decide_eq_true hf
    exact get_int a l c xs p m w hm.1 hm.2 h0 hr hx hlc (by omega) (by omega)
theorem rget_ans {a : Option Addr} {l c : Nat} {xs : List Int} {p m u g : Int} (h : GetAns xs p m u g) (w : World) (hr : Rd w w.heap.size a l (u8s xs)) (hx : IsBytes xs) (hl : l ≤ 2000) :
    Calls Try.prog 13 #[.slice a l c, .int .i64 p, .int .i64 m] w fun e w' => e = .returned (.tuple #[.int .i64 u, .int .i64 g]) ∧ w = w' := by
  have hlen : xs.length = l := by rw [← hr.1]; exact (u8s_length xs).symm
  rcases h with ⟨hf, rfl, rfl⟩ | ⟨hf, hp, rfl, rfl⟩ | ⟨hf, h0, hp, rfl, rfl⟩
  · exact rget_arg a l c p m w hf
  · exact rget_code a l c p m w hf (by omega) (by omega)
  · have hm : 1 ≤ m ∧ m ≤ 6 := of_decide_eq_true hf
    obtain ⟨q, rfl⟩ := Int.eq_ofNat_of_zero_le h0
    obtain ⟨k, rfl⟩ := Int.eq_ofNat_of_zero_le (show 0 ≤ m by omega)
    rw [Int.toNat_natCast, Int.toNat_natCast]
    exact rget_ok a l c xs q k w (by omega) (by omega) hr hx (by omega) (by omega)

set_option maxHeartbeats 400000 in
theorem walkPackNumbers (a : Option Addr) (l c : Nat) (xs : List Int) (n m p : Int) (w : World) (hi : In8 w a l c xs) (hn : -9223372036854775808 ≤ n ∧ n ≤ 9223372036854775807) (_ : -9223372036854775808 ≤ m ∧ m ≤ 9223372036854775807) (_ : -9223372036854775808 ≤ p ∧ p ≤ 9223372036854775807) :
    Calls Try.prog 3 #[.slice a l c, .int .i64 n, .int .i64 m, .int .i64 p] w fun e w' => e = .returned (.bool true) ∧ Below w.heap.size w w' := by
  have hcm := hi.2.2
  have hl2 : l ≤ 9223372036854775807 := by have := hcm.1; have := hcm.2; unfold maxLen at this; omega
  by_cases h1 : l ≤ 2000
  · obtain ⟨hr, hx, hlc, _⟩ := hi
    obtain ⟨bs, ef, hA⟩ := putAns_ex xs n m
    obtain ⟨u, g, hG⟩ := getAns_ex xs p m
    have HX := Lib.hid hx
    have hn2 := hn.2
    clear hcm hn hx
    go_enter Try.func3, Try.ntmps3
    go_wp2_with fail
    refine (put_ans hA _ hr hlc h1).mono ?_
    rintro e w1 ⟨a1, l1, c1, rfl, hr1, hc1, hm1, hb1⟩
    have hrw1 := (hr.far hb1).up hb1.size
    go_wp2_with fail
    refine (rput_ans hA _ hn2 hrw1 h1).mono ?_
    rintro e w2 ⟨a2, l2, c2, rfl, hr2, hc2, hm2, hb2⟩
    have hrw2 := (hrw1.far hb2).up hb2.size
    go_wp2_with fail
    refine (get_ans hG _ hrw2 HX.out hlc h1).mono ?_
    rintro e w' ⟨rfl, rfl⟩
    go_wp2_with fail
    refine (rget_ans hG _ hrw2 HX.out h1).mono ?_
    rintro e w' ⟨rfl, rfl⟩
    have hs1 := run_str Try.underlying22 Try.underlying5 Try.underlying9 (hr1.far hb2) c1
    have hs2 := run_str Try.underlying22 Try.underlying5 Try.underlying9 hr2 c2
    go_wp2_with (first
      | (go_at_call 14; refine (fits_any _ _ _).mono ?_; rintro e w' ⟨rfl, rfl⟩)
      | (go_at_call 15; refine (rfits_any _ _ _ hn2).mono ?_; rintro e w' ⟨rfl, rfl⟩)
      | (go_at_call 9; refine (wakes_any _).mono ?_; rintro e w3 ⟨rfl, hb3⟩))
    go_ret
    exact ⟨rfl, (hb1.trans (hb2.mono hb1.size)).trans (hb3.mono (Nat.le_trans hb1.size hb2.size))⟩
  · clear hi hcm hn
    go_enter Try.func3, Try.ntmps3
    go_wp2_with (go_at_call 9; refine (wakes_any _).mono ?_; rintro e w3 ⟨rfl, hb3⟩)
    go_ret
    exact ⟨rfl, hb3⟩
end Go.Proofs.Ythkelpnjfggmcaa
