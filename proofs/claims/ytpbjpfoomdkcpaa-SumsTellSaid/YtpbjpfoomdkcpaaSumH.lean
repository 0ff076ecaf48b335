/- What is proved: the walk of SumsTell: it returns true at every input, and nothing that was there before the call turns. -/
import Derived.Test.YtpbjpfoomdkcpaaSumG
namespace Go.Proofs.Ytpbjpfoomdkcpaa
open Go.RowKit

set_option maxHeartbeats 16000000 in
theorem tell_in (a : Option Addr) (l c : Nat) (xs : List Int) (b : Option Addr) (k d : Nat) (ys : List Int) (n : B32) (w : World) (hi : In8 w a l c xs) (hj : In8 w b k d ys) (hl : l + k ≤ 4000) :
    Calls Try.prog 3 #[.slice a l c, .slice b k d, .int .u32 (iu n)] w fun e w' => e = .returned (.bool true) ∧ Below w.heap.size w w' := by
  obtain ⟨hr, hx, hlc, hcm⟩ := hi
  obtain ⟨hr', hy, hkd, hdm⟩ := hj
  have HX := Lib.hid hx
  have HY := Lib.hid hy
  have hop := open_any a l c xs w hr hx hlc (by omega)
  clear hx hy
  go_enter Try.func3, Try.ntmps3
  go_wp2_with fail
  refine hop.mono ?_
  rintro e w1 ⟨a1, n1, c1, rfl, hr1, hc1, hn1, hb1⟩
  have hop2 := ropen_any a l c xs w1 ((hr.far hb1).up hb1.size) HX.out hlc (by omega)
  clear hop
  go_wp2_with fail
  refine hop2.mono ?_
  rintro e w2 ⟨a2, n2, c2, rfl, hr2, hc2, hn2, hb2⟩
  have hb12 := hb1.trans (hb2.mono hb1.size)
  have h12 : n2 = n1 := by rw [← hr2.1, ← hr1.1]
  subst h12
  have hr1' := (hr1.far hb2).up hb2.size
  have hra := (hr.far hb12).up hb12.size
  have hrb := (hr'.far hb12).up hb12.size
  clear hop2 hr1 hr hr' hb1 hb2
  generalize opened xs = os at *
  generalize errOf xs = en at *
  go_wp2_with fail
  go_region_with (first
    | (go_at_call 10; refine (step_walk _ _).mono ?_; rintro e w' ⟨rfl, rfl⟩)
    | (go_at_call 11; refine (rstep_walk _ _).mono ?_; rintro e w' ⟨rfl, rfl⟩)
    | (go_at_call 12; refine (sum_walk a l c xs _ ?_ HX.out (by omega)).mono ?_; exact Rd.drew_ hra; rintro e w' ⟨rfl, rfl⟩)
    | (go_at_call 13; refine (rsum_walk a l c xs _ ?_ HX.out (by omega)).mono ?_; exact Rd.drew_ hra; rintro e w' ⟨rfl, rfl⟩)
    | (go_at_call 14; refine (more_walk n b k d ys _ ?_ HY.out (by omega)).mono ?_; exact Rd.drew_ hrb; rintro e w' ⟨rfl, rfl⟩)
    | (go_at_call 15; refine (rmore_walk n b k d ys _ ?_ HY.out (by omega)).mono ?_; exact Rd.drew_ hrb; rintro e w' ⟨rfl, rfl⟩)
    | (go_at_call 16; refine (seal_walk a l c xs _ ?_ HX.out (by omega)).mono ?_; exact Rd.drew_ hra; rintro e w3 ⟨a3, c3, rfl, hr3, _, _, hb3⟩; have hra3 := (hra.far (((Below.refl _ w2).drew).trans hb3)).up (((Below.refl w2.heap.size w2).drew).trans hb3).size; have hs3 := run_str Try.underlying22 Try.underlying5 Try.underlying9 hr3 c3)
    | (go_at_call 17; refine (rseal_walk a l c xs _ ?_ HX.out (by omega)).mono ?_; exact hra3; rintro e w4 ⟨a4, c4, rfl, hr4, _, _, hb4⟩; have hs4 := run_str Try.underlying22 Try.underlying5 Try.underlying9 hr4 c4; have hs5 := run_str Try.underlying22 Try.underlying5 Try.underlying9 (hr3.far hb4) c3; have hb5 := (((Below.refl w2.heap.size w2).drew).trans hb3).trans (hb4.mono hb3.size); have hs6 := run_str Try.underlying22 Try.underlying5 Try.underlying9 (hr1'.far hb5) c1; have hs7 := run_str Try.underlying22 Try.underlying5 Try.underlying9 (hr2.far hb5) c2)
    | (go_at_call 7; refine (wakes_any _).mono ?_; rintro e w' ⟨rfl, rfl⟩))
  all_goals
    clear hs3 hs4 hs5 hs6 hs7 hr3 hr4 hra3 hra hrb hr1' hr2
    go_wp2
    go_ret
    exact ⟨rfl, hb12.trans (hb5.mono hb12.size)⟩
theorem walkSumsTell (a : Option Addr) (l c : Nat) (xs : List Int) (b : Option Addr) (k d : Nat) (ys : List Int) (n : Int) (w : World) (hi : In8 w a l c xs) (hj : In8 w b k d ys) (hn : 0 ≤ n ∧ n ≤ 4294967295) :
    Calls Try.prog 3 #[.slice a l c, .slice b k d, .int .u32 n] w fun e w' => e = .returned (.bool true) ∧ Below w.heap.size w w' := by
  by_cases h : l + k ≤ 4000
  · obtain ⟨x, rfl⟩ := iu_of n hn
    exact tell_in a l c xs b k d ys x w hi hj h
  · have hl2 : l ≤ 140737488351232 := by have := hi.2.2.1; have := hi.2.2.2; omega
    have hk2 : k ≤ 140737488351232 := by have := hj.2.2.1; have := hj.2.2.2; omega
    clear hi hj
    go_enter Try.func3, Try.ntmps3
    go_wp2_with (go_at_call 7; refine (wakes_any _).mono ?_; rintro e w' ⟨rfl, rfl⟩)
    go_ret
    exact ⟨rfl, Below.refl _ _⟩
end Go.Proofs.Ytpbjpfoomdkcpaa
