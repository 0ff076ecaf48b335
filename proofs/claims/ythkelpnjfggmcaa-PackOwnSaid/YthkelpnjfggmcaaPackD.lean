/- What is proved: wakes (the statements' own example of a handle, a word and a number in bytes) returns true, and nothing that was there before the call turns. -/
import Derived.Test.YthkelpnjfggmcaaPackC
namespace Go.Proofs.Ythkelpnjfggmcaa
open Go.RowKit

theorem run_str {P : Program} {src dst e : TypeId} (hs : P.underlying src = some (.slice e)) (he : P.underlying e = some (.int .u8)) (hd : P.underlying dst = some .string)
    {w : World} {B : Nat} {a : Option Addr} {n : Nat} {xs : List Int} (h : Rd w B a n (u8s xs)) (c : Nat) : (convert src dst (.slice a n c)).run P w = .ok (.string (strOfNums xs)) w := by
  obtain ⟨h1, h2⟩ := h
  rw [u8s_length] at h1
  rcases h2 with h0 | ⟨g, o, rfl, _, hc⟩
  · subst h0
    obtain rfl : xs = [] := List.eq_nil_of_length_eq_zero h1
    rcases a with _ | b
    · rw [run_convert_bytes_nil w src e hs he 0 c dst hd]
      rfl
    · rw [run_convert_bytes_string w src dst e _ 0 c hs he hd, run_bytesToString w _ 0 c [] (by simpa using run_loadCells_list (P := P) w b [] (fun j v hj => by simp at hj))]
      rfl
  · refine run_convert_bytes_arg w src e hs he g o n c xs h1 (fun i hi => ?_) dst hd
    exact hc i _ (by simp [u8s, List.getD_eq_getElem?_getD, show i < xs.length by omega])

theorem str_list (xs : List Int) : (strOfNums xs).toList = xs.map fun n => UInt8.ofNat n.toNat := by rw [ByteArray.toList_eq]; rfl
theorem ok259 (w : World) : Calls Try.prog 16 #[.int .i64 1, .int .i64 3] w fun e w' => e = .returned (.tuple #[.int .i64 259, .int .i64 0]) ∧ w = w' := handle_ok 1 3 w (by decide) (by decide) (by decide) (by decide)
theorem ok2097411 (w : World) : Calls Try.prog 17 #[.int .i64 2, .int .i64 259] w fun e w' => e = .returned (.tuple #[.int .i64 2097411, .int .i64 0]) ∧ w = w' := word_ok 2 259 w (by decide) (by decide) (by decide)
theorem okP (w : World) : Calls Try.prog 18 #[.int .i64 2097411] w fun e w' => e = .returned (.int .i64 2) ∧ w = w' := place_any 2097411 w
theorem okS (w : World) : Calls Try.prog 20 #[.int .i64 2097411] w fun e w' => e = .returned (.int .i64 3) ∧ w = w' := slot_any 2097411 w
theorem okG (w : World) : Calls Try.prog 19 #[.int .i64 2097411] w fun e w' => e = .returned (.int .i64 1) ∧ w = w' := gen_any 2097411 w
theorem okB (w : World) : Calls Try.prog 21 #[.int .i64 2097411] w fun e w' => e = .returned (.int .i64 259) ∧ w = w' := bare_any 2097411 w
theorem okPut (w : World) : Calls Try.prog 10 #[.slice (some ⟨w.heap.size, 0, none⟩) 1 1, .int .i64 258, .int .i64 2] (w.alloc (.cells #[.int .u8 9] 5)) fun e w' =>
    ∃ a c, e = .returned (.tuple #[.slice a 3 c, .int .i64 0]) ∧ Rd w' w'.heap.size a 3 (u8s [9, 2, 1]) ∧ Below w.heap.size w w' := by
  have hr : Rd (w.alloc (.cells #[.int .u8 9] 5)) (w.alloc (.cells #[.int .u8 9] 5)).heap.size (some ⟨w.heap.size, 0, none⟩) 1 (u8s [9]) := by
    refine ⟨rfl, .inr ⟨w.heap.size, 0, rfl, by simp, fun j u hu => ?_⟩⟩
    have := cell_one_new w (.int .u8 9) 5 j u hu
    rwa [Addr.add_lit] at this
  refine (put_ok (some ⟨w.heap.size, 0, none⟩) 1 1 [9] 258 2 _ (by decide) (by decide) (by decide) (by decide) hr (by decide) (by decide)).mono ?_
  rintro e w' ⟨v, rfl, hown, hbel⟩
  obtain ⟨a, c, rfl, _, _, hrd⟩ := Rd.own hown
  exact ⟨a, c, rfl, hrd, ((Below.refl _ _).alloc (Nat.le_refl _) _).trans (hbel.mono (by simp))⟩

set_option maxHeartbeats 400000 in
theorem wakes_any (w : World) : Calls Try.prog 9 #[] w fun e w' => e = .returned (.bool true) ∧ Below w.heap.size w w' := by
  go_enter Try.func9, Try.ntmps9
  go_wp2_with (first
    | (go_at_call 16; refine (ok259 _).mono ?_; rintro e w' ⟨rfl, rfl⟩)
    | (go_at_call 17; refine (ok2097411 _).mono ?_; rintro e w' ⟨rfl, rfl⟩)
    | (go_at_call 18; refine (okP _).mono ?_; rintro e w' ⟨rfl, rfl⟩)
    | (go_at_call 20; refine (okS _).mono ?_; rintro e w' ⟨rfl, rfl⟩)
    | (go_at_call 19; refine (okG _).mono ?_; rintro e w' ⟨rfl, rfl⟩)
    | (go_at_call 21; refine (okB _).mono ?_; rintro e w' ⟨rfl, rfl⟩)
    | (go_at_call 10; refine (okPut _).mono ?_; rintro e w' ⟨a, c, rfl, hrd, hbel⟩; have hstr := run_str Try.underlying22 Try.underlying5 Try.underlying9 hrd c))
  go_ret
  exact ⟨ret_bool (by rw [str_list]; rfl), hbel⟩
end Go.Proofs.Ythkelpnjfggmcaa
