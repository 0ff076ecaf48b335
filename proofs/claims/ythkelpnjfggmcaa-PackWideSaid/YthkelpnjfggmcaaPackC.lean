/- What is proved: the contracts of package pack's Get: what it returns over any slice that reads as numbers of a byte, for any place and any width; nothing in the world turns. -/
import Derived.Test.YthkelpnjfggmcaaPackB
namespace Go.Proofs.Ythkelpnjfggmcaa
open Go.RowKit

/-- The number whose bytes these are, the lowest first. -/
def num : List Int → Int
  | [] => 0
  | b :: r => b + 256 * num r
theorem num_snoc (ys : List Int) (c : Int) : num (ys ++ [c]) = num ys + c * 256 ^ ys.length := by
  induction ys with
  | nil => simp [num]
  | cons b r ih =>
    simp only [List.cons_append, num, ih, List.length_cons, Int.pow_succ]
    rw [Int.mul_add, ← Int.add_assoc]
    congr 1
    rw [← Int.mul_assoc, Int.mul_comm 256 c, Int.mul_assoc, Int.mul_comm 256]
def IsBytes (xs : List Int) : Prop := ∀ b ∈ xs, 0 ≤ b ∧ b ≤ 255
theorem num_bd (ys : List Int) (h : IsBytes ys) : 0 ≤ num ys ∧ num ys < 256 ^ ys.length := by
  induction ys with
  | nil => simp [num]
  | cons b r ih =>
    have h1 := h b (by simp)
    have h2 := ih fun x hx => h x (by simp [hx])
    simp only [num, List.length_cons, Int.pow_succ]
    omega

theorem or_comm64 (a b : Int) : bits .or .i64 a b = bits .or .i64 b a := by simp only [bits, BitVec.or_comm]
theorem pow256_le (k : Nat) (h : k ≤ 5) : (256 : Int) ^ k ≤ 1099511627776 := by
  have : k = 0 ∨ k = 1 ∨ k = 2 ∨ k = 3 ∨ k = 4 ∨ k = 5 := by omega
  rcases this with rfl | rfl | rfl | rfl | rfl | rfl <;> decide
theorem take_drop_snoc (xs : List Int) (p k : Nat) (h : p + k < xs.length) : (xs.drop p).take (k + 1) = (xs.drop p).take k ++ [xs[p + k]?.getD 0] := by
  rw [List.take_succ_eq_append_getElem (by simp; omega)]
  simp [h]
theorem byte_at {xs : List Int} (hx : IsBytes xs) (j : Nat) : 0 ≤ xs[j]?.getD 0 ∧ xs[j]?.getD 0 ≤ 255 := by
  rcases h : xs[j]? with _ | b
  · simp
  · exact hx b (List.mem_of_getElem? h)
theorem isBytes_part {xs : List Int} (hx : IsBytes xs) (p k : Nat) : IsBytes ((xs.drop p).take k) := fun b hb => hx b (List.mem_of_mem_drop (List.mem_of_mem_take hb))
theorem get_step (xs : List Int) (p k : Nat) (hk : k ≤ 5) (hx : IsBytes xs) (h : p + k < xs.length) :
    bits .or .i64 (num ((xs.drop p).take k)) (wrap64 (wrap64 (xs[p + k]?.getD 0) * 2 ^ (8 * k))) = num ((xs.drop p).take (k + 1)) := by
  have hc := byte_at hx (p + k)
  have hlen : ((xs.drop p).take k).length = k := by simp; omega
  have hn := num_bd _ (isBytes_part hx p k)
  rw [take_drop_snoc xs p k h, num_snoc]
  rw [hlen] at hn ⊢
  generalize xs[p + k]?.getD 0 = c at *
  generalize num ((xs.drop p).take k) = q at *
  have hp := pow256_le k hk
  have hp0 : (0 : Int) < 256 ^ k := Int.pow_pos (by decide)
  have e2 : ((2 ^ (8 * k) : Nat) : Int) = 256 ^ k := by rw [← pow8]; simp
  have hm1 : c * 256 ^ k ≤ 255 * 256 ^ k := Int.mul_le_mul_of_nonneg_right hc.2 (Int.le_of_lt hp0)
  have hm0 : 0 ≤ c * 256 ^ k := Int.mul_nonneg hc.1 (Int.le_of_lt hp0)
  rw [IntWalk.wrap64_in c (by omega), pow8, IntWalk.wrap64_in (c * 256 ^ k) (by omega), or_comm64, ← e2]
  rw [i64_join (8 * k) c q hc.1 (by rw [e2]; omega) hn.1 (by rw [e2]; exact hn.2) (by omega)]
  omega

theorem get_arg (a : Option Addr) (l c : Nat) (p m : Int) (w : World) (hf : isW m = false) :
    Calls Try.prog 12 #[.slice a l c, .int .i64 p, .int .i64 m] w fun e w' => e = .returned (.tuple #[.int .i64 0, .int .i64 2]) ∧ w = w' := by
  go_enter Try.func12, Try.ntmps12
  go_wp2_with (go_at_call 22; refine (isWidth_any _ _).mono ?_; rintro e w' ⟨rfl, rfl⟩)
  go_ret2
  exact ⟨rfl, rfl⟩
theorem get_code (a : Option Addr) (l c : Nat) (p m : Int) (w : World) (hf : isW m = true) (hl : l ≤ 1000000) (h : p < 0 ∨ (l : Int) - m < p) :
    Calls Try.prog 12 #[.slice a l c, .int .i64 p, .int .i64 m] w fun e w' => e = .returned (.tuple #[.int .i64 0, .int .i64 50]) ∧ w = w' := by
  have hm : 1 ≤ m ∧ m ≤ 6 := of_decide_eq_true hf
  obtain ⟨hm1, hm2⟩ := hm
  by_cases h0 : p < 0
  · clear h
    go_enter Try.func12, Try.ntmps12
    go_wp2_with (go_at_call 22; refine (isWidth_any _ _).mono ?_; rintro e w' ⟨rfl, rfl⟩)
    go_ret2
    exact ⟨rfl, rfl⟩
  · have h1 : (l : Int) - m < p := by omega
    clear h
    go_enter Try.func12, Try.ntmps12
    go_wp2_with (go_at_call 22; refine (isWidth_any _ _).mono ?_; rintro e w' ⟨rfl, rfl⟩)
    go_ret2
    exact ⟨rfl, rfl⟩

set_option maxHeartbeats 400000 in
theorem get_ok (a : Option Addr) (l c : Nat) (xs : List Int) (p m : Nat) (w : World) (hm1 : 1 ≤ m) (hm6 : m ≤ 6) (hr : Rd w w.heap.size a l (u8s xs)) (hx : IsBytes xs) (hlc : l ≤ c) (hl : l ≤ 1000000) (hp : p + m ≤ l) :
    Calls Try.prog 12 #[.slice a l c, .int .i64 p, .int .i64 m] w fun e w' =>
      e = .returned (.tuple #[.int .i64 (num ((xs.drop p).take m)), .int .i64 0]) ∧ w = w' := by
  have hw : isW m = true := by unfold isW; simp; omega
  obtain ⟨hr1, h0 | ⟨g, o, rfl, _, hc⟩⟩ := hr
  · omega
  have hlen : xs.length = l := by rw [← hr1]; exact (u8s_length xs).symm
  have HC := Lib.hid hc
  have HX := Lib.hid hx
  have HL := Lib.hid hlen
  have HR := Lib.hid hr1
  clear hc hx hlen hr1
  go_enter Try.func12, Try.ntmps12
  go_wp2_with (go_at_call 22; refine (isWidth_any _ _).mono ?_; rintro e w' ⟨rfl, rfl⟩)
  go_loop [8, 34] (fun x i => ∃ k : Nat, k ≤ m ∧ i = .int .i64 k ∧ x = .int .i64 (num ((xs.drop p).take k))) (fun _ i => m - (intOf i).toNat)
  case atStart => exact ⟨0, Nat.zero_le _, rfl, by simp [num]⟩
  case round =>
    obtain ⟨k, hk, rfl, rfl⟩ := hrel
    by_cases hlt : k < m
    · have hcell : w.cell? ⟨g, o + p + k, none⟩ = some (.int .u8 (xs.getD (p + k) 0)) := by
        have h1 : p + k < xs.length := by rw [HL.out]; omega
        rw [Nat.add_assoc]
        exact HC.out (p + k) _ (by simp [u8s, List.getD_eq_getElem?_getD, h1])
      go_wp2
      go_round
      case rel => exact ⟨k + 1, by omega, by go_num, by rw [get_step xs p k (by omega) HX.out (by rw [HL.out]; omega)]⟩
      case measure => simp [intOf]; omega
    · obtain rfl : k = m := by omega
      go_wp2
      go_ret2
      exact ⟨rfl, rfl⟩
end Go.Proofs.Ythkelpnjfggmcaa
