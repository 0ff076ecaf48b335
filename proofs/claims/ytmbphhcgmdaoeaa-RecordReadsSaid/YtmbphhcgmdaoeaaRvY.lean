/- What is proved: the contracts of the program's own pack.Put, Get (taken from PackB, PackC, PackF). -/
import Derived.Test.YtmbphhcgmdaoeaaReP
import Derived.Deep.QuietTactic
import Derived.BigQuiet
import Derived.StillTailTactics
namespace Go.Proofs.Ytmbphhcgmdaoeaa
open Go.RowKit

def isW (m : Int) : Bool := decide (1 ≤ m ∧ m ≤ 6)
theorem isWidth_any (m : Int) (w : World) :
    Calls Try.prog 76 #[.int .i64 m] w fun e w' => e = .returned (.bool (isW m)) ∧ w = w' := by
  unfold isW
  by_cases h1 : 1 ≤ m
  · by_cases h2 : m ≤ 6
    all_goals
      go_enter Try.func76, Try.ntmps76
      go_wp2
      go_ret
      exact ⟨ret_bool (by simp [h1, h2]), rfl⟩
  · go_enter Try.func76, Try.ntmps76
    go_wp2
    go_ret
    exact ⟨ret_bool (by simp; omega), rfl⟩
theorem pow8' (m : Int) (h : 0 ≤ m) : (2 : Int) ^ (8 * m).toNat = 256 ^ m.toNat := by
  obtain ⟨k, rfl⟩ := Int.eq_ofNat_of_zero_le h
  rw [← pow8]
  congr 1
theorem fits_any (n m : Int) (w : World) :
    Calls Try.prog 75 #[.int .i64 n, .int .i64 m] w fun e w' => e = .returned (.bool (fitsB n m)) ∧ w = w' := by
  by_cases h1 : 1 ≤ m ∧ m ≤ 6
  · have hw : isW m = true := by unfold isW; simpa using h1
    obtain ⟨h1, h2⟩ := h1
    by_cases h3 : 0 ≤ n
    · have hf : (n / 2 ^ (8 * m).toNat == 0) = fitsB n m := by
        unfold fitsB
        rw [pow8' m (by omega), Bool.eq_iff_iff, beq_iff_eq, div_pow_zero n _ h3]
        simp [h1, h2, h3]
      have HF := Lib.hid hf
      clear hf
      go_enter Try.func75, Try.ntmps75
      go_wp2_with (go_at_call 76; refine (isWidth_any _ _).mono ?_; rintro e w' ⟨rfl, rfl⟩)
      go_ret
      exact ⟨ret_bool HF.out, rfl⟩
    · have hf : fitsB n m = false := by unfold fitsB; simp; omega
      have HF := Lib.hid hf
      clear hf
      go_enter Try.func75, Try.ntmps75
      go_wp2_with (go_at_call 76; refine (isWidth_any _ _).mono ?_; rintro e w' ⟨rfl, rfl⟩)
      go_ret
      exact ⟨ret_bool HF.out.symm, rfl⟩
  · have hw : isW m = false := by unfold isW; simpa using h1
    have hf : fitsB n m = false := by unfold fitsB; simp; omega
    have HF := Lib.hid hf
    clear hf
    go_enter Try.func75, Try.ntmps75
    go_wp2_with (go_at_call 76; refine (isWidth_any _ _).mono ?_; rintro e w' ⟨rfl, rfl⟩)
    go_ret
    exact ⟨ret_bool HF.out.symm, rfl⟩
theorem put_no (a : Option Addr) (l c : Nat) (n m : Int) (w : World) (hf : fitsB n m = false) :
    Calls Try.prog 73 #[.slice a l c, .int .i64 n, .int .i64 m] w fun e w' => e = .returned (.tuple #[.slice none 0 0, .int .i64 2]) ∧ w = w' := by
  go_enter Try.func73, Try.ntmps73
  go_wp2_with (go_at_call 75; refine (fits_any _ _ _).mono ?_; rintro e w' ⟨rfl, rfl⟩)
  go_ret2
  exact ⟨rfl, rfl⟩
set_option maxHeartbeats 400000 in
theorem put_ok (a : Option Addr) (l c : Nat) (xs : List Int) (n : Int) (m : Nat) (w : World) (hf : fitsB n m = true) (hm1 : 1 ≤ m) (hm6 : m ≤ 6) (hn0 : 0 ≤ n) (hr : Rd w w.heap.size a l (u8s xs)) (hlc : l ≤ c) (hl : l ≤ 1000000) :
    Calls Try.prog 73 #[.slice a l c, .int .i64 n, .int .i64 m] w fun e w' =>
      ∃ v, e = .returned (.tuple #[v, .int .i64 0]) ∧ w'.ownsRow w.heap.size 5 1 v (l + m) (u8s (xs ++ le n m)) ∧ Below w.heap.size w w' := by
  obtain ⟨i0, hi, hz0, hz1, hz2⟩ := info_parts info_u8
  go_enter Try.func73, Try.ntmps73
  go_wp2_with (go_at_call 75; refine (fits_any _ _ _).mono ?_; rintro e w' ⟨rfl, rfl⟩)
  go_loopw [1, 8, 20] (fun x v i wr => ∃ k : Nat, k ≤ m ∧ i = .int .i64 k ∧ x = .int .i64 (n / 256 ^ k) ∧ PutR w 5 wr v (l + k) k (u8s (xs ++ le n k))) (fun _ _ i _ => m - (intOf i).toNat)
  case atStart => exact ⟨0, Nat.zero_le _, rfl, by simp, by simpa [le] using Has.start hr, fun h => absurd h (by decide)⟩
  case round =>
    obtain ⟨k, hk, rfl, rfl, hv⟩ := hrel
    have hpos : 0 ≤ n / 256 ^ k := Int.ediv_nonneg hn0 (Int.le_of_lt (Int.pow_pos (by decide)))
    have hs1 := div_step n k
    have hs2 := le_succ n k
    generalize hq : n / 256 ^ k = q at *
    have HS : Hid (q / 256 = n / 256 ^ (k + 1) ∧ le n (k + 1) = le n k ++ [q % 256]) := ⟨hs1, hs2⟩
    clear hq hs1 hs2
    by_cases hlt : k < m
    · go_wp2_with (at_builtin; refine wpList_append_has _ rfl (.tmp 22) (.tmp 25) _ rfl i0 (.int .u8 0) 1 Try.underlying34 hi hz0 hz1 hz2 rfl rfl (hv.1.alloc _) ⟨wr.heap.size, 0, none⟩ 1 1 [.int .u8 (q % 256)] rfl (by decide) rfl ?c1 ?c2 ?c3 ?c4 ?_)
      case c1 => exact cell_one_new _ _ _
      case c2 => intro u hu; simp at hu; subst hu; rfl
      case c3 => unfold maxLen; omega
      case c4 => omega
      intro v' w1 hbel1 hown1
      have hv1 : PutR w 5 w1 v' (l + (k + 1)) (k + 1) (u8s (xs ++ le n (k + 1))) := by
        refine (fun h => ⟨⟨hbel1, .inr h⟩, fun _ => h⟩) ?_
        rw [HS.out.2, ← List.append_assoc, u8s_append]
        exact hown1
      clear hv hbel1 hown1
      go_wp2
      go_roundw
      case rel => exact ⟨k + 1, by omega, by go_num, by rw [← HS.out.1], hv1⟩
      case measure => simp [intOf]; omega
    · obtain rfl : k = m := by omega
      go_wp2
      go_ret2
      exact ⟨_, rfl, hv.2 hm1, hv.1.1⟩
theorem or_comm64 (a b : Int) : bits .or .i64 a b = bits .or .i64 b a := by simp only [bits, BitVec.or_comm]
theorem get_step (xs : List Int) (p k : Nat) (hk : k ≤ 5) (hx : IsBytes xs) (h : p + k < xs.length) :
    bits .or .i64 (num ((xs.drop p).take k)) (wrap64 (wrap64 (xs[p + k]?.getD 0) * 2 ^ (8 * k))) = num ((xs.drop p).take (k + 1)) := by
  have hc := byte_at hx (p + k)
  have hlen : ((xs.drop p).take k).length = k := by simp; omega
  have hn := num_bd _ (isBytes_part hx p k)
  rw [take_drop_snoc xs p k h, num_snoc]
  rw [hlen] at hn ⊢
  generalize xs[p + k]?.getD 0 = c at *
  generalize num ((xs.drop p).take k) = q at *
  have hp := pow256_le k hk
  have hp0 : (0 : Int) < 256 ^ k := Int.pow_pos (by decide)
  have e2 : ((2 ^ (8 * k) : Nat) : Int) = 256 ^ k := by rw [← pow8]; simp
  have hm1 : c * 256 ^ k ≤ 255 * 256 ^ k := Int.mul_le_mul_of_nonneg_right hc.2 (Int.le_of_lt hp0)
  have hm0 : 0 ≤ c * 256 ^ k := Int.mul_nonneg hc.1 (Int.le_of_lt hp0)
  rw [IntWalk.wrap64_in c (by omega), pow8, IntWalk.wrap64_in (c * 256 ^ k) (by omega), or_comm64, ← e2]
  rw [i64_join (8 * k) c q hc.1 (by rw [e2]; omega) hn.1 (by rw [e2]; exact hn.2) (by omega)]
  omega
theorem get_arg (a : Option Addr) (l c : Nat) (p m : Int) (w : World) (hf : isW m = false) :
    Calls Try.prog 74 #[.slice a l c, .int .i64 p, .int .i64 m] w fun e w' => e = .returned (.tuple #[.int .i64 0, .int .i64 2]) ∧ w = w' := by
  go_enter Try.func74, Try.ntmps74
  go_wp2_with (go_at_call 76; refine (isWidth_any _ _).mono ?_; rintro e w' ⟨rfl, rfl⟩)
  go_ret2
  exact ⟨rfl, rfl⟩
theorem get_code (a : Option Addr) (l c : Nat) (p m : Int) (w : World) (hf : isW m = true) (hl : l ≤ 1000000) (h : p < 0 ∨ (l : Int) - m < p) :
    Calls Try.prog 74 #[.slice a l c, .int .i64 p, .int .i64 m] w fun e w' => e = .returned (.tuple #[.int .i64 0, .int .i64 50]) ∧ w = w' := by
  have hm : 1 ≤ m ∧ m ≤ 6 := of_decide_eq_true hf
  obtain ⟨hm1, hm2⟩ := hm
  by_cases h0 : p < 0
  · clear h
    go_enter Try.func74, Try.ntmps74
    go_wp2_with (go_at_call 76; refine (isWidth_any _ _).mono ?_; rintro e w' ⟨rfl, rfl⟩)
    go_ret2
    exact ⟨rfl, rfl⟩
  · have h1 : (l : Int) - m < p := by omega
    clear h
    go_enter Try.func74, Try.ntmps74
    go_wp2_with (go_at_call 76; refine (isWidth_any _ _).mono ?_; rintro e w' ⟨rfl, rfl⟩)
    go_ret2
    exact ⟨rfl, rfl⟩
set_option maxHeartbeats 400000 in
theorem get_ok (a : Option Addr) (l c : Nat) (xs : List Int) (p m : Nat) (w : World) (hm1 : 1 ≤ m) (hm6 : m ≤ 6) (hr : Rd w w.heap.size a l (u8s xs)) (hx : IsBytes xs) (hlc : l ≤ c) (hl : l ≤ 1000000) (hp : p + m ≤ l) :
    Calls Try.prog 74 #[.slice a l c, .int .i64 p, .int .i64 m] w fun e w' =>
      e = .returned (.tuple #[.int .i64 (num ((xs.drop p).take m)), .int .i64 0]) ∧ w = w' := by
  have hw : isW m = true := by unfold isW; simp; omega
  obtain ⟨hr1, h0 | ⟨g, o, rfl, _, hc⟩⟩ := hr
  · omega
  have hlen : xs.length = l := by rw [← hr1]; exact (u8s_length xs).symm
  have HC := Lib.hid hc
  have HX := Lib.hid hx
  have HL := Lib.hid hlen
  have HR := Lib.hid hr1
  clear hc hx hlen hr1
  go_enter Try.func74, Try.ntmps74
  go_wp2_with (go_at_call 76; refine (isWidth_any _ _).mono ?_; rintro e w' ⟨rfl, rfl⟩)
  go_loop [8, 34] (fun x i => ∃ k : Nat, k ≤ m ∧ i = .int .i64 k ∧ x = .int .i64 (num ((xs.drop p).take k))) (fun _ i => m - (intOf i).toNat)
  case atStart => exact ⟨0, Nat.zero_le _, rfl, by simp [num]⟩
  case round =>
    obtain ⟨k, hk, rfl, rfl⟩ := hrel
    by_cases hlt : k < m
    · have hcell : w.cell? ⟨g, o + p + k, none⟩ = some (.int .u8 (xs.getD (p + k) 0)) := by
        have h1 : p + k < xs.length := by rw [HL.out]; omega
        rw [Nat.add_assoc]
        exact HC.out (p + k) _ (by simp [u8s, List.getD_eq_getElem?_getD, h1])
      go_wp2
      go_round
      case rel => exact ⟨k + 1, by omega, by go_num, by rw [get_step xs p k (by omega) HX.out (by rw [HL.out]; omega)]⟩
      case measure => simp [intOf]; omega
    · obtain rfl : k = m := by omega
      go_wp2
      go_ret2
      exact ⟨rfl, rfl⟩
/-- Put, where it does not refuse: what it hands back is a slice that reads as what was there and the number's bytes behind it. -/
theorem put_rd (a : Option Addr) (l c : Nat) (xs : List Int) (n : Int) (m : Nat) (w : World) (hf : fitsB n m = true) (hr : Rd w w.heap.size a l (u8s xs)) (hlc : l ≤ c) (hl : l ≤ 1000000) :
    Calls Try.prog 73 #[.slice a l c, .int .i64 n, .int .i64 m] w fun e w' =>
      ∃ a' c', e = .returned (.tuple #[.slice a' (l + m) c', .int .i64 0]) ∧ Rd w' w'.heap.size a' (l + m) (u8s (xs ++ le n m)) ∧ l + m ≤ c' ∧ c' ≤ maxLen ∧ Below w.heap.size w w' := by
  obtain ⟨h1, h2, h3, _⟩ := fits_yes hf
  refine (put_ok a l c xs n m w hf (by omega) (by omega) h3 hr hlc hl).mono ?_
  rintro e w' ⟨v, rfl, hown, hbel⟩
  obtain ⟨a', c', rfl, k1, k2, hrd⟩ := Rd.own hown
  exact ⟨a', c', rfl, hrd, k1, k2, hbel⟩
theorem put_nil (n : Int) (m : Nat) (w : World) (hf : fitsB n m = true) :
    Calls Try.prog 73 #[.slice none 0 0, .int .i64 n, .int .i64 m] w fun e w' =>
      ∃ a' c', e = .returned (.tuple #[.slice a' m c', .int .i64 0]) ∧ Rd w' w'.heap.size a' m (u8s (le n m)) ∧ m ≤ c' ∧ c' ≤ maxLen ∧ Below w.heap.size w w' := by
  simpa using put_rd none 0 0 [] n m w hf ⟨rfl, .inl rfl⟩ (Nat.le_refl _) (Nat.zero_le _)
end Go.Proofs.Ytmbphhcgmdaoeaa
