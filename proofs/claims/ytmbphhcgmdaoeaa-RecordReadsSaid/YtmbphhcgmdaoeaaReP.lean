/- What is proved: the contracts of flumeref01's Fits, Put, Get (taken from PackH and what it leans on). -/
import Derived.Test.YtmbphhcgmdaoeaaReA
namespace Go.Proofs.Ytmbphhcgmdaoeaa
open Go.RowKit

/-- A number of m bytes. -/
def fitsB (n m : Int) : Bool := decide (1 ≤ m ∧ m ≤ 6 ∧ 0 ≤ n ∧ n < 256 ^ m.toNat)
/-- What Put's loop holds behind k rounds: from the first round on the slice is a row of the call's own. -/
def PutR (W : World) (e : TypeId) (w : World) (v : Value) (n k : Nat) (xs : List Value) : Prop := Has W e w v n xs ∧ (0 < k → w.ownsRow W.heap.size e 1 v n xs)
theorem pow256_le (k : Nat) (h : k ≤ 5) : (256 : Int) ^ k ≤ 1099511627776 := by
  have : k = 0 ∨ k = 1 ∨ k = 2 ∨ k = 3 ∨ k = 4 ∨ k = 5 := by omega
  rcases this with rfl | rfl | rfl | rfl | rfl | rfl <;> decide
theorem fits_yes {n m : Int} (h : fitsB n m = true) : 1 ≤ m ∧ m ≤ 6 ∧ 0 ≤ n ∧ n < 256 ^ m.toNat := of_decide_eq_true h
theorem rfits_any (n m : Int) (w : World) (hn : n ≤ 9223372036854775807) :
    Calls Try.prog 61 #[.int .i64 n, .int .i64 m] w fun e w' => e = .returned (.bool (fitsB n m)) ∧ w = w' := by
  by_cases h1 : 1 ≤ m
  · by_cases h2 : m ≤ 6
    · by_cases h3 : 0 ≤ n
      · obtain ⟨k, rfl⟩ := Int.eq_ofNat_of_zero_le (show 0 ≤ m by omega)
        have hf : (n / 256 ^ k == 0) = fitsB n k := by
          unfold fitsB
          rw [Bool.eq_iff_iff, beq_iff_eq, div_pow_zero n _ h3, Int.toNat_natCast]
          simp only [decide_eq_true_eq]
          omega
        have HF := Lib.hid hf
        clear hf
        go_enter Try.func61, Try.ntmps61
        go_wp2
        go_loop [0, 5] (fun x i => ∃ j : Nat, j ≤ k ∧ i = .int .i64 j ∧ x = .int .i64 (n / 256 ^ j)) (fun _ i => k - (intOf i).toNat)
        case atStart => exact ⟨0, Nat.zero_le _, rfl, by simp⟩
        case round =>
          obtain ⟨j, hj, rfl, rfl⟩ := hrel
          have hp0 : 0 ≤ n / 256 ^ j := Int.ediv_nonneg h3 (Int.le_of_lt (Int.pow_pos (by decide)))
          have hp1 : n / 256 ^ j ≤ n := Int.ediv_le_self _ h3
          have hs := div_step n j
          generalize hq : n / 256 ^ j = q at *
          have HS := Lib.hid hs
          have HQ := Lib.hid hq
          clear hs hq
          by_cases hlt : j < k
          · go_wp2
            go_round
            case rel => exact ⟨j + 1, by omega, by go_num, by rw [← HS.out]⟩
            case measure => simp [intOf]; omega
          · obtain rfl : j = k := by omega
            go_wp2
            go_ret
            exact ⟨ret_bool (by rw [← HF.out, HQ.out]), rfl⟩
      · have HF := Lib.hid (show fitsB n m = false by unfold fitsB; simp; omega)
        go_enter Try.func61, Try.ntmps61
        go_wp2
        go_ret
        exact ⟨ret_bool HF.out.symm, rfl⟩
    · have HF := Lib.hid (show fitsB n m = false by unfold fitsB; simp; omega)
      go_enter Try.func61, Try.ntmps61
      go_wp2
      go_ret
      exact ⟨ret_bool HF.out.symm, rfl⟩
  · have HF := Lib.hid (show fitsB n m = false by unfold fitsB; simp; omega)
    go_enter Try.func61, Try.ntmps61
    go_wp2
    go_ret
    exact ⟨ret_bool HF.out.symm, rfl⟩
theorem rput_no (a : Option Addr) (l c : Nat) (n m : Int) (w : World) (hn : n ≤ 9223372036854775807) (hf : fitsB n m = false) :
    Calls Try.prog 34 #[.slice a l c, .int .i64 n, .int .i64 m] w fun e w' => e = .returned (.tuple #[.slice none 0 0, .int .i64 2]) ∧ w = w' := by
  go_enter Try.func34, Try.ntmps34
  go_wp2_with (go_at_call 61; refine (rfits_any _ _ _ hn).mono ?_; rintro e w' ⟨rfl, rfl⟩)
  go_ret2
  exact ⟨rfl, rfl⟩
set_option maxHeartbeats 400000 in
theorem rput_ok (a : Option Addr) (l c : Nat) (xs : List Int) (n : Int) (m : Nat) (w : World) (hn : n ≤ 9223372036854775807) (hf : fitsB n m = true) (hr : Rd w w.heap.size a l (u8s xs)) (hl : l ≤ 1000000) :
    Calls Try.prog 34 #[.slice a l c, .int .i64 n, .int .i64 m] w fun e w' =>
      ∃ v, e = .returned (.tuple #[v, .int .i64 0]) ∧ w'.ownsRow w.heap.size 5 1 v (l + m) (u8s (xs ++ le n m)) ∧ Below w.heap.size w w' := by
  obtain ⟨i0, hi, hz0, hz1, hz2⟩ := info_parts info_u8
  obtain ⟨hm1, hm6, hn0, _⟩ := fits_yes hf
  go_enter Try.func34, Try.ntmps34
  go_wp2_with (first
    | (go_at_call 61; refine (rfits_any _ _ _ hn).mono ?_; rintro e w' ⟨rfl, rfl⟩)
    | (at_builtin; refine wpList_append_src _ rfl (.tmp 14) (.tmp 15) _ rfl i0 (.int .u8 0) 1 Try.underlying34 hi hz0 hz1 hz2 rfl rfl (Below.refl w.heap.size w) (World.ownsRow_nil w _ _ 1) rfl hr ?c1 ?c2 ?c3 ?_))
  case c1 => exact u8s_one xs
  case c2 => unfold maxLen; omega
  case c3 => omega
  intro v0 w0 hbel0 hown0
  have H0 : PutR w 5 w0 v0 (l + 0) 0 (u8s (xs ++ le n 0)) := ⟨⟨hbel0, .inr (by simpa [le] using hown0)⟩, fun h => absurd h (by decide)⟩
  clear hbel0 hown0
  go_wp2
  go_loopw [1, 8, 9] (fun x v i wr => ∃ k : Nat, k ≤ m ∧ i = .int .i64 k ∧ x = .int .i64 (n / 256 ^ k) ∧ PutR w 5 wr v (l + k) k (u8s (xs ++ le n k))) (fun _ _ i _ => m - (intOf i).toNat)
  case atStart => exact ⟨0, Nat.zero_le _, rfl, by simp, H0⟩
  case round =>
    obtain ⟨k, hk, rfl, rfl, hv⟩ := hrel
    have hpos : 0 ≤ n / 256 ^ k := Int.ediv_nonneg hn0 (Int.le_of_lt (Int.pow_pos (by decide)))
    have hple : n / 256 ^ k ≤ n := Int.ediv_le_self _ hn0
    have hs1 := div_step n k
    have hs2 := le_succ n k
    generalize hq : n / 256 ^ k = q at *
    have HS : Hid (q / 256 = n / 256 ^ (k + 1) ∧ le n (k + 1) = le n k ++ [q % 256]) := ⟨hs1, hs2⟩
    clear hq hs1 hs2
    by_cases hlt : k < m
    · go_wp2_with (at_builtin; refine wpList_append_has _ rfl (.tmp 22) (.tmp 26) _ rfl i0 (.int .u8 0) 1 Try.underlying34 hi hz0 hz1 hz2 rfl rfl (hv.1.alloc _) ⟨wr.heap.size, 0, none⟩ 1 1 [.int .u8 (q % 256)] rfl (by decide) rfl ?c1 ?c2 ?c3 ?c4 ?_)
      case c1 => exact cell_one_new _ _ _
      case c2 => intro u hu; simp at hu; subst hu; rfl
      case c3 => unfold maxLen; omega
      case c4 => omega
      intro v' w1 hbel1 hown1
      have hv1 : PutR w 5 w1 v' (l + (k + 1)) (k + 1) (u8s (xs ++ le n (k + 1))) := by
        refine (fun h => ⟨⟨hbel1, .inr h⟩, fun _ => h⟩) ?_
        rw [HS.out.2, ← List.append_assoc, u8s_append]
        exact hown1
      clear hv hbel1 hown1
      go_wp2
      go_roundw
      case rel => exact ⟨k + 1, by omega, by go_num, by rw [← HS.out.1], hv1⟩
      case measure => simp [intOf]; omega
    · obtain rfl : k = m := by omega
      go_wp2
      go_ret2
      exact ⟨_, rfl, hv.2 (by omega), hv.1.1⟩
theorem rput_rd (a : Option Addr) (l c : Nat) (xs : List Int) (n : Int) (m : Nat) (w : World) (hn : n ≤ 9223372036854775807) (hf : fitsB n m = true) (hr : Rd w w.heap.size a l (u8s xs)) (hl : l ≤ 1000000) :
    Calls Try.prog 34 #[.slice a l c, .int .i64 n, .int .i64 m] w fun e w' =>
      ∃ a' c', e = .returned (.tuple #[.slice a' (l + m) c', .int .i64 0]) ∧ Rd w' w'.heap.size a' (l + m) (u8s (xs ++ le n m)) ∧ l + m ≤ c' ∧ c' ≤ maxLen ∧ Below w.heap.size w w' := by
  refine (rput_ok a l c xs n m w hn hf hr hl).mono ?_
  rintro e w' ⟨v, rfl, hown, hbel⟩
  obtain ⟨a', c', rfl, k1, k2, hrd⟩ := Rd.own hown
  exact ⟨a', c', rfl, hrd, k1, k2, hbel⟩
theorem num_cons (xs : List Int) (j k : Nat) (h : j < xs.length) : num ((xs.drop j).take (k + 1)) = xs[j]?.getD 0 + 256 * num ((xs.drop (j + 1)).take k) := by
  have hd : xs.drop j = xs[j] :: xs.drop (j + 1) := List.drop_eq_getElem_cons h
  have hg : xs[j]?.getD 0 = xs[j] := by simp [h]
  rw [hd, hg]
  clear hd hg
  generalize xs[j] = b
  generalize xs.drop (j + 1) = r
  simp [num]
set_option maxHeartbeats 400000 in
theorem rget_ok (a : Option Addr) (l c : Nat) (xs : List Int) (p m : Nat) (w : World) (hm1 : 1 ≤ m) (hm6 : m ≤ 6) (hr : Rd w w.heap.size a l (u8s xs)) (hx : IsBytes xs) (hl : l ≤ 1000000) (hp : p + m ≤ l) :
    Calls Try.prog 55 #[.slice a l c, .int .i64 p, .int .i64 m] w fun e w' =>
      e = .returned (.tuple #[.int .i64 (num ((xs.drop p).take m)), .int .i64 0]) ∧ w = w' := by
  obtain ⟨hr1, h0 | ⟨g, o, rfl, _, hc⟩⟩ := hr
  · omega
  have hlen : xs.length = l := by rw [← hr1]; exact (u8s_length xs).symm
  have HC := Lib.hid hc
  have HX := Lib.hid hx
  have HL := Lib.hid hlen
  have HR := Lib.hid hr1
  clear hc hx hlen hr1
  go_enter Try.func55, Try.ntmps55
  go_wp2
  go_loop [8, 9] (fun x i => ∃ k : Nat, k ≤ m ∧ i = .int .i64 (k - 1) ∧ x = .int .i64 (num ((xs.drop (p + k)).take (m - k)))) (fun _ i => (intOf i + 1).toNat)
  case atStart => exact ⟨m, Nat.le_refl _, rfl, by simp [num]⟩
  case round =>
    obtain ⟨k, hk, rfl, rfl⟩ := hrel
    have hb := num_bd _ (isBytes_part HX.out (p + k) (m - k))
    have hlt6 : ((xs.drop (p + k)).take (m - k)).length ≤ m - k := by simp; omega
    rcases k with _ | k
    · have HN := Lib.hid (show num ((xs.drop (p + 0)).take (m - 0)) = num ((xs.drop p).take m) from rfl)
      clear hb hlt6
      go_wp2
      go_ret2
      exact ⟨rfl, rfl⟩
    · have hq := pow256_le _ (show ((xs.drop (p + (k + 1))).take (m - (k + 1))).length ≤ 5 by omega)
      have hs := num_cons xs (p + k) (m - (k + 1)) (by rw [HL.out]; omega)
      rw [show m - (k + 1) + 1 = m - k by omega, Nat.add_assoc] at hs
      have hby := byte_at HX.out (p + k)
      obtain ⟨hb1, hb2⟩ := hb
      have hcell : w.cell? ⟨g, o + (p + k), none⟩ = some (.int .u8 (xs[p + k]?.getD 0)) := by
        have h1 : p + k < xs.length := by rw [HL.out]; omega
        exact HC.out (p + k) _ (by simp [u8s, h1])
      generalize num ((xs.drop (p + (k + 1))).take (m - (k + 1))) = q at *
      generalize hB : xs[p + k]?.getD 0 = B at *
      have HS := Lib.hid hs
      have hq2 : q ≤ 1099511627776 := by omega
      obtain ⟨hby1, hby2⟩ := hby
      clear hs hB hb2 hq hlt6
      go_wp2
      go_round
      case rel => exact ⟨k, by omega, rfl, by rw [HS.out, Int.add_comm]⟩
      case measure => simp [intOf]
theorem rget_code (a : Option Addr) (l c : Nat) (p m : Int) (w : World) (hf : 1 ≤ m ∧ m ≤ 6) (_hl : l ≤ 1000000) (h : p < 0 ∨ (l : Int) - m < p) :
    Calls Try.prog 55 #[.slice a l c, .int .i64 p, .int .i64 m] w fun e w' => e = .returned (.tuple #[.int .i64 0, .int .i64 50]) ∧ w = w' := by
  have hm : 1 ≤ m ∧ m ≤ 6 := hf
  obtain ⟨hm1, hm2⟩ := hm
  by_cases h0 : p < 0
  · clear h
    go_enter Try.func55, Try.ntmps55
    go_wp2
    go_ret2
    exact ⟨rfl, rfl⟩
  · have h1 : (l : Int) - m < p := by omega
    clear h
    by_cases h2 : (l : Int) < p
    · go_enter Try.func55, Try.ntmps55
      go_wp2
      go_ret2
      exact ⟨rfl, rfl⟩
    · have h3 : (l : Int) - p < m := by omega
      go_enter Try.func55, Try.ntmps55
      go_wp2
      go_ret2
      exact ⟨rfl, rfl⟩
end Go.Proofs.Ytmbphhcgmdaoeaa
