/- What is proved: the contracts of Step, More, Sum and of the document's own Step, on, Sum, More: what each returns at every number of 32 bits and every slice of bytes; nothing in the world turns. -/
import Derived.Test.YtpbjpfoomdkcpaaSumA
namespace Go.Proofs.Ytpbjpfoomdkcpaa
open Go.RowKit

/-- A number of 32 bits as the program holds it. -/
def iu (x : B32) : Int := (x.toNat : Int)
theorem iu_bd (x : B32) : 0 ≤ iu x ∧ iu x ≤ 4294967295 := by have := x.isLt; unfold iu; omega
theorem iu_inj {x y : B32} (h : iu x = iu y) : x = y := BitVec.eq_of_toNat_eq (by unfold iu at h; omega)
theorem iu_of (n : Int) (h : 0 ≤ n ∧ n ≤ 4294967295) : ∃ x, n = iu x := by
  refine ⟨BitVec.ofInt 32 n, ?_⟩
  obtain ⟨k, rfl⟩ := Int.eq_ofNat_of_zero_le h.1
  unfold iu
  rw [BitVec.ofInt_natCast, BitVec.toNat_ofNat]
  omega
theorem ofInt_iu (x : B32) : BitVec.ofInt 32 (iu x) = x := by
  unfold iu
  rw [BitVec.ofInt_natCast, BitVec.ofNat_toNat, BitVec.setWidth_eq]
theorem wrap_iu (x : B32) : IntKind.u32.wrap (x.toNat : Int) = iu x := by
  have := x.isLt
  simp [IntKind.wrap, IntKind.bits, IntKind.signed]
  unfold iu
  omega
theorem xor_u32 (x y : B32) : bits .xor .u32 (iu x) (iu y) = iu (x ^^^ y) := by
  show IntKind.u32.wrap ((BitVec.ofInt 32 (iu x) ^^^ BitVec.ofInt 32 (iu y)).toNat : Int) = _
  rw [ofInt_iu, ofInt_iu]
  exact wrap_iu _
theorem and_u32 (x y : B32) : bits .and .u32 (iu x) (iu y) = iu (x &&& y) := by
  show IntKind.u32.wrap ((BitVec.ofInt 32 (iu x) &&& BitVec.ofInt 32 (iu y)).toNat : Int) = _
  rw [ofInt_iu, ofInt_iu]
  exact wrap_iu _
theorem or_u32 (x y : B32) : bits .or .u32 (iu x) (iu y) = iu (x ||| y) := by
  show IntKind.u32.wrap ((BitVec.ofInt 32 (iu x) ||| BitVec.ofInt 32 (iu y)).toNat : Int) = _
  rw [ofInt_iu, ofInt_iu]
  exact wrap_iu _
theorem low_bit (x : B32) : (bits .and .u32 (iu x) 1 == 1) = x.getLsbD 0 := by
  rw [show (1 : Int) = iu 1#32 by rfl, and_u32]
  unfold iu
  rw [BitVec.toNat_and, BitVec.toNat_ofNat, show 1 % 2 ^ 32 = 1 by decide, Nat.and_one_is_mod, BitVec.getLsbD, Nat.testBit_zero, Bool.eq_iff_iff]
  simp only [beq_iff_eq, decide_eq_true_eq]
  omega
theorem shr_iu (x : B32) (k : Nat) : iu x / (2 ^ k : Nat) = iu (x >>> k) := by
  unfold iu
  rw [BitVec.toNat_ushiftRight, Nat.shiftRight_eq_div_pow, Int.natCast_ediv]
theorem half_iu (x : B32) : iu x / (2 : Int) = iu (x >>> 1) := shr_iu x 1
theorem step_walk (x : B32) (w : World) :
    Calls Try.prog 10 #[.int .u32 (iu x)] w fun e w' => e = .returned (.int .u32 (iu (stp x))) ∧ w = w' := by
  have hb := iu_bd x
  have h1 := low_bit x
  rcases hx : x.getLsbD 0 with _ | _
  · have H := Lib.hid (show iu x / 2 = iu (stp x) by rw [half_iu, stp, hx]; rfl)
    rw [hx] at h1
    go_enter Try.func10, Try.ntmps10
    go_wp2
    go_ret
    exact ⟨ret_int H.out, rfl⟩
  · have H := Lib.hid (show bits .xor .u32 (iu x / 2) 3988292384 = iu (stp x) by rw [half_iu, show (3988292384 : Int) = iu poly by rfl, xor_u32, stp, hx]; rfl)
    rw [hx] at h1
    go_enter Try.func10, Try.ntmps10
    go_wp2
    go_ret
    exact ⟨ret_int H.out, rfl⟩
theorem rstep_walk (x : B32) (w : World) :
    Calls Try.prog 11 #[.int .u32 (iu x)] w fun e w' => e = .returned (.int .u32 (iu (stp x))) ∧ w = w' := by
  have hb := iu_bd x
  have h1 := low_bit x
  rcases hx : x.getLsbD 0 with _ | _
  · have H := Lib.hid (show iu x / 2 = iu (stp x) by rw [half_iu, stp, hx]; rfl)
    rw [hx] at h1
    go_enter Try.func11, Try.ntmps11
    go_wp2
    go_ret
    exact ⟨ret_int H.out, rfl⟩
  · have H := Lib.hid (show bits .xor .u32 (iu x / 2) 3988292384 = iu (stp x) by rw [half_iu, show (3988292384 : Int) = iu poly by rfl, xor_u32, stp, hx]; rfl)
    rw [hx] at h1
    go_enter Try.func11, Try.ntmps11
    go_wp2
    go_ret
    exact ⟨ret_int H.out, rfl⟩

/-! ### bytes put in -/
theorem not_u32 (x : B32) : bits .xor .u32 4294967295 (iu x) = iu (~~~ x) := by
  rw [show (4294967295 : Int) = iu (BitVec.allOnes 32) by rfl, xor_u32]
  rw [BitVec.xor_comm, BitVec.xor_allOnes]
theorem byt_u32 (x : B32) (c : Int) (h : 0 ≤ c ∧ c ≤ 255) : bits .xor .u32 (iu x) c = iu (x ^^^ byt c) := by
  obtain ⟨y, hy⟩ := iu_of c (by omega)
  rw [hy, xor_u32]
  unfold byt
  rw [ofInt_iu]
theorem puts_take (x : B32) (xs : List Int) (k : Nat) (h : k < xs.length) : puts x (xs.take (k + 1)) = stps 8 (puts x (xs.take k) ^^^ byt (xs[k]?.getD 0)) := by
  have := take_drop_snoc xs 0 k (by omega)
  simp only [List.drop_zero, Nat.zero_add] at this
  rw [this, puts_one]
def more (s : B32) (xs : List Int) : B32 := ~~~ puts (~~~ s) xs

set_option maxHeartbeats 400000 in
theorem more_walk (s : B32) (a : Option Addr) (l c : Nat) (xs : List Int) (w : World) (hr : Rd w w.heap.size a l (u8s xs)) (hx : IsBytes xs) (hl : l ≤ 1000000) :
    Calls Try.prog 14 #[.int .u32 (iu s), .slice a l c] w fun e w' => e = .returned (.int .u32 (iu (more s xs))) ∧ w = w' := by
  obtain ⟨hr1, h0⟩ := hr
  have hlen : xs.length = l := by rw [← hr1]; exact (u8s_length xs).symm
  have HC := Lib.hid h0
  have HX := Lib.hid hx
  have HL := Lib.hid hlen
  have hsg : (IntKind.u32.signed = true) = False := by decide
  have hmx : IntKind.u32.max = 4294967295 := by rfl
  clear h0 hx hlen hr1
  go_enter Try.func14, Try.ntmps14
  go_wp2
  go_loop [5, 12] (fun x i => ∃ k : Nat, k ≤ l ∧ i = .int .i64 k ∧ x = .int .u32 (iu (puts (~~~ s) (xs.take k)))) (fun _ i => l - (intOf i).toNat)
  case atStart => exact ⟨0, Nat.zero_le _, rfl, by rw [not_u32]; rfl⟩
  case round =>
    obtain ⟨k, hk, rfl, rfl⟩ := hrel
    by_cases hlt : k < l
    · rcases HC.out with h0 | ⟨g, o, rfl, _, hc⟩
      · omega
      have hcell : w.cell? ⟨g, o + k, none⟩ = some (.int .u8 (xs[k]?.getD 0)) := hc k _ (by simp [u8s, show k < xs.length by rw [HL.out]; omega])
      have hby := byte_at HX.out k
      clear hc
      have HB : bits .xor .u32 (iu (puts (~~~ s) (xs.take k))) (xs[k]?.getD 0) = iu (puts (~~~ s) (xs.take k) ^^^ byt (xs[k]?.getD 0)) := byt_u32 _ _ hby
      go_wp2
      go_loop [5, 20] (fun x i => ∃ j : Nat, j ≤ 8 ∧ i = .int .i64 j ∧ x = .int .u32 (iu (stps j (puts (~~~ s) (xs.take k) ^^^ byt (xs[k]?.getD 0))))) (fun _ i => 8 - (intOf i).toNat)
      case atStart => exact ⟨0, Nat.zero_le _, rfl, rfl⟩
      case round =>
        obtain ⟨j, hj, rfl, rfl⟩ := hrel
        by_cases hjt : j < 8
        · go_wp2_with (go_at_call 10; refine (step_walk _ _).mono ?_; rintro e w' ⟨rfl, rfl⟩)
          go_round
          case rel => exact ⟨j + 1, by omega, by go_num, by rw [stps_succ]⟩
          case measure => simp [intOf]; omega
        · obtain rfl : j = 8 := by omega
          go_wp2
          go_round
          case rel => exact ⟨k + 1, by omega, by go_num, by rw [puts_take _ _ _ (by rw [HL.out]; omega)]⟩
          case measure => simp [intOf]; omega
    · obtain rfl : k = l := by omega
      go_wp2
      go_ret
      exact ⟨ret_int (by rw [not_u32, List.take_of_length_le (by rw [HL.out]; omega)]; rfl), rfl⟩

def sum (xs : List Int) : B32 := more 0#32 xs
theorem sum_walk (a : Option Addr) (l c : Nat) (xs : List Int) (w : World) (hr : Rd w w.heap.size a l (u8s xs)) (hx : IsBytes xs) (hl : l ≤ 1000000) :
    Calls Try.prog 12 #[.slice a l c] w fun e w' => e = .returned (.int .u32 (iu (sum xs))) ∧ w = w' := by
  have hm : Calls Try.prog 14 #[.int .u32 0, .slice a l c] w fun e w' => e = .returned (.int .u32 (iu (sum xs))) ∧ w = w' := more_walk 0#32 a l c xs w hr hx hl
  go_enter Try.func12, Try.ntmps12
  go_wp2_with (go_at_call 14; refine hm.mono ?_; rintro e w' ⟨rfl, rfl⟩)
  go_ret
  exact ⟨rfl, rfl⟩

/-! ### the document's own -/
set_option maxHeartbeats 400000 in
theorem on_walk (s : B32) (a : Option Addr) (l c : Nat) (xs : List Int) (w : World) (hr : Rd w w.heap.size a l (u8s xs)) (hx : IsBytes xs) (hl : l ≤ 1000000) :
    Calls Try.prog 19 #[.int .u32 (iu s), .slice a l c] w fun e w' => e = .returned (.int .u32 (iu (puts s xs))) ∧ w = w' := by
  obtain ⟨hr1, h0⟩ := hr
  have hlen : xs.length = l := by rw [← hr1]; exact (u8s_length xs).symm
  have HC := Lib.hid h0
  have HX := Lib.hid hx
  have HL := Lib.hid hlen
  clear h0 hx hlen hr1
  go_enter Try.func19, Try.ntmps19
  go_wp2
  go_loop [0, 5] (fun x i => ∃ k : Nat, k ≤ l ∧ i = .int .i64 k ∧ x = .int .u32 (iu (puts s (xs.take k)))) (fun _ i => l - (intOf i).toNat)
  case atStart => exact ⟨0, Nat.zero_le _, rfl, rfl⟩
  case round =>
    obtain ⟨k, hk, rfl, rfl⟩ := hrel
    by_cases hlt : k < l
    · rcases HC.out with h0 | ⟨g, o, rfl, _, hc⟩
      · omega
      have hcell : w.cell? ⟨g, o + k, none⟩ = some (.int .u8 (xs[k]?.getD 0)) := hc k _ (by simp [u8s, show k < xs.length by rw [HL.out]; omega])
      have hby := byte_at HX.out k
      clear hc
      have HB : bits .xor .u32 (iu (puts s (xs.take k))) (xs[k]?.getD 0) = iu (puts s (xs.take k) ^^^ byt (xs[k]?.getD 0)) := byt_u32 _ _ hby
      go_wp2
      go_loop [0, 6] (fun x i => ∃ j : Nat, j ≤ 8 ∧ i = .int .i64 j ∧ x = .int .u32 (iu (stps j (puts s (xs.take k) ^^^ byt (xs[k]?.getD 0))))) (fun _ i => 8 - (intOf i).toNat)
      case atStart => exact ⟨0, Nat.zero_le _, rfl, rfl⟩
      case round =>
        obtain ⟨j, hj, rfl, rfl⟩ := hrel
        by_cases hjt : j < 8
        · go_wp2_with (go_at_call 11; refine (rstep_walk _ _).mono ?_; rintro e w' ⟨rfl, rfl⟩)
          go_round
          case rel => exact ⟨j + 1, by omega, by go_num, by rw [stps_succ]⟩
          case measure => simp [intOf]; omega
        · obtain rfl : j = 8 := by omega
          go_wp2
          go_round
          case rel => exact ⟨k + 1, by omega, by go_num, by rw [puts_take _ _ _ (by rw [HL.out]; omega)]⟩
          case measure => simp [intOf]; omega
    · obtain rfl : k = l := by omega
      go_wp2
      go_ret
      exact ⟨ret_int (by rw [List.take_of_length_le (by rw [HL.out]; omega)]), rfl⟩
theorem rsum_walk (a : Option Addr) (l c : Nat) (xs : List Int) (w : World) (hr : Rd w w.heap.size a l (u8s xs)) (hx : IsBytes xs) (hl : l ≤ 1000000) :
    Calls Try.prog 13 #[.slice a l c] w fun e w' => e = .returned (.int .u32 (iu (sum xs))) ∧ w = w' := by
  have hm : Calls Try.prog 19 #[.int .u32 4294967295, .slice a l c] w fun e w' => e = .returned (.int .u32 (iu (puts (~~~ 0#32) xs))) ∧ w = w' := on_walk (~~~ 0#32) a l c xs w hr hx hl
  have hsg : (IntKind.u32.signed = true) = False := by decide
  have hmx : IntKind.u32.max = 4294967295 := by rfl
  go_enter Try.func13, Try.ntmps13
  go_wp2_with (go_at_call 19; refine hm.mono ?_; rintro e w' ⟨rfl, rfl⟩)
  go_ret
  exact ⟨ret_int (not_u32 _), rfl⟩
theorem rmore_walk (s : B32) (a : Option Addr) (l c : Nat) (xs : List Int) (w : World) (hr : Rd w w.heap.size a l (u8s xs)) (hx : IsBytes xs) (hl : l ≤ 1000000) :
    Calls Try.prog 15 #[.int .u32 (iu s), .slice a l c] w fun e w' => e = .returned (.int .u32 (iu (more s xs))) ∧ w = w' := by
  have hm : Calls Try.prog 19 #[.int .u32 (bits .xor .u32 4294967295 (iu s)), .slice a l c] w fun e w' => e = .returned (.int .u32 (iu (puts (~~~ s) xs))) ∧ w = w' := by
    rw [not_u32]
    exact on_walk (~~~ s) a l c xs w hr hx hl
  have hsg : (IntKind.u32.signed = true) = False := by decide
  have hmx : IntKind.u32.max = 4294967295 := by rfl
  go_enter Try.func15, Try.ntmps15
  go_wp2_with (go_at_call 19; refine hm.mono ?_; rintro e w' ⟨rfl, rfl⟩)
  go_ret
  exact ⟨ret_int (not_u32 _), rfl⟩
end Go.Proofs.Ytpbjpfoomdkcpaa
