/- What is proved: the sum's numbers: a step over 32 bits is linear and can be taken back; bytes put in one by one; a bit that is turned; what stands behind sealed bytes. No program is walked here. -/
import Derived.Test.YtpbjpfoomdkcpaaMem
namespace Go.Proofs.Ytpbjpfoomdkcpaa

abbrev B32 := BitVec 32
def poly : B32 := 3988292384#32
def stp (x : B32) : B32 := if x.getLsbD 0 then (x >>> 1) ^^^ poly else x >>> 1
def stps : Nat → B32 → B32
  | 0, x => x
  | k + 1, x => stps k (stp x)
theorem stps_add (j k : Nat) (x : B32) : stps (j + k) x = stps k (stps j x) := by
  induction j generalizing x with
  | zero => simp [stps]
  | succ j ih => rw [Nat.add_right_comm]; simp only [stps]; exact ih _
theorem stps_succ (k : Nat) (x : B32) : stps (k + 1) x = stp (stps k x) := stps_add k 1 x
theorem xor4 (a b c : B32) : (a ^^^ b) ^^^ (c ^^^ b) = a ^^^ c := by
  rw [BitVec.xor_comm c b, BitVec.xor_assoc, ← BitVec.xor_assoc b b c, BitVec.xor_self, BitVec.zero_xor]
theorem stp_xor (x y : B32) : stp (x ^^^ y) = stp x ^^^ stp y := by
  unfold stp
  rw [BitVec.getLsbD_xor, BitVec.ushiftRight_xor_distrib]
  rcases x.getLsbD 0 with _ | _ <;> rcases y.getLsbD 0 with _ | _ <;> simp only [Bool.xor_false, Bool.xor_true, Bool.not_true, Bool.not_false, if_true, if_false, Bool.false_eq_true]
  · rw [BitVec.xor_assoc]
  · rw [BitVec.xor_assoc, BitVec.xor_assoc, BitVec.xor_comm poly]
  · rw [xor4]
theorem stps_xor (k : Nat) (x y : B32) : stps k (x ^^^ y) = stps k x ^^^ stps k y := by
  induction k generalizing x y with
  | zero => rfl
  | succ k ih => simp only [stps]; rw [stp_xor, ih]
theorem stp_zero {x : B32} (h : stp x = 0#32) : x = 0#32 := by
  have h31 : (stp x).getLsbD 31 = false := by rw [h]; simp
  have h0 : x.getLsbD 0 = false := by
    unfold stp at h31
    rcases hx : x.getLsbD 0 with _ | _
    · rfl
    · rw [hx, if_pos rfl, BitVec.getLsbD_xor, BitVec.getLsbD_ushiftRight, BitVec.getLsbD_of_ge x 32 (by decide)] at h31
      revert h31; decide
  unfold stp at h
  rw [h0] at h
  simp only [Bool.false_eq_true, if_false] at h
  apply BitVec.eq_of_getLsbD_eq
  intro i hi
  rcases i with _ | i
  · rw [h0]; simp
  · have : (x >>> 1).getLsbD i = false := by rw [h]; simp
    rw [BitVec.getLsbD_ushiftRight, Nat.add_comm] at this
    rw [this]; simp
theorem xor_zero_iff {x y : B32} : x ^^^ y = 0#32 ↔ x = y := by
  constructor
  · intro h
    have := congrArg (· ^^^ y) h
    simpa [BitVec.xor_assoc] using this
  · rintro rfl; exact BitVec.xor_self
theorem stp_inj {x y : B32} (h : stp x = stp y) : x = y := by
  rw [← xor_zero_iff]
  apply stp_zero
  rw [stp_xor, h, BitVec.xor_self]
theorem stps_inj (k : Nat) {x y : B32} (h : stps k x = stps k y) : x = y := by
  induction k generalizing x y with
  | zero => exact h
  | succ k ih => exact stp_inj (ih h)
theorem stps_none (k : Nat) : stps k 0#32 = 0#32 := by
  induction k with
  | zero => rfl
  | succ k ih => simp only [stps]; exact ih

/-! ### bytes put in -/
def byt (c : Int) : B32 := BitVec.ofInt 32 c
def put1 (n : B32) (c : Int) : B32 := stps 8 (n ^^^ byt c)
def puts (n : B32) (xs : List Int) : B32 := xs.foldl put1 n
theorem puts_append (n : B32) (xs ys : List Int) : puts n (xs ++ ys) = puts (puts n xs) ys := List.foldl_append
theorem puts_one (n : B32) (xs : List Int) (c : Int) : puts n (xs ++ [c]) = stps 8 (puts n xs ^^^ byt c) := puts_append n xs [c]
theorem puts_xor (n d : B32) (xs : List Int) : puts (n ^^^ d) xs = puts n xs ^^^ stps (8 * xs.length) d := by
  induction xs generalizing n d with
  | nil => rfl
  | cons c r ih =>
    show puts (put1 (n ^^^ d) c) r = puts (put1 n c) r ^^^ _
    have : put1 (n ^^^ d) c = put1 n c ^^^ stps 8 d := by
      unfold put1
      rw [← stps_xor, BitVec.xor_assoc, BitVec.xor_comm d, ← BitVec.xor_assoc]
    rw [this, ih, List.length_cons, Nat.mul_add, Nat.add_comm (8 * r.length), stps_add]
theorem puts_inj {n m : B32} {xs : List Int} (h : puts n xs = puts m xs) : n = m := by
  have h1 := puts_xor m (m ^^^ n) xs
  rw [← BitVec.xor_assoc, BitVec.xor_self, BitVec.zero_xor, h] at h1
  have h2 : stps (8 * xs.length) (m ^^^ n) = 0#32 := by
    have := congrArg (puts m xs ^^^ ·) h1
    simpa [← BitVec.xor_assoc] using this.symm
  rw [← stps_none (8 * xs.length)] at h2
  exact (xor_zero_iff.1 (stps_inj _ h2)).symm

/-! ### the sum's own four bytes -/
theorem byt_nat (n : Nat) : byt (n : Int) = BitVec.ofNat 32 n := BitVec.ofInt_natCast ..
theorem stp_twice (m : Nat) (h : m < 2147483648) : stp (BitVec.ofNat 32 (2 * m)) = BitVec.ofNat 32 m := by
  have h0 : (BitVec.ofNat 32 (2 * m)).getLsbD 0 = false := by
    rw [BitVec.getLsbD_ofNat, Nat.testBit_zero, show 2 * m % 2 = 0 by omega]; rfl
  unfold stp
  rw [h0]
  simp only [Bool.false_eq_true, if_false]
  apply BitVec.eq_of_toNat_eq
  rw [BitVec.toNat_ushiftRight, BitVec.toNat_ofNat, BitVec.toNat_ofNat, Nat.shiftRight_eq_div_pow]
  omega
theorem stps_pow (k m : Nat) (h : 2 ^ k * m < 4294967296) : stps k (BitVec.ofNat 32 (2 ^ k * m)) = BitVec.ofNat 32 m := by
  induction k generalizing m with
  | zero => simp [stps]
  | succ k ih =>
    simp only [stps]
    have e : 2 ^ (k + 1) * m = 2 * (2 ^ k * m) := by rw [Nat.pow_succ, Nat.mul_comm (2 ^ k) 2, Nat.mul_assoc]
    rw [e] at h ⊢
    rw [stp_twice _ (by omega)]
    exact ih m (by omega)
theorem byt_join (c m : Nat) (hc : c < 256) (h : c + 256 * m < 4294967296) : BitVec.ofNat 32 c ^^^ BitVec.ofNat 32 (256 * m) = BitVec.ofNat 32 (c + 256 * m) := by
  apply BitVec.eq_of_toNat_eq
  rw [BitVec.toNat_xor, BitVec.toNat_ofNat, BitVec.toNat_ofNat, BitVec.toNat_ofNat, Nat.mod_eq_of_lt (by omega), Nat.mod_eq_of_lt (by omega), Nat.mod_eq_of_lt (by omega)]
  have h1 := Nat.two_pow_add_eq_or_of_lt (i := 8) (b := c) (by omega) m
  have h2 : c ^^^ 256 * m = c ||| 256 * m := by
    apply Nat.eq_of_testBit_eq
    intro i
    rw [Nat.testBit_xor, Nat.testBit_or]
    by_cases hi : i < 8
    · have : (256 * m).testBit i = false := by
        rw [show 256 = 2 ^ 8 by decide, Nat.testBit_two_pow_mul]
        simp; omega
      simp [this]
    · have : c.testBit i = false := Nat.testBit_lt_two_pow (Nat.lt_of_lt_of_le (m := 2 ^ 8) hc (Nat.pow_le_pow_right (by decide) (by omega)))
      simp [this]
  rw [h2, Nat.or_comm, Nat.add_comm]
  exact h1.symm
theorem numNat (cs : List Int) (h : IsBytes cs) : ∃ k : Nat, num cs = k ∧ k < 256 ^ cs.length := by
  have hb := num_bd cs h
  refine ⟨(num cs).toNat, by omega, ?_⟩
  have : ((256 ^ cs.length : Nat) : Int) = (256 : Int) ^ cs.length := by simp
  omega
theorem puts_num (x : B32) (cs : List Int) (h : IsBytes cs) (hl : cs.length ≤ 4) : puts x cs = stps (8 * cs.length) (x ^^^ byt (num cs)) := by
  induction cs generalizing x with
  | nil => simp [puts, stps, num, byt]
  | cons c r ih =>
    have hc := h c (by simp)
    have hr : IsBytes r := fun b hb => h b (by simp [hb])
    simp only [List.length_cons] at hl
    obtain ⟨k, hk, hk4⟩ := numNat r hr
    obtain ⟨d, rfl⟩ := Int.eq_ofNat_of_zero_le hc.1
    have hp : 256 ^ r.length ≤ 256 ^ 3 := Nat.pow_le_pow_right (by decide) (by omega)
    show puts (put1 x d) r = _
    rw [ih (put1 x d) hr (by omega), List.length_cons, Nat.mul_add, Nat.add_comm (8 * r.length), stps_add]
    congr 1
    simp only [num]
    rw [hk]
    have e : ((d : Int) + 256 * (k : Int)) = ((d + 256 * k : Nat) : Int) := by omega
    rw [e, byt_nat, byt_nat, ← byt_join d k (by omega) (by omega), ← BitVec.xor_assoc, Nat.mul_one, stps_xor 8 (x ^^^ _), ← byt_nat d]
    congr 1
    exact (stps_pow 8 k (by omega)).symm

/-! ### a bit that is turned -/
theorem stps_bit (i : Nat) (h : i < 32) : stps i (BitVec.ofNat 32 (2 ^ i)) = 1#32 := by
  have := stps_pow i 1 (by rw [Nat.mul_one]; exact Nat.pow_lt_pow_right (by decide) h)
  simpa using this
/-- Bytes in which bit k of byte j is turned. -/
def turn (xs : List Int) (p : Nat) : List Int := xs.set (p / 8) (bits .xor .u8 (xs[p / 8]?.getD 0) (2 ^ (p % 8) : Nat))
theorem ofInt8 (a : Nat) (h : a < 256) : (BitVec.ofInt 8 (a : Int)).toNat = a := by
  rw [BitVec.ofInt_natCast, BitVec.toNat_ofNat]; exact Nat.mod_eq_of_lt (by omega)
theorem xor_u8 (a b : Nat) (ha : a < 256) (hb : b < 256) : bits .xor .u8 (a : Int) (b : Int) = ((a ^^^ b : Nat) : Int) := by
  have hx : a ^^^ b < 2 ^ 8 := Nat.xor_lt_two_pow (by omega) (by omega)
  show IntKind.u8.wrap ((BitVec.ofInt 8 (a : Int) ^^^ BitVec.ofInt 8 (b : Int)).toNat : Int) = _
  rw [BitVec.toNat_xor, ofInt8 a ha, ofInt8 b hb, IntKind.wrap_u8]
  omega
theorem byt_xor (a b : Nat) (ha : a < 256) (hb : b < 256) : byt (bits .xor .u8 (a : Int) (b : Int)) = byt a ^^^ byt b := by
  have hx : a ^^^ b < 2 ^ 8 := Nat.xor_lt_two_pow (by omega) (by omega)
  rw [xor_u8 a b ha hb, byt_nat, byt_nat, byt_nat]
  apply BitVec.eq_of_toNat_eq
  rw [BitVec.toNat_xor, BitVec.toNat_ofNat, BitVec.toNat_ofNat, BitVec.toNat_ofNat, Nat.mod_eq_of_lt (by omega), Nat.mod_eq_of_lt (by omega), Nat.mod_eq_of_lt (by omega)]
theorem turn_puts (n : B32) (xs : List Int) (p : Nat) (h : IsBytes xs) (hp : p < 8 * xs.length) : puts n (turn xs p) = puts n xs ^^^ stps (8 * xs.length - p) 1#32 := by
  have hj : p / 8 < xs.length := by omega
  have hk : p % 8 < 8 := Nat.mod_lt _ (by decide)
  unfold turn
  generalize hq : p / 8 = j at *
  generalize hr : p % 8 = k at *
  have hp' : p = 8 * j + k := by omega
  have e := List.take_append_drop j xs
  have hd : xs.drop j = xs[j] :: xs.drop (j + 1) := List.drop_eq_getElem_cons hj
  have hg : xs[j]?.getD 0 = xs[j] := by rw [List.getElem?_eq_getElem hj]; rfl
  rw [hg, List.set_eq_take_append_cons_drop, if_pos hj]
  rw [hd] at e
  have hb := h xs[j] (List.getElem_mem hj)
  have hlen : (xs.drop (j + 1)).length = xs.length - (j + 1) := List.length_drop
  generalize xs[j] = c at *
  generalize xs.take j = pre at *
  generalize xs.drop (j + 1) = post at *
  generalize xs.length = N at *
  subst e
  obtain ⟨d, rfl⟩ := Int.eq_ofNat_of_zero_le hb.1
  have h2 : 2 ^ k < 2 ^ 8 := Nat.pow_lt_pow_right (by decide) hk
  rw [puts_append, puts_append]
  show puts (put1 _ _) post = puts (put1 _ _) post ^^^ _
  have e1 : put1 (puts n pre) (bits .xor .u8 (d : Int) ((2 ^ k : Nat) : Int)) = put1 (puts n pre) d ^^^ stps (8 - k) 1#32 := by
    unfold put1
    rw [byt_xor d _ (by omega) (by omega), ← BitVec.xor_assoc, stps_xor 8 (puts n pre ^^^ byt d)]
    congr 1
    rw [show 8 = k + (8 - k) by omega, stps_add, byt_nat, stps_bit k (by omega)]
    congr 1
    omega
  rw [e1, puts_xor, ← stps_add]
  congr 2
  omega
end Go.Proofs.Ytpbjpfoomdkcpaa
