/- What is proved: the contracts of package pack's functions on numbers (isWidth, Fits, Handle, goesWith, Word, inRange, Place, Slot, Bare, Gen): what each returns, over every argument that its theorem names; nothing else in the world turns. -/
import Derived.Test.YthkelpnjfggmcaaRows
import Derived.WalkKit
import Derived.WalkSpells
import Derived.WalkLawsBesides
import Derived.Lib.Hide
namespace Go.Proofs.Ythkelpnjfggmcaa
open Go.RowKit

/-! ### bits of ints that are not negative -/
theorem wrap_i64_nat (a : Nat) (h : a < 9223372036854775808) : IntKind.i64.wrap (a : Int) = a := IntWalk.i64_in _ (by omega)
theorem ofInt64_nat (a : Nat) (h : a < 9223372036854775808) : (BitVec.ofInt 64 (a : Int)).toNat = a := by
  rw [BitVec.ofInt_natCast, BitVec.toNat_ofNat]; exact Nat.mod_eq_of_lt (by omega)
theorem i64_and_nat (a b : Nat) (ha : a < 9223372036854775808) (hb : b < 9223372036854775808) : bits .and .i64 (a : Int) (b : Int) = ((a &&& b : Nat) : Int) := by
  have hx : a &&& b < 2 ^ 63 := Nat.and_lt_two_pow _ (by omega)
  show IntKind.i64.wrap ((BitVec.ofInt 64 (a : Int) &&& BitVec.ofInt 64 (b : Int)).toNat : Int) = _
  rw [BitVec.toNat_and, ofInt64_nat a ha, ofInt64_nat b hb]
  exact wrap_i64_nat _ (by omega)
theorem i64_or_nat (a b : Nat) (ha : a < 9223372036854775808) (hb : b < 9223372036854775808) : bits .or .i64 (a : Int) (b : Int) = ((a ||| b : Nat) : Int) := by
  have hx : a ||| b < 2 ^ 63 := Nat.or_lt_two_pow (by omega) (by omega)
  show IntKind.i64.wrap ((BitVec.ofInt 64 (a : Int) ||| BitVec.ofInt 64 (b : Int)).toNat : Int) = _
  rw [BitVec.toNat_or, ofInt64_nat a ha, ofInt64_nat b hb]
  exact wrap_i64_nat _ (by omega)
theorem i64_mask (k : Nat) (a : Int) (hk : k ≤ 62) (h0 : 0 ≤ a) (h1 : a < 9223372036854775808) : bits .and .i64 a (2 ^ k - 1 : Nat) = a % (2 ^ k : Nat) := by
  obtain ⟨n, rfl⟩ := Int.eq_ofNat_of_zero_le h0
  have hp : 2 ^ k ≤ 2 ^ 62 := Nat.pow_le_pow_right (by decide) hk
  rw [i64_and_nat n _ (by omega) (by omega), Nat.and_two_pow_sub_one_eq_mod]
  rfl
theorem i64_mask8 (a : Int) (h0 : 0 ≤ a) (h1 : a < 9223372036854775808) : bits .and .i64 a 255 = a % 256 := i64_mask 8 a (by decide) h0 h1
theorem i64_mask20 (a : Int) (h0 : 0 ≤ a) (h1 : a < 9223372036854775808) : bits .and .i64 a 1048575 = a % 1048576 := i64_mask 20 a (by decide) h0 h1
theorem i64_join (k : Nat) (a b : Int) (h0 : 0 ≤ a) (h1 : a * (2 ^ k : Nat) < 9223372036854775808) (h2 : 0 ≤ b) (h3 : b < (2 ^ k : Nat)) (h4 : b < 9223372036854775808) : bits .or .i64 (a * (2 ^ k : Nat)) b = a * (2 ^ k : Nat) + b := by
  obtain ⟨n, rfl⟩ := Int.eq_ofNat_of_zero_le h0
  obtain ⟨m, rfl⟩ := Int.eq_ofNat_of_zero_le h2
  have e : ((n : Int) * (2 ^ k : Nat)) = ((n * 2 ^ k : Nat) : Int) := by rw [Int.natCast_mul]
  rw [e] at h1 ⊢
  rw [i64_or_nat _ m (by omega) (by omega), nat_join k (n * 2 ^ k) m (Nat.mul_mod_left _ _) (by omega)]
  omega
theorem i64_join8 (a b : Int) (h0 : 0 ≤ a) (h1 : a < 36028797018963968) (h2 : 0 ≤ b) (h3 : b < 256) : bits .or .i64 (a * 256) b = a * 256 + b :=
  i64_join 8 a b h0 (by omega) h2 h3 (by omega)
theorem i64_join20 (a b : Int) (h0 : 0 ≤ a) (h1 : a < 8796093022208) (h2 : 0 ≤ b) (h3 : b < 1048576) : bits .or .i64 (a * 1048576) b = a * 1048576 + b :=
  i64_join 20 a b h0 (by omega) h2 h3 (by omega)
theorem ret_bool {a b : Bool} (h : a = b) : Ending.returned (.bool a) = .returned (.bool b) := by rw [h]
theorem ret_int {k : IntKind} {a b : Int} (h : a = b) : Ending.returned (.int k a) = .returned (.int k b) := by rw [h]
theorem ret_ints {k : IntKind} {a b c d : Int} (h : a = b) (h' : c = d) : Ending.returned (.tuple #[.int k a, .int k c]) = .returned (.tuple #[.int k b, .int k d]) := by rw [h, h']

/-! ### the functions -/
def isW (m : Int) : Bool := decide (1 ≤ m ∧ m ≤ 6)
theorem isWidth_any (m : Int) (w : World) :
    Calls Try.prog 22 #[.int .i64 m] w fun e w' => e = .returned (.bool (isW m)) ∧ w = w' := by
  unfold isW
  by_cases h1 : 1 ≤ m
  · by_cases h2 : m ≤ 6
    all_goals
      go_enter Try.func22, Try.ntmps22
      go_wp2
      go_ret
      exact ⟨ret_bool (by simp [h1, h2]), rfl⟩
  · go_enter Try.func22, Try.ntmps22
    go_wp2
    go_ret
    exact ⟨ret_bool (by simp; omega), rfl⟩

/-- A number of m bytes. -/
def fitsB (n m : Int) : Bool := decide (1 ≤ m ∧ m ≤ 6 ∧ 0 ≤ n ∧ n < 256 ^ m.toNat)
theorem pow8 (m : Nat) : (2 : Int) ^ (8 * m) = 256 ^ m := by rw [Int.pow_mul]; rfl
theorem pow8' (m : Int) (h : 0 ≤ m) : (2 : Int) ^ (8 * m).toNat = 256 ^ m.toNat := by
  obtain ⟨k, rfl⟩ := Int.eq_ofNat_of_zero_le h
  rw [← pow8]
  congr 1
theorem div_pow_zero (n : Int) (k : Nat) (h : 0 ≤ n) : n / 256 ^ k = 0 ↔ n < 256 ^ k := by
  have hp : (0 : Int) < 256 ^ k := Int.pow_pos (by decide)
  constructor
  · intro h0
    have := Int.lt_mul_ediv_self_add (x := n) hp
    rw [h0] at this
    omega
  · exact fun h1 => Int.ediv_eq_zero_of_lt h h1
theorem fits_any (n m : Int) (w : World) :
    Calls Try.prog 14 #[.int .i64 n, .int .i64 m] w fun e w' => e = .returned (.bool (fitsB n m)) ∧ w = w' := by
  by_cases h1 : 1 ≤ m ∧ m ≤ 6
  · have hw : isW m = true := by unfold isW; simpa using h1
    obtain ⟨h1, h2⟩ := h1
    by_cases h3 : 0 ≤ n
    · have hf : (n / 2 ^ (8 * m).toNat == 0) = fitsB n m := by
        unfold fitsB
        rw [pow8' m (by omega), Bool.eq_iff_iff, beq_iff_eq, div_pow_zero n _ h3]
        simp [h1, h2, h3]
      have HF := Lib.hid hf
      clear hf
      go_enter Try.func14, Try.ntmps14
      go_wp2_with (go_at_call 22; refine (isWidth_any _ _).mono ?_; rintro e w' ⟨rfl, rfl⟩)
      go_ret
      exact ⟨ret_bool HF.out, rfl⟩
    · have hf : fitsB n m = false := by unfold fitsB; simp; omega
      have HF := Lib.hid hf
      clear hf
      go_enter Try.func14, Try.ntmps14
      go_wp2_with (go_at_call 22; refine (isWidth_any _ _).mono ?_; rintro e w' ⟨rfl, rfl⟩)
      go_ret
      exact ⟨ret_bool HF.out.symm, rfl⟩
  · have hw : isW m = false := by unfold isW; simpa using h1
    have hf : fitsB n m = false := by unfold fitsB; simp; omega
    have HF := Lib.hid hf
    clear hf
    go_enter Try.func14, Try.ntmps14
    go_wp2_with (go_at_call 22; refine (isWidth_any _ _).mono ?_; rintro e w' ⟨rfl, rfl⟩)
    go_ret
    exact ⟨ret_bool HF.out.symm, rfl⟩

theorem handle_ok (g s : Int) (w : World) (h1 : 1 ≤ g) (h2 : g ≤ 1023) (h3 : 0 ≤ s) (h4 : s ≤ 255) :
    Calls Try.prog 16 #[.int .i64 g, .int .i64 s] w fun e w' => e = .returned (.tuple #[.int .i64 (g * 256 + s), .int .i64 0]) ∧ w = w' := by
  have H := Lib.hid (i64_join8 g s (by omega) (by omega) h3 (by omega))
  go_enter Try.func16, Try.ntmps16
  go_wp2
  go_ret2
  exact ⟨ret_ints H.out rfl, rfl⟩
theorem handle_no (g s : Int) (w : World) (h : ¬ (1 ≤ g ∧ g ≤ 1023 ∧ 0 ≤ s ∧ s ≤ 255)) :
    Calls Try.prog 16 #[.int .i64 g, .int .i64 s] w fun e w' => e = .returned (.tuple #[.int .i64 0, .int .i64 2]) ∧ w = w' := by
  have H := Lib.hid h
  clear h
  go_enter Try.func16, Try.ntmps16
  go_wp2
  all_goals first
    | (go_ret2; exact ⟨rfl, rfl⟩)
    | (exfalso; have := H.out; omega)

/-- A handle that may stand in a word of place p: none (0) in place 0 alone. -/
def gwB (h p : Int) : Bool := decide ((h = 0 ∧ p = 0) ∨ (256 ≤ h ∧ h ≤ 262143))
theorem goesWith_any (h p : Int) (w : World) :
    Calls Try.prog 23 #[.int .i64 h, .int .i64 p] w fun e w' => e = .returned (.bool (gwB h p)) ∧ w = w' := by
  by_cases h0 : h = 0
  · subst h0
    have H := Lib.hid (show (p == 0) = gwB 0 p by unfold gwB; rw [Bool.eq_iff_iff]; simp)
    go_enter Try.func23, Try.ntmps23
    go_wp2
    go_ret
    exact ⟨ret_bool H.out, rfl⟩
  · have hb : (h == 0) = false := beq_eq_false_iff_ne.2 h0
    by_cases h1 : 256 ≤ h
    · by_cases h2 : h ≤ 262143
      · have H := Lib.hid (show gwB h p = true by unfold gwB; simp; omega)
        clear h0
        go_enter Try.func23, Try.ntmps23
        go_wp2
        go_ret
        exact ⟨ret_bool (by rw [H.out]), rfl⟩
      · have H := Lib.hid (show gwB h p = false by unfold gwB; simp; omega)
        clear h0
        go_enter Try.func23, Try.ntmps23
        go_wp2
        go_ret
        exact ⟨ret_bool (by rw [H.out]), rfl⟩
    · have H := Lib.hid (show gwB h p = false by unfold gwB; simp; omega)
      clear h0
      go_enter Try.func23, Try.ntmps23
      go_wp2
      go_ret
      exact ⟨ret_bool (by rw [H.out]), rfl⟩

theorem gwB_bd {h p : Int} (g : gwB h p = true) : 0 ≤ h ∧ h ≤ 262143 := by
  unfold gwB at g
  have := of_decide_eq_true g
  omega
theorem word_ok (p h : Int) (w : World) (h1 : 0 ≤ p) (h2 : p ≤ 1048575) (g : gwB h p = true) :
    Calls Try.prog 17 #[.int .i64 p, .int .i64 h] w fun e w' => e = .returned (.tuple #[.int .i64 (p * 1048576 + h), .int .i64 0]) ∧ w = w' := by
  have hb := gwB_bd g
  have H := Lib.hid (i64_join20 p h h1 (by omega) hb.1 (by omega))
  clear hb
  go_enter Try.func17, Try.ntmps17
  go_wp2_with (go_at_call 23; refine (goesWith_any _ _ _).mono ?_; rintro e w' ⟨rfl, rfl⟩)
  go_ret2
  exact ⟨ret_ints H.out rfl, rfl⟩
theorem word_no (p h : Int) (w : World) (hn : ¬ (0 ≤ p ∧ p ≤ 1048575 ∧ gwB h p = true)) :
    Calls Try.prog 17 #[.int .i64 p, .int .i64 h] w fun e w' => e = .returned (.tuple #[.int .i64 0, .int .i64 2]) ∧ w = w' := by
  by_cases h1 : 0 ≤ p
  · by_cases h2 : p ≤ 1048575
    · have g : gwB h p = false := by
        rcases hg : gwB h p with _ | _
        · rfl
        · exact absurd ⟨h1, h2, hg⟩ hn
      clear hn
      go_enter Try.func17, Try.ntmps17
      go_wp2_with (go_at_call 23; refine (goesWith_any _ _ _).mono ?_; rintro e w' ⟨rfl, rfl⟩)
      go_ret2
      exact ⟨rfl, rfl⟩
    · clear hn
      go_enter Try.func17, Try.ntmps17
      go_wp2
      go_ret2
      exact ⟨rfl, rfl⟩
  · clear hn
    go_enter Try.func17, Try.ntmps17
    go_wp2
    go_ret2
    exact ⟨rfl, rfl⟩

/-- A number that is no word is read as 0. -/
def inR (n : Int) : Int := if 0 ≤ n ∧ n ≤ 1099510841343 then n else 0
theorem inR_bd (n : Int) : 0 ≤ inR n ∧ inR n ≤ 1099510841343 := by unfold inR; split <;> omega
theorem inRange_any (n : Int) (w : World) :
    Calls Try.prog 24 #[.int .i64 n] w fun e w' => e = .returned (.int .i64 (inR n)) ∧ w = w' := by
  by_cases h1 : 0 ≤ n
  · by_cases h2 : n ≤ 1099510841343
    · have H := Lib.hid (show inR n = n by unfold inR; rw [if_pos ⟨h1, h2⟩])
      go_enter Try.func24, Try.ntmps24
      go_wp2
      go_ret
      exact ⟨ret_int H.out.symm, rfl⟩
    · have H := Lib.hid (show inR n = 0 by unfold inR; rw [if_neg (by omega)])
      go_enter Try.func24, Try.ntmps24
      go_wp2
      go_ret
      exact ⟨ret_int H.out.symm, rfl⟩
  · have H := Lib.hid (show inR n = 0 by unfold inR; rw [if_neg (by omega)])
    go_enter Try.func24, Try.ntmps24
    go_wp2
    go_ret
    exact ⟨ret_int H.out.symm, rfl⟩

def placeF (n : Int) : Int := inR n / 1048576
def slotF (n : Int) : Int := inR n % 256
def bareF (n : Int) : Int := inR n % 1048576
def genF (n : Int) : Int := bareF n / 256
theorem bareF_bd (n : Int) : 0 ≤ bareF n ∧ bareF n ≤ 1048575 := by unfold bareF; omega
theorem place_any (n : Int) (w : World) :
    Calls Try.prog 18 #[.int .i64 n] w fun e w' => e = .returned (.int .i64 (placeF n)) ∧ w = w' := by
  have hb := inR_bd n
  go_enter Try.func18, Try.ntmps18
  go_wp2_with (go_at_call 24; refine (inRange_any _ _).mono ?_; rintro e w' ⟨rfl, rfl⟩)
  go_ret
  exact ⟨rfl, rfl⟩
theorem slot_any (n : Int) (w : World) :
    Calls Try.prog 20 #[.int .i64 n] w fun e w' => e = .returned (.int .i64 (slotF n)) ∧ w = w' := by
  have hb := inR_bd n
  have H := Lib.hid (i64_mask8 (inR n) hb.1 (by omega))
  go_enter Try.func20, Try.ntmps20
  go_wp2_with (go_at_call 24; refine (inRange_any _ _).mono ?_; rintro e w' ⟨rfl, rfl⟩)
  go_ret
  exact ⟨ret_int H.out, rfl⟩
theorem bare_any (n : Int) (w : World) :
    Calls Try.prog 21 #[.int .i64 n] w fun e w' => e = .returned (.int .i64 (bareF n)) ∧ w = w' := by
  have hb := inR_bd n
  have H := Lib.hid (i64_mask20 (inR n) hb.1 (by omega))
  go_enter Try.func21, Try.ntmps21
  go_wp2_with (go_at_call 24; refine (inRange_any _ _).mono ?_; rintro e w' ⟨rfl, rfl⟩)
  go_ret
  exact ⟨ret_int H.out, rfl⟩
theorem gen_any (n : Int) (w : World) :
    Calls Try.prog 19 #[.int .i64 n] w fun e w' => e = .returned (.int .i64 (genF n)) ∧ w = w' := by
  have hb := bareF_bd n
  go_enter Try.func19, Try.ntmps19
  go_wp2_with (go_at_call 21; refine (bare_any _ _).mono ?_; rintro e w' ⟨rfl, rfl⟩)
  go_ret
  exact ⟨rfl, rfl⟩
end Go.Proofs.Ythkelpnjfggmcaa
