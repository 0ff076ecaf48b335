/- What is proved: the laws' own example (wakes) returns true, whenever New, Put, Get and Crash answer as the document says; ints tells whether two lists of numbers are one. -/
import Derived.Test.YtjahhheipeggeaaDskL
namespace Go.Proofs.Ytjahhheipeggeaa
open Go.RowKit

theorem nums_at (l : List Nat) (k : Nat) (h : k < l.length) : (nums l)[k]? = some (.int .i64 (l[k] : Nat)) := by simp [nums, h]
set_option maxHeartbeats 1600000 in
theorem ints_walk (hi : Nat) (a : Option Addr) (l c : Nat) (xs : List Nat) (hi' : Nat) (a' : Option Addr) (l' c' : Nat) (ys : List Nat) (w : World) (h1 : Rg 1 w 0 hi a l (nums xs)) (h2 : Rg 1 w 0 hi' a' l' (nums ys)) (hl : l ≤ 9223372036854775807) (hl' : l' ≤ 9223372036854775807) (he : xs = ys) :
    Calls Try.prog 24 #[.slice a l c, .slice a' l' c'] w fun e w' => e = .returned (.bool true) ∧ Below w.heap.size w w' := by
  subst he
  have hx : xs.length = l := by have := h1.1; rw [nums_length, Nat.mul_one] at this; exact this
  have hy : xs.length = l' := by have := h2.1; rw [nums_length, Nat.mul_one] at this; exact this
  have hll : l = l' := by omega
  subst hll
  have HX := Lib.hid hx
  have H1 := Lib.hid h1
  have H2 := Lib.hid h2
  clear hx hy h1 h2
  go_enter Try.func24, Try.ntmps24
  go_wp2
  go_loopw [13] (fun i wr => ∃ k n : Nat, k ≤ l ∧ i = .int .i64 k ∧ wr = w.drewN n) (fun i _ => l - (intOf i).toNat)
  case atStart => exact ⟨0, 0, Nat.zero_le _, rfl, rfl⟩
  case round =>
    obtain ⟨k, n, hk, rfl, rfl⟩ := hrel
    by_cases hlt : k < l
    · obtain ⟨g, o, rfl, _, _, hc⟩ := H1.out.addr (by omega)
      obtain ⟨g', o', rfl, _, _, hc'⟩ := H2.out.addr (by omega)
      have hkx : k < xs.length := by rw [HX.out]; exact hlt
      have c1 := hc _ _ (nums_at xs k hkx)
      have c2 := hc' _ _ (nums_at xs k hkx)
      generalize (xs[k] : Nat) = x at *
      have hki : (k : Int) < l := by omega
      have hk0 : (0 : Int) ≤ k := by omega
      clear hc hc' hkx
      go_wp2
      go_quiet (fail)
      go_wp2
      go_roundw
      case rel => exact ⟨k + 1, n + nq, by omega, by go_num, rfl⟩
      case measure => simp [intOf]; omega
    · obtain rfl : k = l := by omega
      go_wp2
      go_ret
      exact ⟨rfl, below_drewN _ _ _⟩

theorem bcell {W w1 : World} (hb : Below W.heap.size W w1) : (∀ b o, b < W.heap.size → w1.cell? ⟨b, o, none⟩ = W.cell? ⟨b, o, none⟩) ∧ (∀ b o, b < W.heap.size → w1.frozen? ⟨b, o, none⟩ = W.frozen? ⟨b, o, none⟩) :=
  ⟨fun b o h => hb.cell (p := ⟨b, o, none⟩) h, fun b o h => hb.frozen (p := ⟨b, o, none⟩) h⟩
def strA : ByteArray := ⟨#[97]⟩
def strB : ByteArray := ⟨#[98]⟩
def wk1 : Dsk := (putF newD 0 5 strA).1
def wk2 : Dsk := (putF wk1 0 4 strB).1
def wk3 : Dsk := (crashF wk1 1).1
set_option maxRecDepth 100000 in
theorem wk_facts : smallD newD = true ∧ (putF newD 0 5 strA).2 = 0 ∧ smallD wk1 = true ∧ (putF wk1 0 4 strB).2 = 0 ∧ smallD wk2 = true ∧ secEq (getF wk2 0).1 ⟨5, strA⟩ = true ∧ (getF wk2 0).2 = 0 ∧ (crashF wk1 1).2 = 0 ∧ smallD wk3 = true ∧ secEq (getF wk3 0).1 noSec = true ∧ (getF wk3 0).2 = 0 ∧ wk3.now.length = 33 := by
  refine ⟨by decide +kernel, by decide +kernel, by decide +kernel, by decide +kernel, by decide +kernel, by decide +kernel, by decide +kernel, by decide +kernel, by decide +kernel, by decide +kernel, by decide +kernel, by decide +kernel⟩
end Go.Proofs.Ytjahhheipeggeaa
