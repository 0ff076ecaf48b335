/- What is proved: the contract of flumeref05's (reader).number. -/
import Derived.Test.YtmbphhcgmdaoeaaReO
import Derived.Test.YtmbphhcgmdaoeaaRvR
import Derived.Deep.QuietTactic
import Derived.BigQuiet
namespace Go.Proofs.Ytmbphhcgmdaoeaa
open Go.RowKit

theorem grown_cell (w : World) (Q j : Nat) (v : Value) : w.grownBy (w.setCell ⟨Q, j, none⟩ v) (some Q) :=
  ⟨rfl, rfl, rfl, by simp, fun k _ hne => Below.heap_setCell w ⟨Q, j, none⟩ v k (fun e => hne (by rw [e]))⟩
theorem rnum_ok (w : World) (Q B : Nat) (a : Option Addr) (c at_ m : Nat) (sh : Bool) (xs : List Int) (hB : Blk w Q #[.slice a xs.length c, .int .i64 at_, .bool sh]) (hr : Rd w B a xs.length (u8s xs)) (hBQ : B ≤ w.heap.size) (hm1 : 1 ≤ m) (hm6 : m ≤ 6) (hx : IsBytes xs) (hl : xs.length ≤ 1000000) (h : at_ + m ≤ xs.length) :
    Calls Try.prog 59 #[.pointer (some ⟨Q, 0, none⟩), .int .i64 m] w fun e w' => e = .returned (.int .i64 (num ((xs.drop at_).take m))) ∧ Blk w' Q #[.slice a xs.length c, .int .i64 ((at_ + m : Nat) : Int), .bool sh] ∧ w.grownBy w' (some Q) := by
  have q0 : w.cell? ⟨Q, 0, none⟩ = some (.slice a xs.length c) := hB.cell 0
  have q1 : w.cell? ⟨Q, 1, none⟩ = some (.int .i64 at_) := hB.cell 1
  have f1 : w.frozen? ⟨Q, 1, none⟩ = false := hB.free 1
  have hrw : Rd w w.heap.size a xs.length (u8s xs) := ⟨hr.1, hr.2.imp id fun ⟨g, o, e, hg, hc⟩ => ⟨g, o, e, by omega, hc⟩⟩
  have n1 := fun k : Nat => rget_ok a xs.length c xs at_ m (w.drewN k) hm1 hm6 hrw hx hl h
  have hw : wrap64 ((at_ : Int) + (m : Int)) = (at_ : Int) + (m : Int) := IntWalk.wrap64_in _ (by omega)
  have hc : ((at_ + m : Nat) : Int) = (at_ : Int) + (m : Int) := by omega
  rw [hc]
  clear hc
  generalize num ((xs.drop at_).take m) = z at *
  go_enter Try.func59, Try.ntmps59
  go_wp2_with fail
  go_quiet (first | (go_at_call 55; exact Calls.quiet_of_same ((n1 _).mono fun _ _ h => ⟨h.1, h.2.symm⟩)))
  go_wp2
  go_ret
  exact ⟨rfl, (show Blk (w.drewN nq) Q _ from hB).set 1 _, grown_trans (grown_below (below_drewN w nq w.heap.size) (Nat.le_refl _) (some Q)) (grown_cell _ Q 1 _) (fun k hk => .inl (by cases hk; rfl))⟩
theorem rnum_short (w : World) (Q : Nat) (a : Option Addr) (c at_ m : Nat) (sh : Bool) (xs : List Int) (hB : Blk w Q #[.slice a xs.length c, .int .i64 at_, .bool sh]) (hm1 : 1 ≤ m) (hm6 : m ≤ 6) (hl : xs.length ≤ 1000000) (h : xs.length < at_ + m) :
    Calls Try.prog 59 #[.pointer (some ⟨Q, 0, none⟩), .int .i64 m] w fun e w' => e = .returned (.int .i64 0) ∧ Blk w' Q #[.slice a xs.length c, .int .i64 at_, .bool true] ∧ w.grownBy w' (some Q) := by
  have q0 : w.cell? ⟨Q, 0, none⟩ = some (.slice a xs.length c) := hB.cell 0
  have q1 : w.cell? ⟨Q, 1, none⟩ = some (.int .i64 at_) := hB.cell 1
  have q2 : w.cell? ⟨Q, 2, none⟩ = some (.bool sh) := hB.cell 2
  have f2 : w.frozen? ⟨Q, 2, none⟩ = false := hB.free 2
  have n1 := fun k : Nat => rget_code a xs.length c at_ m (w.drewN k) ⟨by omega, by omega⟩ hl (.inr (by omega))
  go_enter Try.func59, Try.ntmps59
  go_wp2_with fail
  go_quiet (first | (go_at_call 55; exact Calls.quiet_of_same ((n1 _).mono fun _ _ h => ⟨h.1, h.2.symm⟩)))
  go_wp2
  go_ret
  exact ⟨rfl, (show Blk (w.drewN nq) Q _ from hB).set 2 _, grown_trans (grown_below (below_drewN w nq w.heap.size) (Nat.le_refl _) (some Q)) (grown_cell _ Q 2 _) (fun k hk => .inl (by cases hk; rfl))⟩
end Go.Proofs.Ytmbphhcgmdaoeaa
