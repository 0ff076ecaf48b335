/- What is proved: record's each and follow ask each, and each two that stand together, until one says no. -/
import Derived.Test.YtmbphhcgmdaoeaaRvA
import Derived.Test.YtmbphhcgmdaoeaaRcY
namespace Go.Proofs.Ytmbphhcgmdaoeaa
open Go.RowKit

set_option maxRecDepth 100000 in
set_option maxHeartbeats 3200000 in
theorem eachL_walk (f : FuncId) (caps : Array Value) (p : Ln → Bool) (lo hi : Nat) (a : Option Addr) (c : Nat) (l : List Ln) (w : World) (h : Rg 5 w lo hi a l.length (lnC l)) (hh : hi ≤ w.heap.size) (hl : l.length ≤ 1000) (hgo : ∀ args W, (callFunc f args).run Try.prog W = .ok (.enter f args) W)
    (hask : ∀ (k : Nat) (W : World), k < l.length → Below w.heap.size w W → Calls Try.prog f (#[(l.getD k lnD).val_] ++ caps) W fun e W' => e = .returned (.bool (p (l.getD k lnD))) ∧ Below W.heap.size W W') :
    Calls Try.prog 68 #[.slice a l.length c, .func (.func f) #[] caps] w fun e w' => e = .returned (.bool (rowAll (fun i => p (l.getD i lnD)) l.length)) ∧ Below w.heap.size w w' := by
  have H := Lib.hid h
  have HK := Lib.hid hask
  clear h hask
  go_enter Try.func68, Try.ntmps68
  go_wp2
  go_loopw [9] (fun i wr => ∃ k : Nat, k ≤ l.length ∧ i = .int .i64 k ∧ rowAll (fun i => p (l.getD i lnD)) k = true ∧ Below w.heap.size w wr) (fun i _ => l.length - (intOf i).toNat)
  case atStart => exact ⟨0, Nat.zero_le _, rfl, rfl, Below.refl _ _⟩
  case round =>
    obtain ⟨k, hk, rfl, hall, hb⟩ := hrel
    by_cases hlt : k < l.length
    · obtain ⟨g, o, rfl, _, hg, _⟩ := H.out.addr (by omega)
      obtain ⟨q0, q1, q2, q3, q4⟩ := ln_cells (H.out.far (hb.mono hh)) hlt
      have hki : (k : Int) < (l.length : Int) := by omega
      have hk0 : (0 : Int) ≤ k := by omega
      have hsucc := rowAll_succ (fun i => p (l.getD i lnD)) k
      rw [hall, Bool.true_and] at hsucc
      have hno := fun h => rowAll_no (p := fun i => p (l.getD i lnD)) hlt h
      have r1 := fun (W1 : World) h => HK.out k W1 hlt h
      generalize l.getD k lnD = x at *
      obtain ⟨W1, e1, hb1, X1, hsz⟩ := Blk.new wr 53 #[.int .i64 x.off, .int .i64 x.place, .int .i64 x.j, .int .i64 x.key, .int .i64 x.val]
      have k0 : W1.cell? ⟨wr.heap.size, 0, none⟩ = some (.int .i64 x.off) := X1.cell 0
      have k1 : W1.cell? ⟨wr.heap.size, 1, none⟩ = some (.int .i64 x.place) := X1.cell 1
      have k2 : W1.cell? ⟨wr.heap.size, 2, none⟩ = some (.int .i64 x.j) := X1.cell 2
      have k3 : W1.cell? ⟨wr.heap.size, 3, none⟩ = some (.int .i64 x.key) := X1.cell 3
      have k4 : W1.cell? ⟨wr.heap.size, 4, none⟩ = some (.int .i64 x.val) := X1.cell 4
      have r2 := r1 W1 (hb.trans (hb1.mono hb.size))
      clear r1
      simp only [Ln.val_] at r2
      rcases hq : p x with _ | _
      · have HN := Lib.hid (hno hq)
        rw [hq] at r2
        clear hno hsucc hall hq
        go_wp2_with fail
        refine r2.mono ?_
        rintro e w3 ⟨rfl, hb3⟩
        go_wp2
        go_ret
        exact ⟨ret_bool HN.out.symm, hb.trans ((below_on hb1 hb3).mono hb.size)⟩
      · rw [hq] at r2 hsucc
        clear hno hall hq
        go_wp2_with fail
        refine r2.mono ?_
        rintro e w3 ⟨rfl, hb3⟩
        go_wp2
        go_roundw
        case rel => exact ⟨k + 1, by omega, by go_num, hsucc, hb.trans ((below_on hb1 hb3).mono hb.size)⟩
        case measure => simp [intOf]; omega
    · obtain rfl : k = l.length := by omega
      go_wp2
      go_ret
      exact ⟨ret_bool hall.symm, hb⟩
def upLAt (p : Ln → Ln → Bool) (l : List Ln) (i : Nat) : Bool := decide (i = 0) || p (l.getD (i - 1) lnD) (l.getD i lnD)
set_option maxRecDepth 100000 in
set_option maxHeartbeats 3200000 in
theorem followL_walk (lo hi : Nat) (a : Option Addr) (c : Nat) (l : List Ln) (w : World) (h : Rg 5 w lo hi a l.length (lnC l)) (hh : hi ≤ w.heap.size) (hl : l.length ≤ 1000)
    (hask : ∀ (k : Nat) (W : World), 0 < k → k < l.length → Below w.heap.size w W → Calls Try.prog 67 #[(l.getD (k - 1) lnD).val_, (l.getD k lnD).val_] W fun e W' => e = .returned (.bool (upL (l.getD (k - 1) lnD) (l.getD k lnD))) ∧ Below W.heap.size W W') :
    Calls Try.prog 69 #[.slice a l.length c, .func (.func 67) #[] #[]] w fun e w' => e = .returned (.bool (rowAll (upLAt upL l) l.length)) ∧ Below w.heap.size w w' := by
  have H := Lib.hid h
  have HK := Lib.hid hask
  clear h hask
  go_enter Try.func69, Try.ntmps69
  go_wp2
  go_loopw [5] (fun i wr => ∃ k : Nat, (k ≤ l.length ∨ k = 1) ∧ 1 ≤ k ∧ i = .int .i64 k ∧ rowAll (upLAt upL l) k = true ∧ Below w.heap.size w wr) (fun i _ => l.length - (intOf i).toNat)
  case atStart => exact ⟨1, .inr rfl, Nat.le_refl _, rfl, rfl, Below.refl _ _⟩
  case round =>
    obtain ⟨k, hk, hk1, rfl, hall, hb⟩ := hrel
    by_cases hlt : k < l.length
    · obtain ⟨g, o, rfl, _, hg, _⟩ := H.out.addr (by omega)
      obtain ⟨q0, q1, q2, q3, q4⟩ := ln_cells (H.out.far (hb.mono hh)) hlt
      obtain ⟨p0, p1, p2, p3, p4⟩ := ln_cells (H.out.far (hb.mono hh)) (show k - 1 < l.length by omega)
      have hki : (k : Int) < (l.length : Int) := by omega
      have hk0 : (0 : Int) ≤ (k : Int) - 1 := by omega
      have hk2 : ((k : Int) * 5).toNat = k * 5 := by omega
      have hk3 : (((k : Int) - 1) * 5).toNat = (k - 1) * 5 := by omega
      have hk4 : ((k : Int) - 1).toNat = k - 1 := by omega
      have hk5 : (k : Int) - 1 < (l.length : Int) := by omega
      have hk6 : wrap64 ((k : Int) - 1) = (k : Int) - 1 := by rw [IntWalk.wrap64_in _ (by omega)]
      have hk7 : IntKind.i64.wrap ((k : Int) - 1) = (k : Int) - 1 := by rw [IntKind.wrap_i64]; omega
      have hsucc := rowAll_succ (upLAt upL l) k
      rw [hall, Bool.true_and] at hsucc
      have hno := fun h => rowAll_no (p := upLAt upL l) hlt h
      have hat : upLAt upL l k = upL (l.getD (k - 1) lnD) (l.getD k lnD) := by unfold upLAt; rw [decide_eq_false (by omega), Bool.false_or]
      rw [hat] at hsucc hno
      have r1 := fun (W1 : World) h => HK.out k W1 (by omega) hlt h
      clear hat
      generalize l.getD k lnD = x at *
      generalize l.getD (k - 1) lnD = y at *
      simp only [Ln.val_] at r1
      rcases hq : upL y x with _ | _
      · have HN := Lib.hid (hno hq)
        rw [hq] at r1
        clear hno hsucc hall hq
        go_wp2_with fail
        go_region_with (go_at_call 67; refine (r1 _ (by first | exact hb | exact hb.drew | exact hb.trans (below_drewN _ _ _))).mono ?_; rintro e w3 ⟨rfl, hb3⟩)
        all_goals
          go_wp2
          go_ret
          exact ⟨ret_bool HN.out.symm, by first | exact hb.trans (hb3.mono hb.size) | exact (hb.trans (below_drewN _ 1 _)).trans (hb3.mono hb.size)⟩
      · rw [hq] at r1 hsucc
        clear hno hall hq
        go_wp2_with fail
        go_region_with (go_at_call 67; refine (r1 _ (by first | exact hb | exact hb.drew | exact hb.trans (below_drewN _ _ _))).mono ?_; rintro e w3 ⟨rfl, hb3⟩)
        all_goals
          go_wp2
          go_roundw
          case rel => exact ⟨k + 1, .inl (by omega), by omega, by go_num, hsucc, by first | exact hb.trans (hb3.mono hb.size) | exact (hb.trans (below_drewN _ 1 _)).trans (hb3.mono hb.size)⟩
          case measure => simp [intOf]; omega
    · have e : rowAll (upLAt upL l) l.length = true := by
        rcases hk with hk | hk
        · obtain rfl : k = l.length := by omega
          exact hall
        · subst hk
          exact rowAll_mk fun i hi => by unfold upLAt; rw [decide_eq_true (by omega)]; rfl
      have HE := Lib.hid e
      clear e
      go_wp2
      go_ret
      exact ⟨ret_bool HE.out.symm, hb⟩
end Go.Proofs.Ytmbphhcgmdaoeaa
