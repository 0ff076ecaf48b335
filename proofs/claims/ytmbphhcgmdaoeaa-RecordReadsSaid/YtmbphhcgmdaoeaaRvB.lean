/- What is proved: record's each and follow ask each, and each two that stand together, until one says no. -/
import Derived.Test.YtmbphhcgmdaoeaaRvA
import Derived.Test.YtmbphhcgmdaoeaaReA
namespace Go.Proofs.Ytmbphhcgmdaoeaa
open Go.RowKit

set_option maxRecDepth 100000 in
set_option maxHeartbeats 3200000 in
theorem eachW_walk (f : FuncId) (caps : Array Value) (p : Wr → Bool) (lo hi : Nat) (a : Option Addr) (c : Nat) (l : List Wr) (w : World) (h : Rg 2 w lo hi a l.length (wrC l)) (hh : hi ≤ w.heap.size) (hl : l.length ≤ 1000) (hgo : ∀ args W, (callFunc f args).run Try.prog W = .ok (.enter f args) W)
    (hask : ∀ (k : Nat) (W : World), k < l.length → Below w.heap.size w W → Calls Try.prog f (#[(l.getD k wrD).val_] ++ caps) W fun e W' => e = .returned (.bool (p (l.getD k wrD))) ∧ Below W.heap.size W W') :
    Calls Try.prog 39 #[.slice a l.length c, .func (.func f) #[] caps] w fun e w' => e = .returned (.bool (rowAll (fun i => p (l.getD i wrD)) l.length)) ∧ Below w.heap.size w w' := by
  have H := Lib.hid h
  have HK := Lib.hid hask
  clear h hask
  go_enter Try.func39, Try.ntmps39
  go_wp2
  go_loopw [9] (fun i wr => ∃ k : Nat, k ≤ l.length ∧ i = .int .i64 k ∧ rowAll (fun i => p (l.getD i wrD)) k = true ∧ Below w.heap.size w wr) (fun i _ => l.length - (intOf i).toNat)
  case atStart => exact ⟨0, Nat.zero_le _, rfl, rfl, Below.refl _ _⟩
  case round =>
    obtain ⟨k, hk, rfl, hall, hb⟩ := hrel
    by_cases hlt : k < l.length
    · obtain ⟨g, o, rfl, _, hg, _⟩ := H.out.addr (by omega)
      obtain ⟨q0, q1⟩ := wr_cells (H.out.far (hb.mono hh)) hlt
      have hki : (k : Int) < (l.length : Int) := by omega
      have hk0 : (0 : Int) ≤ k := by omega
      have hsucc := rowAll_succ (fun i => p (l.getD i wrD)) k
      rw [hall, Bool.true_and] at hsucc
      have hno := fun h => rowAll_no (p := fun i => p (l.getD i wrD)) hlt h
      have r1 := fun (W1 : World) h => HK.out k W1 hlt h
      generalize l.getD k wrD = x at *
      obtain ⟨W1, e1, hb1, X1, hsz⟩ := Blk.new wr 56 #[.int .i64 x.key, .int .i64 x.val]
      have k0 : W1.cell? ⟨wr.heap.size, 0, none⟩ = some (.int .i64 x.key) := X1.cell 0
      have k1 : W1.cell? ⟨wr.heap.size, 1, none⟩ = some (.int .i64 x.val) := X1.cell 1
      have r2 := r1 W1 (hb.trans (hb1.mono hb.size))
      clear r1
      simp only [Wr.val_] at r2
      rcases hq : p x with _ | _
      · have HN := Lib.hid (hno hq)
        rw [hq] at r2
        clear hno hsucc hall hq
        go_wp2_with fail
        refine r2.mono ?_
        rintro e w3 ⟨rfl, hb3⟩
        go_wp2
        go_ret
        exact ⟨ret_bool HN.out.symm, hb.trans ((below_on hb1 hb3).mono hb.size)⟩
      · rw [hq] at r2 hsucc
        clear hno hall hq
        go_wp2_with fail
        refine r2.mono ?_
        rintro e w3 ⟨rfl, hb3⟩
        go_wp2
        go_roundw
        case rel => exact ⟨k + 1, by omega, by go_num, hsucc, hb.trans ((below_on hb1 hb3).mono hb.size)⟩
        case measure => simp [intOf]; omega
    · obtain rfl : k = l.length := by omega
      go_wp2
      go_ret
      exact ⟨ret_bool hall.symm, hb⟩
def upWAt (p : Wr → Wr → Bool) (l : List Wr) (i : Nat) : Bool := decide (i = 0) || p (l.getD (i - 1) wrD) (l.getD i wrD)
set_option maxRecDepth 100000 in
set_option maxHeartbeats 3200000 in
theorem followW_walk (lo hi : Nat) (a : Option Addr) (c : Nat) (l : List Wr) (w : World) (h : Rg 2 w lo hi a l.length (wrC l)) (hh : hi ≤ w.heap.size) (hl : l.length ≤ 1000)
    (hask : ∀ (k : Nat) (W : World), 0 < k → k < l.length → Below w.heap.size w W → Calls Try.prog 38 #[(l.getD (k - 1) wrD).val_, (l.getD k wrD).val_] W fun e W' => e = .returned (.bool (upW (l.getD (k - 1) wrD) (l.getD k wrD))) ∧ Below W.heap.size W W') :
    Calls Try.prog 40 #[.slice a l.length c, .func (.func 38) #[] #[]] w fun e w' => e = .returned (.bool (rowAll (upWAt upW l) l.length)) ∧ Below w.heap.size w w' := by
  have H := Lib.hid h
  have HK := Lib.hid hask
  clear h hask
  go_enter Try.func40, Try.ntmps40
  go_wp2
  go_loopw [5] (fun i wr => ∃ k : Nat, (k ≤ l.length ∨ k = 1) ∧ 1 ≤ k ∧ i = .int .i64 k ∧ rowAll (upWAt upW l) k = true ∧ Below w.heap.size w wr) (fun i _ => l.length - (intOf i).toNat)
  case atStart => exact ⟨1, .inr rfl, Nat.le_refl _, rfl, rfl, Below.refl _ _⟩
  case round =>
    obtain ⟨k, hk, hk1, rfl, hall, hb⟩ := hrel
    by_cases hlt : k < l.length
    · obtain ⟨g, o, rfl, _, hg, _⟩ := H.out.addr (by omega)
      obtain ⟨q0, q1⟩ := wr_cells (H.out.far (hb.mono hh)) hlt
      obtain ⟨p0, p1⟩ := wr_cells (H.out.far (hb.mono hh)) (show k - 1 < l.length by omega)
      have hki : (k : Int) < (l.length : Int) := by omega
      have hk0 : (0 : Int) ≤ (k : Int) - 1 := by omega
      have hk2 : ((k : Int) * 2).toNat = k * 2 := by omega
      have hk3 : (((k : Int) - 1) * 2).toNat = (k - 1) * 2 := by omega
      have hk4 : ((k : Int) - 1).toNat = k - 1 := by omega
      have hk5 : (k : Int) - 1 < (l.length : Int) := by omega
      have hk6 : wrap64 ((k : Int) - 1) = (k : Int) - 1 := by rw [IntWalk.wrap64_in _ (by omega)]
      have hk7 : IntKind.i64.wrap ((k : Int) - 1) = (k : Int) - 1 := by rw [IntKind.wrap_i64]; omega
      have hsucc := rowAll_succ (upWAt upW l) k
      rw [hall, Bool.true_and] at hsucc
      have hno := fun h => rowAll_no (p := upWAt upW l) hlt h
      have hat : upWAt upW l k = upW (l.getD (k - 1) wrD) (l.getD k wrD) := by unfold upWAt; rw [decide_eq_false (by omega), Bool.false_or]
      rw [hat] at hsucc hno
      have r1 := fun (W1 : World) h => HK.out k W1 (by omega) hlt h
      clear hat
      generalize l.getD k wrD = x at *
      generalize l.getD (k - 1) wrD = y at *
      simp only [Wr.val_] at r1
      rcases hq : upW y x with _ | _
      · have HN := Lib.hid (hno hq)
        rw [hq] at r1
        clear hno hsucc hall hq
        go_wp2_with fail
        go_region_with (go_at_call 38; refine (r1 _ (by first | exact hb | exact hb.drew | exact hb.trans (below_drewN _ _ _))).mono ?_; rintro e w3 ⟨rfl, hb3⟩)
        all_goals
          go_wp2
          go_ret
          exact ⟨ret_bool HN.out.symm, by first | exact hb.trans (hb3.mono hb.size) | exact (hb.trans (below_drewN _ 1 _)).trans (hb3.mono hb.size)⟩
      · rw [hq] at r1 hsucc
        clear hno hall hq
        go_wp2_with fail
        go_region_with (go_at_call 38; refine (r1 _ (by first | exact hb | exact hb.drew | exact hb.trans (below_drewN _ _ _))).mono ?_; rintro e w3 ⟨rfl, hb3⟩)
        all_goals
          go_wp2
          go_roundw
          case rel => exact ⟨k + 1, .inl (by omega), by omega, by go_num, hsucc, by first | exact hb.trans (hb3.mono hb.size) | exact (hb.trans (below_drewN _ 1 _)).trans (hb3.mono hb.size)⟩
          case measure => simp [intOf]; omega
    · have e : rowAll (upWAt upW l) l.length = true := by
        rcases hk with hk | hk
        · obtain rfl : k = l.length := by omega
          exact hall
        · subst hk
          exact rowAll_mk fun i hi => by unfold upWAt; rw [decide_eq_true (by omega)]; rfl
      have HE := Lib.hid e
      clear e
      go_wp2
      go_ret
      exact ⟨ret_bool HE.out.symm, hb⟩
end Go.Proofs.Ytmbphhcgmdaoeaa
