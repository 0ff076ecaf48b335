/- What is proved: the statement RecordFar walked over any functions that answer as the specs say. -/
import Derived.Test.YtmbphhcgmdaoeaaRcT
namespace Go.Proofs.Ytmbphhcgmdaoeaa
open Go.RowKit

def St.to (s : St) (m : Int) : St := ⟨m, s.items, s.l0, s.l1, s.l2, s.c0, s.c1, s.c2⟩
def mxI (l : List It) : Nat → Int
  | 0 => 0
  | k + 1 => max (mxI l k) (l.getD k itD).place
def mxL (a : Int) (l : List Ln) : Nat → Int
  | 0 => a
  | k + 1 => max (mxL a l k) (l.getD k lnD).place
def farK (s : St) : Nat → Int
  | 0 => mxI s.items s.items.length
  | 1 => max (mxL (mxI s.items s.items.length) s.l0 s.l0.length) s.c0
  | 2 => max (mxL (max (mxL (mxI s.items s.items.length) s.l0 s.l0.length) s.c0) s.l1 s.l1.length) s.c1
  | _ => max (mxL (max (mxL (max (mxL (mxI s.items s.items.length) s.l0 s.l0.length) s.c0) s.l1 s.l1.length) s.c1) s.l2 s.l2.length) s.c2
theorem mxI_up (l : List It) (k : Nat) : 0 ≤ mxI l k ∧ ∀ i, i < k → (l.getD i itD).place ≤ mxI l k := by
  induction k with
  | zero => exact ⟨Int.le_refl _, fun i hi => by omega⟩
  | succ k ih =>
    refine ⟨by unfold mxI; omega, fun i hi => ?_⟩
    unfold mxI
    rcases Nat.lt_or_ge i k with h | h
    · have := ih.2 i h; omega
    · obtain rfl : i = k := by omega
      omega
theorem mxI_le (l : List It) (m : Int) (hm : 0 ≤ m) (k : Nat) (h : ∀ i, i < k → (l.getD i itD).place ≤ m) : mxI l k ≤ m := by
  induction k with
  | zero => exact hm
  | succ k ih =>
    unfold mxI
    have := ih fun i hi => h i (by omega)
    have := h k (by omega)
    omega
theorem mxL_up (a : Int) (l : List Ln) (k : Nat) : a ≤ mxL a l k ∧ ∀ i, i < k → (l.getD i lnD).place ≤ mxL a l k := by
  induction k with
  | zero => exact ⟨Int.le_refl _, fun i hi => by omega⟩
  | succ k ih =>
    refine ⟨by unfold mxL; omega, fun i hi => ?_⟩
    unfold mxL
    rcases Nat.lt_or_ge i k with h | h
    · have := ih.2 i h; omega
    · obtain rfl : i = k := by omega
      omega
theorem mxL_le (a : Int) (l : List Ln) (m : Int) (hm : a ≤ m) (k : Nat) (h : ∀ i, i < k → (l.getD i lnD).place ≤ m) : mxL a l k ≤ m := by
  induction k with
  | zero => exact hm
  | succ k ih =>
    unfold mxL
    have := ih fun i hi => h i (by omega)
    have := h k (by omega)
    omega
/-- Nothing of the state is beyond m. -/
def Under (s : St) (m : Int) : Prop := (∀ i, i < s.items.length → (s.items.getD i itD).place ≤ m) ∧ (∀ i, i < s.l0.length → (s.l0.getD i lnD).place ≤ m) ∧ (∀ i, i < s.l1.length → (s.l1.getD i lnD).place ≤ m) ∧ (∀ i, i < s.l2.length → (s.l2.getD i lnD).place ≤ m) ∧ s.c0 ≤ m ∧ s.c1 ≤ m ∧ s.c2 ≤ m
theorem lnsB_to {l : List Ln} {p m c : Int} (h : lnsB l p c = true) (hc : c ≤ m) (hu : ∀ i, i < l.length → (l.getD i lnD).place ≤ m) : lnsB l m c = true := by
  obtain ⟨h1, h2⟩ := Bool.and_eq_true_iff.1 h
  obtain ⟨q1, q2, q3⟩ := of_decide_eq_true h1
  refine Bool.and_eq_true_iff.2 ⟨decide_eq_true ⟨q1, q2, hc⟩, rowAll_mk fun i hi => ?_⟩
  have h3 := rowAll_get h2 hi
  have h4 := hu i hi
  unfold lnAt at h3 ⊢
  simp only [Bool.and_eq_true, decide_eq_true_eq] at h3 ⊢
  obtain ⟨⟨⟨a1, a2, a3, a4, a5⟩, a6⟩, a7⟩ := h3
  exact ⟨⟨⟨a1, a2, a3, h4, a5⟩, a6⟩, a7⟩
theorem stands_to {s : St} {m : Int} (h : stands s = true) (h0 : 0 ≤ m) (h1 : m ≤ 1048575) (hu : Under s m) : stands (s.to m) = true := by
  obtain ⟨a1, a2, a3, a4, a5, a6⟩ := stands_parts h
  obtain ⟨u1, u2, u3, u4, u5, u6, u7⟩ := hu
  have b3 : itsB s.items m = true := rowAll_mk fun i hi => by
    have h3 := of_decide_eq_true (rowAll_get a3 hi)
    exact decide_eq_true ⟨h3.1, h3.2.1, h3.2.2.1, h3.2.2.2.1, u1 i hi, h3.2.2.2.2.2⟩
  have b4 := lnsB_to a4 u5 u2
  have b5 := lnsB_to a5 u6 u3
  have b6 := lnsB_to a6 u7 u4
  unfold stands St.to
  simp only [b3, b4, b5, b6, Bool.and_true]
  exact decide_eq_true ⟨h0, h1⟩
theorem lnsB_under {l : List Ln} {m c : Int} (h : lnsB l m c = true) : c ≤ m ∧ ∀ i, i < l.length → (l.getD i lnD).place ≤ m := by
  obtain ⟨_, _, h3, h4⟩ := lnsB_parts h
  refine ⟨h3, fun i hi => ?_⟩
  rw [getD_at (List.getElem?_eq_getElem hi)]
  exact (h4 i _ (List.getElem?_eq_getElem hi)).2.2.2.1
theorem stands_under {s : St} (h : stands s = true) : 0 ≤ s.place ∧ Under s s.place := by
  obtain ⟨a1, a2, a3, a4, a5, a6⟩ := stands_parts h
  obtain ⟨b1, b2⟩ := lnsB_under a4
  obtain ⟨c1, c2⟩ := lnsB_under a5
  obtain ⟨d1, d2⟩ := lnsB_under a6
  exact ⟨a1, fun i hi => (of_decide_eq_true (rowAll_get a3 hi)).2.2.2.2.1, b2, c2, d2, b1, c1, d1⟩
theorem farK3 (s : St) : farK s 3 = max (mxL (max (mxL (max (mxL (mxI s.items s.items.length) s.l0 s.l0.length) s.c0) s.l1 s.l1.length) s.c1) s.l2 s.l2.length) s.c2 := rfl
theorem far_under (s : St) : 0 ≤ farK s 3 ∧ Under s (farK s 3) := by
  have i0 := mxI_up s.items s.items.length
  have e0 := mxL_up (mxI s.items s.items.length) s.l0 s.l0.length
  have e1 := mxL_up (max (mxL (mxI s.items s.items.length) s.l0 s.l0.length) s.c0) s.l1 s.l1.length
  have e2 := mxL_up (max (mxL (max (mxL (mxI s.items s.items.length) s.l0 s.l0.length) s.c0) s.l1 s.l1.length) s.c1) s.l2 s.l2.length
  rw [farK3]
  refine ⟨by omega, fun i hi => ?_, fun i hi => ?_, fun i hi => ?_, fun i hi => ?_, by omega, by omega, by omega⟩
  · have := i0.2 i hi; omega
  · have := e0.2 i hi; omega
  · have := e1.2 i hi; omega
  · have := e2.2 i hi; omega
theorem far_le {s : St} {m : Int} (h0 : 0 ≤ m) (hu : Under s m) : farK s 3 ≤ m := by
  obtain ⟨u1, u2, u3, u4, u5, u6, u7⟩ := hu
  have i0 := mxI_le s.items m h0 s.items.length u1
  have e0 := mxL_le (mxI s.items s.items.length) s.l0 m i0 s.l0.length u2
  have e1 := mxL_le (max (mxL (mxI s.items s.items.length) s.l0 s.l0.length) s.c0) s.l1 m (by omega) s.l1.length u3
  have e2 := mxL_le (max (mxL (max (mxL (mxI s.items s.items.length) s.l0 s.l0.length) s.c0) s.l1 s.l1.length) s.c1) s.l2 m (by omega) s.l2.length u4
  rw [farK3]
  omega
theorem far_1 {s : St} (h : stands s = true) (n : Int) : stands (s.to (max (min n 1048575) s.place)) = true := by
  obtain ⟨h0, u1, u2, u3, u4, u5, u6, u7⟩ := stands_under h
  have h1 := (stands_parts h).2.1
  refine stands_to h (by omega) (by omega) ⟨fun i hi => ?_, fun i hi => ?_, fun i hi => ?_, fun i hi => ?_, by omega, by omega, by omega⟩
  · have := u1 i hi; omega
  · have := u2 i hi; omega
  · have := u3 i hi; omega
  · have := u4 i hi; omega
theorem far_2 {s : St} (h : stands s = true) : stands (s.to (farK s 3)) = true := by
  obtain ⟨h0, hu⟩ := stands_under h
  have h1 := (stands_parts h).2.1
  have := far_le h0 hu
  exact stands_to h (far_under s).1 (by omega) (far_under s).2
theorem far_3 (s : St) : stands (s.to (farK s 3 - 1)) = false := by
  rcases h : stands (s.to (farK s 3 - 1)) with _ | _
  · rfl
  · obtain ⟨h0, hu⟩ := stands_under h
    have : farK s 3 ≤ farK s 3 - 1 := far_le (s := s) h0 hu
    omega
end Go.Proofs.Ytmbphhcgmdaoeaa
