/- What is proved: the statement RecordParts walked over any functions that answer as the specs say. -/
import Derived.Test.YtmbphhcgmdaoeaaRcW
namespace Go.Proofs.Ytmbphhcgmdaoeaa
open Go.RowKit

theorem greatw_any (a : Option Addr) (n c : Nat) (w : World) :
    Calls Try.prog 10 #[.slice a n c] w fun e w' => e = .returned (.bool (decide (40 < (n : Int)))) ∧ w = w' := by
  by_cases h : 40 < (n : Int)
  all_goals
    go_enter Try.func10, Try.ntmps10
    go_wp2
    go_ret
    exact ⟨ret_bool (by first | rfl | simp [h]), rfl⟩
def partAt (l : List Wr) (i : Nat) : Bool := wrB [l.getD i wrD] && (decide (i = 0) || wrB [l.getD (i - 1) wrD, l.getD i wrD])
def partsTo (l : List Wr) (k : Nat) : Bool := decide (l.length ≤ 4) && rowAll (partAt l) k
theorem wrB_one (x : Wr) : wrB [x] = decide (0 ≤ x.key ∧ x.key < 24 ∧ 0 ≤ x.val ∧ x.val ≤ 255) := by
  simp [wrB, rowAll, wrAt]
theorem wrB_two (x y : Wr) : wrB [x, y] = (wrB [x] && wrB [y] && decide (x.key < y.key)) := by
  rw [wrB_one, wrB_one]
  simp [wrB, rowAll, wrAt, List.range_succ]
  by_cases h1 : 0 ≤ x.key ∧ x.key < 24 ∧ 0 ≤ x.val ∧ x.val ≤ 255
  · by_cases h2 : 0 ≤ y.key ∧ y.key < 24 ∧ 0 ≤ y.val ∧ y.val ≤ 255
    · by_cases h3 : x.key < y.key <;> simp [h1, h2, h3]
    · simp [h1]
      grind
  · grind
theorem parts_all (l : List Wr) : partsTo l l.length = wrB l := by
  unfold partsTo wrB
  congr 1
  rcases h : rowAll (wrAt l) l.length with _ | _
  · rcases h2 : rowAll (partAt l) l.length with _ | _
    · rfl
    · exfalso
      have : rowAll (wrAt l) l.length = true := rowAll_mk fun i hi => by
        have q := rowAll_get h2 hi
        unfold partAt at q
        obtain ⟨q1, q2⟩ := Bool.and_eq_true_iff.1 q
        rw [wrB_one] at q1
        have q1 := of_decide_eq_true q1
        unfold wrAt
        rw [decide_eq_true_eq]
        refine ⟨q1.1, q1.2.1, q1.2.2.1, q1.2.2.2, ?_⟩
        rcases Bool.or_eq_true_iff.1 q2 with q3 | q3
        · exact .inl (of_decide_eq_true q3)
        · rw [wrB_two] at q3
          exact .inr (of_decide_eq_true (Bool.and_eq_true_iff.1 q3).2)
      rw [this] at h
      cases h
  · refine rowAll_mk fun i hi => ?_
    have q := of_decide_eq_true (rowAll_get h hi)
    obtain ⟨q1, q2, q3, q4, q5⟩ := q
    have e1 : wrB [l.getD i wrD] = true := by rw [wrB_one]; exact decide_eq_true ⟨q1, q2, q3, q4⟩
    unfold partAt
    rw [e1, Bool.true_and, Bool.or_eq_true]
    rcases q5 with q5 | q5
    · exact .inl (decide_eq_true q5)
    · by_cases h0 : i = 0
      · exact .inl (decide_eq_true h0)
      · refine .inr ?_
        have p := of_decide_eq_true (rowAll_get h (show i - 1 < l.length by omega))
        obtain ⟨p1, p2, p3, p4, _⟩ := p
        rw [wrB_two, e1, decide_eq_true q5, wrB_one, decide_eq_true ⟨p1, p2, p3, p4⟩]
        rfl
end Go.Proofs.Ytmbphhcgmdaoeaa
