/- What is proved: the statement RecordParts walked over any functions that answer as the specs say. -/
import Derived.Test.YtmbphhcgmdaoeaaRcL
namespace Go.Proofs.Ytmbphhcgmdaoeaa
open Go.RowKit

theorem one_part {l : List Wr} {k : Nat} (hk : k < l.length) : ((wrC l).drop (k * 2)).take (1 * 2) = wrC [l.getD k wrD] := by
  unfold wrC
  rw [flat_drop _ 2 (fun _ => rfl), flat_take _ 2 (fun _ => rfl)]
  congr 1
  rw [List.drop_eq_getElem_cons hk, getD_at (List.getElem?_eq_getElem hk)]
  rfl
theorem two_part {l : List Wr} {k : Nat} (hk : k + 1 < l.length) : ((wrC l).drop (k * 2)).take (2 * 2) = wrC [l.getD k wrD, l.getD (k + 1) wrD] := by
  unfold wrC
  rw [flat_drop _ 2 (fun _ => rfl), flat_take _ 2 (fun _ => rfl)]
  congr 1
  rw [List.drop_eq_getElem_cons (by omega), List.drop_eq_getElem_cons hk, getD_at (List.getElem?_eq_getElem (show k < l.length by omega)), getD_at (List.getElem?_eq_getElem hk)]
  rfl
theorem getD_in {l : List Wr} (h : ∀ x ∈ l, x.In) {k : Nat} (hk : k < l.length) : (l.getD k wrD).In := by
  rw [getD_at (List.getElem?_eq_getElem hk)]
  exact h _ (List.getElem_mem hk)
theorem partsTo_succ (l : List Wr) (k : Nat) : partsTo l (k + 1) = (partsTo l k && partAt l k) := by
  unfold partsTo
  rw [rowAll_succ, Bool.and_assoc]
set_option maxRecDepth 100000 in
set_option maxHeartbeats 3200000 in
theorem walkRecordParts (hB : BytesSpec 13) (hR : ReadSpec 27) (hS : StandsSpec 21) (hW : WrittenSpec 19) (hM : MaySpec 17)
    (v : Value) (l : List Wr) (w : World) (h : Sl 2 w 0 w.heap.size v l.length (wrC l)) (hI : ∀ x ∈ l, x.In) :
    Calls Try.prog 7 #[v] w fun e w' => e = .returned (.bool true) ∧ Below w.heap.size w w' := by
  obtain ⟨a, c, rfl, hnc, hcm, hr⟩ := h
  have n0 := greatw_any a l.length c w
  by_cases hg : 40 < (l.length : Int)
  · rw [decide_eq_true hg] at n0
    have n1 := wakes_any hB hR hS w
    go_enter Try.func7, Try.ntmps7
    go_wp2_with fail
    refine n0.mono ?_
    rintro e w1 ⟨rfl, rfl⟩
    go_wp2_with fail
    refine n1.mono ?_
    rintro e w2 ⟨rfl, b2⟩
    go_wp2
    go_ret
    exact ⟨rfl, b2⟩
  · rw [decide_eq_false hg] at n0
    go_enter Try.func7, Try.ntmps7
    go_wp2_with fail
    refine n0.mono ?_
    rintro e w1 ⟨rfl, rfl⟩
    clear n0
    go_wp2
    go_loopw [3, 13] (fun x i wr => ∃ k : Nat, k ≤ l.length ∧ i = .int .i64 k ∧ x = .bool (partsTo l k) ∧ Below w.heap.size w wr) (fun _ i _ => l.length - (intOf i).toNat)
    case atStart =>
      refine ⟨0, Nat.zero_le _, rfl, ?_, Below.refl _ _⟩
      unfold partsTo
      simp [rowAll]
      omega
    case round =>
      obtain ⟨k, hk, rfl, rfl, hb⟩ := hrel
      by_cases hlt : k < l.length
      · obtain ⟨g, o, rfl, _, hgw, _⟩ := hr.addr (by omega)
        have hrw := hr.on hb hb.size
        have hp1 := hrw.part (i := k) (k := 1) (by omega)
        rw [one_part hlt] at hp1
        have n1 := hW (.slice (some ⟨g, o + k * 2, none⟩) 1 (c - k)) [l.getD k wrD] wr ⟨_, _, rfl, show 1 ≤ c - k by omega, show c - k ≤ maxLen by omega, hp1⟩ (by intro x hx; rw [List.mem_singleton] at hx; subst hx; exact getD_in hI hlt) (by simp)
        have hs := partsTo_succ l k
        have hk2 : ((k : Int) * 2).toNat = k * 2 := by omega
        rcases hq : partsTo l k with _ | _
        · rw [hq, Bool.false_and] at hs
          clear n1
          go_wp2
          go_roundw
          case rel => exact ⟨k + 1, by omega, by go_num, by rw [hs], hb⟩
          case measure => simp [intOf]; omega
        · rw [hq, Bool.true_and] at hs
          unfold partAt at hs
          rcases hw1 : wrB [l.getD k wrD] with _ | _
          · rw [hw1, Bool.false_and] at hs
            rw [hw1] at n1
            go_wp2_with fail
            refine n1.mono ?_
            rintro e w1 ⟨rfl, b1⟩
            have hb1 := hb.trans (b1.mono hb.size)
            go_wp2
            go_roundw
            case rel => exact ⟨k + 1, by omega, by go_num, by rw [hs], hb1⟩
            case measure => simp [intOf]; omega
          · rw [hw1, Bool.true_and] at hs
            rw [hw1] at n1
            by_cases hk0 : k = 0
            · subst hk0
              rw [decide_eq_true rfl, Bool.true_or] at hs
              go_wp2_with fail
              refine n1.mono ?_
              rintro e w1 ⟨rfl, b1⟩
              have hb1 := hb.trans (b1.mono hb.size)
              go_wp2
              go_roundw
              case rel => exact ⟨1, by omega, by go_num, by rw [hs], hb1⟩
              case measure => simp [intOf]; omega
            · rw [decide_eq_false hk0, Bool.false_or] at hs
              go_wp2_with fail
              refine n1.mono ?_
              rintro e w1 ⟨rfl, b1⟩
              have hb1 := hb.trans (b1.mono hb.size)
              have hr1 := hr.on hb1 hb1.size
              have hp2 := hr1.part (i := k - 1) (k := 2) (by omega)
              rw [two_part (by omega), show k - 1 + 1 = k by omega] at hp2
              have n2 := hW (.slice (some ⟨g, o + (k - 1) * 2, none⟩) 2 (c - (k - 1))) [l.getD (k - 1) wrD, l.getD k wrD] w1 ⟨_, _, rfl, show 2 ≤ c - (k - 1) by omega, show c - (k - 1) ≤ maxLen by omega, hp2⟩ (by intro x hx; rcases List.mem_cons.1 hx with rfl | hx; exact getD_in hI (by omega); rw [List.mem_singleton] at hx; subst hx; exact getD_in hI hlt) (by simp)
              have hk3 : (((k : Int) - 1) * 2).toNat = (k - 1) * 2 := by omega
              have hk4 : ((k : Int) - 1).toNat = k - 1 := by omega
              have hk5 : ((k : Int) == 0) = false := beq_eq_false_iff_ne.2 (by omega)
              generalize wrB [l.getD (k - 1) wrD, l.getD k wrD] = q2 at hs n2
              clear n1
              go_wp2_with fail
              rw [show k + 1 - (k - 1) = 2 by omega]
              refine n2.mono ?_
              rintro e w2 ⟨rfl, b2⟩
              have hb2 := hb1.trans (b2.mono hb1.size)
              go_wp2
              go_roundw
              case rel => exact ⟨k + 1, by omega, by go_num, by rw [hs], hb2⟩
              case measure => simp [intOf]; omega
      · obtain rfl : k = l.length := by omega
        rw [parts_all]
        have hrw := hr.on hb hb.size
        have n3 := hW (.slice a l.length c) l wr ⟨_, _, rfl, hnc, hcm, hrw⟩ hI (by omega)
        go_wp2_with fail
        refine n3.mono ?_
        rintro e w1 ⟨rfl, b1⟩
        have hb1 := hb.trans (b1.mono hb.size)
        have hr1 := hr.on hb1 hb1.size
        have n4 := hM (.agg #[.int .i64 1, .bool true, .slice a l.length c]) ⟨1, true, l⟩ w1 ⟨_, rfl, _, _, rfl, hnc, hcm, hr1⟩ ⟨⟨show -9223372036854775808 ≤ (1 : Int) by decide, show (1 : Int) ≤ 9223372036854775807 by decide⟩, hI, by show l.length ≤ 1000; omega⟩
        have hm : mayB ⟨1, true, l⟩ = wrB l := by unfold mayB; simp
        rw [hm] at n4
        clear n3
        rcases hq : wrB l with _ | _
        all_goals
          rw [hq] at n4
          go_wp2_with fail
          refine n4.mono ?_
          rintro e w2 ⟨rfl, b2⟩
          have hb2 := hb1.trans (b2.mono hb1.size)
          have n5 := wakes_any hB hR hS w2
          go_wp2_with fail
          refine n5.mono ?_
          rintro e w3 ⟨rfl, b3⟩
          go_wp2
          go_ret
          exact ⟨rfl, hb2.trans (b3.mono hb2.size)⟩
end Go.Proofs.Ytmbphhcgmdaoeaa
