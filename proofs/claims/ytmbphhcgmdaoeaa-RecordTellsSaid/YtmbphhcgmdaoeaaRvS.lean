/- What is proved: record's writer puts a partition's lines behind what it has. -/
import Derived.Test.YtmbphhcgmdaoeaaRvH
import Derived.Test.YtmbphhcgmdaoeaaRvQ
namespace Go.Proofs.Ytmbphhcgmdaoeaa
open Go.RowKit

theorem ln_facts {l : List Ln} {pl c : Int} (h : lnsB l pl c = true) (hp : pl ≤ 1048575) {i : Nat} (hi : i < l.length) : 0 ≤ (l.getD i lnD).off ∧ (l.getD i lnD).off < 16777216 ∧ 0 ≤ (l.getD i lnD).place ∧ (l.getD i lnD).place < 16777216 ∧ 0 ≤ (l.getD i lnD).j ∧ (l.getD i lnD).j < 4 ∧ 0 ≤ (l.getD i lnD).key ∧ (l.getD i lnD).key < 8 ∧ 0 ≤ (l.getD i lnD).val ∧ (l.getD i lnD).val < 256 := by
  obtain ⟨h1, h2, h3, h4⟩ := lnsB_parts h
  have hx : l[i]? = some (l.getD i lnD) := by rw [List.getD_eq_getElem?_getD, List.getElem?_eq_getElem hi]; rfl
  obtain ⟨q1, q2, q3, q4, q5, q6, q7, q8, q9, q10⟩ := h4 i _ hx
  exact ⟨by omega, by omega, by omega, by omega, by omega, by omega, by omega, by omega, by omega, by omega⟩
def FirstOk (l : List Ln) : Prop := 0 ≤ firstOff l ∧ firstOff l < 16777216
theorem first_ok {l : List Ln} (h : ∀ i, i < l.length → 0 ≤ (l.getD i lnD).off ∧ (l.getD i lnD).off < 16777216) : FirstOk l := by
  match l, h with
  | [], _ => exact ⟨Int.le_refl _, by decide⟩
  | x :: l, h => exact h 0 (by simp)
theorem first_at {l : List Ln} (h : 0 < l.length) : (l.getD 0 lnD).off = firstOff l := by
  match l, h with
  | x :: l, _ => rfl
set_option maxRecDepth 100000 in
set_option maxHeartbeats 6400000 in
theorem wlines_walk (w : World) (Q : Nat) (v u : Value) (xs : List Int) (l : List Ln) (hW : Wtr w Q v xs) (hs : Sl 5 w 0 Q u l.length (lnC l)) (hl : l.length ≤ 16) (hx : xs.length ≤ 5000)
    (hf : ∀ i, i < l.length → 0 ≤ (l.getD i lnD).off ∧ (l.getD i lnD).off < 16777216 ∧ 0 ≤ (l.getD i lnD).place ∧ (l.getD i lnD).place < 16777216 ∧ 0 ≤ (l.getD i lnD).j ∧ (l.getD i lnD).j < 4 ∧ 0 ≤ (l.getD i lnD).key ∧ (l.getD i lnD).key < 8 ∧ 0 ≤ (l.getD i lnD).val ∧ (l.getD i lnD).val < 256) :
    Calls Try.prog 35 #[.pointer (some ⟨Q, 0, none⟩), u] w fun e w' => e = .returned (.tuple #[]) ∧ (∃ v', Wtr w' Q v' (xs ++ (le (l.length : Int) 1 ++ (le (firstOff l) 3 ++ l.flatMap lnE)))) ∧ Below Q w w' := by
  obtain ⟨a, c, rfl, hac, hcm, hr⟩ := hs
  have hfo := first_ok fun i hi => ⟨(hf i hi).1, (hf i hi).2.1⟩
  unfold FirstOk at hfo
  have n1 := narrow1 w Q v xs l.length hW (by omega) (by omega) (by omega)
  have HF := Lib.hid hf
  clear hf
  by_cases h0 : 0 < l.length
  · have h0' : (0 : Int) < (l.length : Int) := by omega
    obtain ⟨g, o, rfl, _, hg, _⟩ := hr.addr h0
    obtain ⟨q0, q1, q2, q3, q4⟩ := ln_cells hr h0
    simp only [Nat.zero_mul, Nat.add_zero] at q0 q1 q2 q3 q4
    rw [first_at h0] at q0
    clear q1 q2 q3 q4
    go_enter Try.func35, Try.ntmps35
    go_wp2_with fail
    refine n1.mono ?_
    rintro e w1 ⟨rfl, ⟨v1, T1, _⟩, b1, _⟩
    have n2 := wide1 w1 Q _ _ (firstOff l) T1 hfo.1 hfo.2 (by simp [le_length]; omega)
    clear n1 q0
    go_wp2_with fail
    refine n2.mono ?_
    rintro e w2 ⟨rfl, ⟨v2, T2, _⟩, b2, _⟩
    have b02 := b1.trans b2
    clear n2 T1
    go_wp2
    go_loopw [25] (fun i wr => ∃ k : Nat, k ≤ l.length ∧ i = .int .i64 k ∧ (∃ v', Wtr wr Q v' (xs ++ le (l.length : Int) 1 ++ le (firstOff l) 3 ++ (l.take k).flatMap lnE)) ∧ Below Q w wr) (fun i _ => l.length - (intOf i).toNat)
    case atStart => exact ⟨0, Nat.zero_le _, rfl, ⟨_, by simpa using T2⟩, b02⟩
    case round =>
      obtain ⟨k, hk, rfl, ⟨v', T⟩, hbr⟩ := hrel
      by_cases hlt : k < l.length
      · obtain ⟨q0, q1, q2, q3, q4⟩ := ln_cells (hr.far hbr) hlt
        have hki : (k : Int) < (l.length : Int) := by omega
        have hk0 : (0 : Int) ≤ k := by omega
        have hx' : l[k]? = some (l.getD k lnD) := by rw [List.getD_eq_getElem?_getD, List.getElem?_eq_getElem hlt]; rfl
        obtain ⟨f1, f2, f3, f4, f5, f6, f7, f8, f9, f10⟩ := HF.out k hlt
        have HT := Lib.hid (show (l.take (k + 1)).flatMap lnE = (l.take k).flatMap lnE ++ (le (l.getD k lnD).place 3 ++ (le ((l.getD k lnD).j + 16 * (l.getD k lnD).key) 1 ++ le (l.getD k lnD).val 1)) by
          rw [List.take_add_one, hx', List.flatMap_append]; simp [lnE])
        have hxl : (xs ++ le (l.length : Int) 1 ++ le (firstOff l) 3 ++ (l.take k).flatMap lnE).length ≤ 10000 := by
          have := flatMap_len lnE 5 lnE_len (l.take k)
          rw [List.length_take] at this
          simp [le_length, this]; omega
        generalize l.getD k lnD = x at *
        obtain ⟨W6, E6, B6, X6, S6⟩ := Blk.new wr 53 #[.int .i64 x.off, .int .i64 x.place, .int .i64 x.j, .int .i64 x.key, .int .i64 x.val]
        have T6 := T.far B6
        have hQr := T.1.lt
        have c1 : W6.cell? ⟨wr.heap.size, 1, none⟩ = some (.int .i64 x.place) := X6.cell 1
        have n6 := wide1 W6 Q _ _ x.place T6 (by omega) (by omega) (by omega)
        rw [S6] at n6
        clear hx'
        go_wp2_with fail
        refine n6.mono ?_
        rintro e w7 ⟨rfl, ⟨v7, T7, _⟩, b7, kp7⟩
        have X7 : Blk w7 wr.heap.size #[.int .i64 x.off, .int .i64 x.place, .int .i64 x.j, .int .i64 x.key, .int .i64 x.val] := X6.same (kp7 wr.heap.size (by omega) (by omega) (fun e => by have := T.2.lt _ e; omega))
        have c2 : w7.cell? ⟨wr.heap.size, 2, none⟩ = some (.int .i64 x.j) := X7.cell 2
        have c3 : w7.cell? ⟨wr.heap.size, 3, none⟩ = some (.int .i64 x.key) := X7.cell 3
        have c4 : w7.cell? ⟨wr.heap.size, 4, none⟩ = some (.int .i64 x.val) := X7.cell 4
        have u1 : wrap64 (16 * x.key) = 16 * x.key := IntWalk.wrap64_in _ (by omega)
        have u2 : wrap64 (x.j + 16 * x.key) = x.j + 16 * x.key := IntWalk.wrap64_in _ (by omega)
        have n8 := narrow2 w7 Q _ _ (x.j + 16 * x.key) x.val T7 (by omega) (by omega) (by omega) (by omega) (by rw [List.length_append, le_length]; omega)
        clear n6 c1 q0 q1 q2 q3 q4
        go_wp2_with fail
        refine n8.mono ?_
        rintro e w9 ⟨rfl, ⟨v9, T9, _⟩, b9, _⟩
        rw [List.append_assoc, List.append_assoc _ (List.flatMap lnE _), ← HT.out] at T9
        have b69 := ((B6.mono (Nat.le_of_lt hQr)).trans b7).trans b9
        clear n8 c2 c3 c4 T7 T6
        go_wp2
        go_roundw
        case rel => exact ⟨k + 1, by omega, by go_num, ⟨_, T9⟩, hbr.trans b69⟩
        case measure => simp [intOf]; omega
      · obtain rfl : k = l.length := by omega
        rw [List.take_length] at T
        have hxe : xs ++ le (l.length : Int) 1 ++ le (firstOff l) 3 ++ l.flatMap lnE = xs ++ (le (l.length : Int) 1 ++ (le (firstOff l) 3 ++ l.flatMap lnE)) := by simp
        rw [hxe] at T
        go_wp2
        go_end0
        exact ⟨rfl, ⟨v', T⟩, hbr⟩
  · obtain rfl : l = [] := List.eq_nil_of_length_eq_zero (by omega)
    go_enter Try.func35, Try.ntmps35
    go_wp2_with fail
    refine n1.mono ?_
    rintro e w1 ⟨rfl, ⟨v1, T1, _⟩, b1, _⟩
    have n2 := wide1 w1 Q _ _ 0 T1 (by decide) (by decide) (by simp [le_length]; omega)
    go_wp2_with fail
    refine n2.mono ?_
    rintro e w2 ⟨rfl, ⟨v2, T2, _⟩, b2, _⟩
    have hxe : xs ++ le (([] : List Ln).length : Int) 1 ++ le 0 3 = xs ++ (le (([] : List Ln).length : Int) 1 ++ (le (firstOff []) 3 ++ ([] : List Ln).flatMap lnE)) := by simp [firstOff]
    rw [hxe] at T2
    have b02 := b1.trans b2
    clear n1 n2 T1
    go_wp2
    go_loopw [25] (fun i wr => i = .int .i64 0 ∧ wr = w2) (fun _ _ => 0)
    case atStart => exact ⟨rfl, rfl⟩
    case round =>
      obtain ⟨rfl, rfl⟩ := hrel
      go_wp2
      go_end0
      exact ⟨rfl, ⟨v2, T2⟩, b02⟩
end Go.Proofs.Ytmbphhcgmdaoeaa
