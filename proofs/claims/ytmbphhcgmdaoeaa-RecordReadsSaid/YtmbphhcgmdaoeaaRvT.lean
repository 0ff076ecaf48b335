/- What is proved: record's writer puts a partition's lines behind what it has. What is proved: record's StateBytes answers as the spec says. -/
import Derived.Test.YtmbphhcgmdaoeaaRvH
import Derived.Test.YtmbphhcgmdaoeaaRvQ
namespace Go.Proofs.Ytmbphhcgmdaoeaa
open Go.RowKit

theorem ln_facts {l : List Ln} {pl c : Int} (h : lnsB l pl c = true) (hp : pl ≤ 1048575) {i : Nat} (hi : i < l.length) : 0 ≤ (l.getD i lnD).off ∧ (l.getD i lnD).off < 16777216 ∧ 0 ≤ (l.getD i lnD).place ∧ (l.getD i lnD).place < 16777216 ∧ 0 ≤ (l.getD i lnD).j ∧ (l.getD i lnD).j < 4 ∧ 0 ≤ (l.getD i lnD).key ∧ (l.getD i lnD).key < 8 ∧ 0 ≤ (l.getD i lnD).val ∧ (l.getD i lnD).val < 256 := by
  obtain ⟨h1, h2, h3, h4⟩ := lnsB_parts h
  have hx : l[i]? = some (l.getD i lnD) := by rw [List.getD_eq_getElem?_getD, List.getElem?_eq_getElem hi]; rfl
  obtain ⟨q1, q2, q3, q4, q5, q6, q7, q8, q9, q10⟩ := h4 i _ hx
  exact ⟨by omega, by omega, by omega, by omega, by omega, by omega, by omega, by omega, by omega, by omega⟩
def FirstOk (l : List Ln) : Prop := 0 ≤ firstOff l ∧ firstOff l < 16777216
theorem first_ok {l : List Ln} (h : ∀ i, i < l.length → 0 ≤ (l.getD i lnD).off ∧ (l.getD i lnD).off < 16777216) : FirstOk l := by
  match l, h with
  | [], _ => exact ⟨Int.le_refl _, by decide⟩
  | x :: l, h => exact h 0 (by simp)
theorem first_at {l : List Ln} (h : 0 < l.length) : (l.getD 0 lnD).off = firstOff l := by
  match l, h with
  | x :: l, _ => rfl
set_option maxRecDepth 100000 in
set_option maxHeartbeats 6400000 in
theorem wlines_walk (w : World) (Q : Nat) (v u : Value) (xs : List Int) (l : List Ln) (hW : Wtr w Q v xs) (hs : Sl 5 w 0 Q u l.length (lnC l)) (hl : l.length ≤ 16) (hx : xs.length ≤ 5000)
    (hf : ∀ i, i < l.length → 0 ≤ (l.getD i lnD).off ∧ (l.getD i lnD).off < 16777216 ∧ 0 ≤ (l.getD i lnD).place ∧ (l.getD i lnD).place < 16777216 ∧ 0 ≤ (l.getD i lnD).j ∧ (l.getD i lnD).j < 4 ∧ 0 ≤ (l.getD i lnD).key ∧ (l.getD i lnD).key < 8 ∧ 0 ≤ (l.getD i lnD).val ∧ (l.getD i lnD).val < 256) :
    Calls Try.prog 35 #[.pointer (some ⟨Q, 0, none⟩), u] w fun e w' => e = .returned (.tuple #[]) ∧ (∃ v', Wtr w' Q v' (xs ++ (le (l.length : Int) 1 ++ (le (firstOff l) 3 ++ l.flatMap lnE)))) ∧ Below Q w w' := by
  obtain ⟨a, c, rfl, hac, hcm, hr⟩ := hs
  have hfo := first_ok fun i hi => ⟨(hf i hi).1, (hf i hi).2.1⟩
  unfold FirstOk at hfo
  have n1 := narrow1 w Q v xs l.length hW (by omega) (by omega) (by omega)
  have HF := Lib.hid hf
  clear hf
  by_cases h0 : 0 < l.length
  · have h0' : (0 : Int) < (l.length : Int) := by omega
    obtain ⟨g, o, rfl, _, hg, _⟩ := hr.addr h0
    obtain ⟨q0, q1, q2, q3, q4⟩ := ln_cells hr h0
    simp only [Nat.zero_mul, Nat.add_zero] at q0 q1 q2 q3 q4
    rw [first_at h0] at q0
    clear q1 q2 q3 q4
    go_enter Try.func35, Try.ntmps35
    go_wp2_with fail
    refine n1.mono ?_
    rintro e w1 ⟨rfl, ⟨v1, T1, _⟩, b1, _⟩
    have n2 := wide1 w1 Q _ _ (firstOff l) T1 hfo.1 hfo.2 (by simp [le_length]; omega)
    clear n1 q0
    go_wp2_with fail
    refine n2.mono ?_
    rintro e w2 ⟨rfl, ⟨v2, T2, _⟩, b2, _⟩
    have b02 := b1.trans b2
    clear n2 T1
    go_wp2
    go_loopw [25] (fun i wr => ∃ k : Nat, k ≤ l.length ∧ i = .int .i64 k ∧ (∃ v', Wtr wr Q v' (xs ++ le (l.length : Int) 1 ++ le (firstOff l) 3 ++ (l.take k).flatMap lnE)) ∧ Below Q w wr) (fun i _ => l.length - (intOf i).toNat)
    case atStart => exact ⟨0, Nat.zero_le _, rfl, ⟨_, by simpa using T2⟩, b02⟩
    case round =>
      obtain ⟨k, hk, rfl, ⟨v', T⟩, hbr⟩ := hrel
      by_cases hlt : k < l.length
      · obtain ⟨q0, q1, q2, q3, q4⟩ := ln_cells (hr.far hbr) hlt
        have hki : (k : Int) < (l.length : Int) := by omega
        have hk0 : (0 : Int) ≤ k := by omega
        have hx' : l[k]? = some (l.getD k lnD) := by rw [List.getD_eq_getElem?_getD, List.getElem?_eq_getElem hlt]; rfl
        obtain ⟨f1, f2, f3, f4, f5, f6, f7, f8, f9, f10⟩ := HF.out k hlt
        have HT := Lib.hid (show (l.take (k + 1)).flatMap lnE = (l.take k).flatMap lnE ++ (le (l.getD k lnD).place 3 ++ (le ((l.getD k lnD).j + 16 * (l.getD k lnD).key) 1 ++ le (l.getD k lnD).val 1)) by
          rw [List.take_add_one, hx', List.flatMap_append]; simp [lnE])
        have hxl : (xs ++ le (l.length : Int) 1 ++ le (firstOff l) 3 ++ (l.take k).flatMap lnE).length ≤ 10000 := by
          have := flatMap_len lnE 5 lnE_len (l.take k)
          rw [List.length_take] at this
          simp [le_length, this]; omega
        generalize l.getD k lnD = x at *
        obtain ⟨W6, E6, B6, X6, S6⟩ := Blk.new wr 53 #[.int .i64 x.off, .int .i64 x.place, .int .i64 x.j, .int .i64 x.key, .int .i64 x.val]
        have T6 := T.far B6
        have hQr := T.1.lt
        have c1 : W6.cell? ⟨wr.heap.size, 1, none⟩ = some (.int .i64 x.place) := X6.cell 1
        have n6 := wide1 W6 Q _ _ x.place T6 (by omega) (by omega) (by omega)
        rw [S6] at n6
        clear hx'
        go_wp2_with fail
        refine n6.mono ?_
        rintro e w7 ⟨rfl, ⟨v7, T7, _⟩, b7, kp7⟩
        have X7 : Blk w7 wr.heap.size #[.int .i64 x.off, .int .i64 x.place, .int .i64 x.j, .int .i64 x.key, .int .i64 x.val] := X6.same (kp7 wr.heap.size (by omega) (by omega) (fun e => by have := T.2.lt _ e; omega))
        have c2 : w7.cell? ⟨wr.heap.size, 2, none⟩ = some (.int .i64 x.j) := X7.cell 2
        have c3 : w7.cell? ⟨wr.heap.size, 3, none⟩ = some (.int .i64 x.key) := X7.cell 3
        have c4 : w7.cell? ⟨wr.heap.size, 4, none⟩ = some (.int .i64 x.val) := X7.cell 4
        have u1 : wrap64 (16 * x.key) = 16 * x.key := IntWalk.wrap64_in _ (by omega)
        have u2 : wrap64 (x.j + 16 * x.key) = x.j + 16 * x.key := IntWalk.wrap64_in _ (by omega)
        have n8 := narrow2 w7 Q _ _ (x.j + 16 * x.key) x.val T7 (by omega) (by omega) (by omega) (by omega) (by rw [List.length_append, le_length]; omega)
        clear n6 c1 q0 q1 q2 q3 q4
        go_wp2_with fail
        refine n8.mono ?_
        rintro e w9 ⟨rfl, ⟨v9, T9, _⟩, b9, _⟩
        rw [List.append_assoc, List.append_assoc _ (List.flatMap lnE _), ← HT.out] at T9
        have b69 := ((B6.mono (Nat.le_of_lt hQr)).trans b7).trans b9
        clear n8 c2 c3 c4 T7 T6
        go_wp2
        go_roundw
        case rel => exact ⟨k + 1, by omega, by go_num, ⟨_, T9⟩, hbr.trans b69⟩
        case measure => simp [intOf]; omega
      · obtain rfl : k = l.length := by omega
        rw [List.take_length] at T
        have hxe : xs ++ le (l.length : Int) 1 ++ le (firstOff l) 3 ++ l.flatMap lnE = xs ++ (le (l.length : Int) 1 ++ (le (firstOff l) 3 ++ l.flatMap lnE)) := by simp
        rw [hxe] at T
        go_wp2
        go_end0
        exact ⟨rfl, ⟨v', T⟩, hbr⟩
  · obtain rfl : l = [] := List.eq_nil_of_length_eq_zero (by omega)
    go_enter Try.func35, Try.ntmps35
    go_wp2_with fail
    refine n1.mono ?_
    rintro e w1 ⟨rfl, ⟨v1, T1, _⟩, b1, _⟩
    have n2 := wide1 w1 Q _ _ 0 T1 (by decide) (by decide) (by simp [le_length]; omega)
    go_wp2_with fail
    refine n2.mono ?_
    rintro e w2 ⟨rfl, ⟨v2, T2, _⟩, b2, _⟩
    have hxe : xs ++ le (([] : List Ln).length : Int) 1 ++ le 0 3 = xs ++ (le (([] : List Ln).length : Int) 1 ++ (le (firstOff []) 3 ++ ([] : List Ln).flatMap lnE)) := by simp [firstOff]
    rw [hxe] at T2
    have b02 := b1.trans b2
    clear n1 n2 T1
    go_wp2
    go_loopw [25] (fun i wr => i = .int .i64 0 ∧ wr = w2) (fun _ _ => 0)
    case atStart => exact ⟨rfl, rfl⟩
    case round =>
      obtain ⟨rfl, rfl⟩ := hrel
      go_wp2
      go_end0
      exact ⟨rfl, ⟨v2, T2⟩, b02⟩

theorem souE_yes {s : St} (h : stands s = true) : souE s = 0 ∧ souB s = stE s := by unfold souE souB; rw [h]; exact ⟨rfl, rfl⟩
theorem souE_no {s : St} (h : stands s = false) : souE s = 2 ∧ souB s = [] := by unfold souE souB; rw [h]; exact ⟨rfl, rfl⟩
def parB (s : St) : Nat → List Int
  | 0 => []
  | 1 => partE s.l0 s.c0
  | 2 => partE s.l0 s.c0 ++ partE s.l1 s.c1
  | _ => partE s.l0 s.c0 ++ (partE s.l1 s.c1 ++ partE s.l2 s.c2)
theorem partE_short {l : List Ln} {c : Int} (h : l.length ≤ 16) : (partE l c).length ≤ 87 := by
  have := flatMap_len lnE 5 lnE_len l
  simp [partE, le_length, this]
  omega
theorem parB_1 (s : St) (hd : List Int) : hd ++ parB s 0 ++ le s.c0 3 ++ (le (s.l0.length : Int) 1 ++ (le (firstOff s.l0) 3 ++ s.l0.flatMap lnE)) = hd ++ parB s 1 := by simp [parB, partE]
theorem parB_2 (s : St) (hd : List Int) : hd ++ parB s 1 ++ le s.c1 3 ++ (le (s.l1.length : Int) 1 ++ (le (firstOff s.l1) 3 ++ s.l1.flatMap lnE)) = hd ++ parB s 2 := by simp [parB, partE]
theorem parB_3 (s : St) (hd : List Int) : hd ++ parB s 2 ++ le s.c2 3 ++ (le (s.l2.length : Int) 1 ++ (le (firstOff s.l2) 3 ++ s.l2.flatMap lnE)) = hd ++ parB s 3 := by simp [parB, partE]
theorem parB_short {s : St} (h0 : s.l0.length ≤ 16) (h1 : s.l1.length ≤ 16) (h2 : s.l2.length ≤ 16) (k : Nat) : (parB s k).length ≤ 300 := by
  have := partE_short (c := s.c0) h0
  have := partE_short (c := s.c1) h1
  have := partE_short (c := s.c2) h2
  unfold parB
  split <;> simp <;> omega
set_option maxRecDepth 100000 in
set_option maxHeartbeats 6400000 in
theorem dev_sbytes : StateBytesSpec 15 := by
  intro v s w h hI
  obtain ⟨v0, v1, v2, v3, rfl, h0, h1, h2, h3⟩ := id h
  obtain ⟨W1, E1, B1, X1, S1⟩ := Blk.new w 30 #[.int .i64 s.place, v0, v1, v2, v3, .int .i64 s.c0, .int .i64 s.c1, .int .i64 s.c2]
  have k0 : W1.cell? ⟨w.heap.size, 0, none⟩ = some (.int .i64 s.place) := X1.cell 0
  have k1 : W1.cell? ⟨w.heap.size, 1, none⟩ = some v0 := X1.cell 1
  have k2 : W1.cell? ⟨w.heap.size, 2, none⟩ = some v1 := X1.cell 2
  have k3 : W1.cell? ⟨w.heap.size, 3, none⟩ = some v2 := X1.cell 3
  have k4 : W1.cell? ⟨w.heap.size, 4, none⟩ = some v3 := X1.cell 4
  have k5 : W1.cell? ⟨w.heap.size, 5, none⟩ = some (.int .i64 s.c0) := X1.cell 5
  have k6 : W1.cell? ⟨w.heap.size, 6, none⟩ = some (.int .i64 s.c1) := X1.cell 6
  have k7 : W1.cell? ⟨w.heap.size, 7, none⟩ = some (.int .i64 s.c2) := X1.cell 7
  have n1 := dev_stands _ s W1 ((h.far B1).wide (Nat.le_refl _) B1.size) hI
  rcases hm : stands s with _ | _
  · rw [(souE_no hm).1, (souE_no hm).2]
    rw [hm] at n1
    go_enter Try.func15, Try.ntmps15
    go_wp2_with fail
    refine n1.mono ?_
    rintro e w2 ⟨rfl, b2⟩
    go_wp2
    go_ret2
    exact ⟨_, rfl, Sl.nil _ _ _ _, below_on B1 b2⟩
  · rw [(souE_yes hm).1, (souE_yes hm).2]
    rw [hm] at n1
    obtain ⟨p1, p2, p3, p4, p5, p6⟩ := stands_parts hm
    have i0 := itsB_len p3
    have l0 := (lnsB_parts p4).1
    have l1 := (lnsB_parts p5).1
    have l2 := (lnsB_parts p6).1
    have c0 := (lnsB_parts p4).2
    have c1 := (lnsB_parts p5).2
    have c2 := (lnsB_parts p6).2
    have hstE : stE s = le s.place 3 ++ (le (s.items.length : Int) 1 ++ s.items.flatMap itE) ++ parB s 3 := by simp [stE, parB]
    rw [hstE]
    clear hm h hstE hI
    obtain ⟨a0, ca, rfl, hna, hcm, hr⟩ := id h0
    go_enter Try.func15, Try.ntmps15
    go_wp2_with fail
    refine n1.mono ?_
    rintro e w2 ⟨rfl, b2⟩
    have X2 := X1.far b2 X1.lt
    have b02 := below_on B1 b2
    have hz2 : w.heap.size < w2.heap.size := X2.lt
    obtain ⟨W3, E3, B3, T3⟩ := Wtr.new w2 59
    have X3 := X2.far B3 hz2
    have j0 : W3.cell? ⟨w.heap.size, 0, none⟩ = some (.int .i64 s.place) := X3.cell 0
    have n2 := wide1 W3 w2.heap.size _ [] s.place T3 (by omega) (by omega) (by simp)
    clear n1 k0 k1 k2 k3 k4 k5 k6 k7 X1
    go_wp2_with fail
    refine n2.mono ?_
    rintro e w4 ⟨rfl, ⟨v4, T4, _⟩, b4, _⟩
    have b24 := (B3.mono (Nat.le_refl _)).trans b4
    have X4 := X2.far b24 hz2
    have j1 : w4.cell? ⟨w.heap.size, 1, none⟩ = some (.slice a0 s.items.length ca) := X4.cell 1
    have n3 := narrow1 w4 w2.heap.size _ _ s.items.length T4 (by omega) (by omega) (by simp [le_length])
    clear n2 j0
    go_wp2_with fail
    refine n3.mono ?_
    rintro e w5 ⟨rfl, ⟨v5, T5, _⟩, b5, _⟩
    have b25 := b24.trans b5
    have X5 := X2.far b25 hz2
    have j2 : w5.cell? ⟨w.heap.size, 1, none⟩ = some (.slice a0 s.items.length ca) := X5.cell 1
    clear n3 j1
    go_wp2
    clear j2
    go_loopw [24] (fun i wr => ∃ k : Nat, k ≤ s.items.length ∧ i = .int .i64 k ∧ (∃ v', Wtr wr w2.heap.size v' (le s.place 3 ++ le (s.items.length : Int) 1 ++ (s.items.take k).flatMap itE)) ∧ Below w2.heap.size w2 wr) (fun i _ => s.items.length - (intOf i).toNat)
    case atStart => exact ⟨0, Nat.zero_le _, rfl, ⟨_, by simpa using T5⟩, b25⟩
    case round =>
      obtain ⟨k, hk, rfl, ⟨v', T⟩, hbr⟩ := hrel
      by_cases hlt : k < s.items.length
      · obtain ⟨g, o, rfl, _, hg, _⟩ := hr.addr (by omega)
        obtain ⟨q0, q1, q2⟩ := it_cells (hr.far (b02.trans (hbr.mono b02.size))) hlt
        have hki : (k : Int) < (s.items.length : Int) := by omega
        have hk0 : (0 : Int) ≤ k := by omega
        have hx : s.items[k]? = some (s.items.getD k itD) := by rw [List.getD_eq_getElem?_getD, List.getElem?_eq_getElem hlt]; rfl
        obtain ⟨r1, r2, r3, r4, r5, r6⟩ := itsB_parts p3 k _ hx
        have HT := Lib.hid (show (s.items.take (k + 1)).flatMap itE = (s.items.take k).flatMap itE ++ (le (s.items.getD k itD).key 1 ++ (le (s.items.getD k itD).place 3 ++ le (s.items.getD k itD).val 1)) by
          rw [List.take_add_one, hx, List.flatMap_append]; simp [itE])
        have hxl : (le s.place 3 ++ le (s.items.length : Int) 1 ++ (s.items.take k).flatMap itE).length ≤ 1000 := by
          have := flatMap_len itE 5 itE_len (s.items.take k)
          rw [List.length_take] at this
          simp [le_length, this]; omega
        generalize s.items.getD k itD = x at *
        obtain ⟨W6, E6, B6, X6, S6⟩ := Blk.new wr 51 #[.int .i64 x.key, .int .i64 x.place, .int .i64 x.val]
        have T6 := T.far B6
        have hQr := T.1.lt
        have hne0 : v'.ownBlock ≠ some wr.heap.size := fun e => by have := T.2.lt _ e; omega
        have c6 : W6.cell? ⟨wr.heap.size, 0, none⟩ = some (.int .i64 x.key) := X6.cell 0
        have n6 := narrow1 W6 w2.heap.size _ _ x.key T6 (by omega) (by omega) (by omega)
        rw [S6] at n6
        clear hx p3
        go_wp2_with fail
        refine n6.mono ?_
        rintro e w7 ⟨rfl, ⟨v7, T7, st7⟩, b7, kp7⟩
        have X7 : Blk w7 wr.heap.size #[.int .i64 x.key, .int .i64 x.place, .int .i64 x.val] := X6.same (kp7 wr.heap.size (by omega) (by omega) hne0)
        have hne7 := sits_ne st7 hne0 (by omega)
        have c7 : w7.cell? ⟨wr.heap.size, 1, none⟩ = some (.int .i64 x.place) := X7.cell 1
        have hs7 := X7.lt
        have n7 := wide1 w7 w2.heap.size _ _ x.place T7 (by omega) (by omega) (by rw [List.length_append, le_length]; omega)
        clear n6 c6 q0 q1 q2
        go_wp2_with fail
        refine n7.mono ?_
        rintro e w8 ⟨rfl, ⟨v8, T8, st8⟩, b8, kp8⟩
        have X8 : Blk w8 wr.heap.size #[.int .i64 x.key, .int .i64 x.place, .int .i64 x.val] := X7.same (kp8 wr.heap.size (by omega) (by omega) hne7)
        have c8 : w8.cell? ⟨wr.heap.size, 2, none⟩ = some (.int .i64 x.val) := X8.cell 2
        have n8 := narrow1 w8 w2.heap.size _ _ x.val T8 (by omega) (by omega) (by rw [List.length_append, List.length_append, le_length, le_length]; omega)
        clear n7 c7
        go_wp2_with fail
        refine n8.mono ?_
        rintro e w9 ⟨rfl, ⟨v9, T9, _⟩, b9, _⟩
        have hap : le s.place 3 ++ le (s.items.length : Int) 1 ++ (s.items.take k).flatMap itE ++ le x.key 1 ++ le x.place 3 ++ le x.val 1 = le s.place 3 ++ le (s.items.length : Int) 1 ++ (s.items.take (k + 1)).flatMap itE := by
          rw [HT.out]; simp
        rw [hap] at T9
        have b69 := (((B6.mono (Nat.le_of_lt hQr)).trans b7).trans b8).trans b9
        clear n8 c8 hap
        go_wp2
        go_roundw
        case rel => exact ⟨k + 1, by omega, by go_num, ⟨_, T9⟩, hbr.trans b69⟩
        case measure => simp [intOf]; omega
      · obtain rfl : k = s.items.length := by omega
        rw [List.take_length, List.append_assoc] at T
        have hxl : (le s.place 3 ++ (le (s.items.length : Int) 1 ++ s.items.flatMap itE)).length ≤ 200 := by
          have := flatMap_len itE 5 itE_len s.items
          simp [le_length, this]; omega
        have hb0 := b02.trans (hbr.mono b02.size)
        have Xr := X2.far hbr hz2
        have m2 : wr.cell? ⟨w.heap.size, 2, none⟩ = some v1 := Xr.cell 2
        have m3 : wr.cell? ⟨w.heap.size, 3, none⟩ = some v2 := Xr.cell 3
        have m4 : wr.cell? ⟨w.heap.size, 4, none⟩ = some v3 := Xr.cell 4
        generalize hhd : le s.place 3 ++ (le (s.items.length : Int) 1 ++ s.items.flatMap itE) = hd at *
        clear T3 T4 T5 b24 b25 X3 X4 X5 B3 b4 b5 E3 p3
        go_wp2
        clear m2 m3 m4
        go_loopw [43] (fun i wr => ∃ k : Int, (0 ≤ k ∧ k ≤ 3) ∧ i = .int .i64 k ∧ (∃ v', Wtr wr w2.heap.size v' (hd ++ parB s k.toNat)) ∧ Below w2.heap.size w2 wr) (fun i _ => 3 - (intOf i).toNat)
        case atStart => exact ⟨0, by decide, rfl, ⟨_, by simpa [parB] using T⟩, hbr⟩
        case round =>
          obtain ⟨k, hk, rfl, ⟨vq, Tq⟩, hbq⟩ := hrel
          have Xq := X2.far hbq hz2
          have hps := parB_short (s := s) l0 l1 l2 k.toNat
          have hlen : (hd ++ parB s k.toNat).length ≤ 500 := by rw [List.length_append]; omega
          obtain rfl | rfl | rfl | rfl : k = 0 ∨ k = 1 ∨ k = 2 ∨ k = 3 := by omega
          · have Tq : Wtr wr w2.heap.size vq (hd ++ parB s 0) := Tq
            have hlen : (hd ++ parB s 0).length ≤ 500 := hlen
            have ixx := ix0 v1 v2 v3
            have m5 : wr.cell? ⟨w.heap.size, 5, none⟩ = some (.int .i64 s.c0) := Xq.cell 5
            have n6 := wide1 wr w2.heap.size _ _ s.c0 Tq (by omega) (by omega) (by omega)
            go_wp2_with fail
            refine n6.mono ?_
            rintro e w7 ⟨rfl, ⟨v7, T7, _⟩, b7, _⟩
            have bq7 := hbq.trans b7
            have n7 := wlines_walk w7 w2.heap.size v7 v1 _ s.l0 T7 ((h1.far (b02.trans (bq7.mono b02.size))).wide (Nat.le_refl _) (by omega)) l0 (by rw [List.length_append, le_length]; omega) (fun i hi => ln_facts p4 p2 hi)
            rw [parB_1] at n7
            clear n6 m5
            go_wp2_with fail
            refine n7.mono ?_
            rintro e w8 ⟨rfl, ⟨v8, T8⟩, b8⟩
            clear n7
            go_wp2
            go_roundw
            case rel => exact ⟨1, by omega, by go_num, ⟨_, T8⟩, bq7.trans b8⟩
            case measure => simp [intOf]
          · have Tq : Wtr wr w2.heap.size vq (hd ++ parB s 1) := Tq
            have hlen : (hd ++ parB s 1).length ≤ 500 := hlen
            have ixx := ix1 v1 v2 v3
            have m5 : wr.cell? ⟨w.heap.size, 6, none⟩ = some (.int .i64 s.c1) := Xq.cell 6
            have n6 := wide1 wr w2.heap.size _ _ s.c1 Tq (by omega) (by omega) (by omega)
            go_wp2_with fail
            refine n6.mono ?_
            rintro e w7 ⟨rfl, ⟨v7, T7, _⟩, b7, _⟩
            have bq7 := hbq.trans b7
            have n7 := wlines_walk w7 w2.heap.size v7 v2 _ s.l1 T7 ((h2.far (b02.trans (bq7.mono b02.size))).wide (Nat.le_refl _) (by omega)) l1 (by rw [List.length_append, le_length]; omega) (fun i hi => ln_facts p5 p2 hi)
            rw [parB_2] at n7
            clear n6 m5
            go_wp2_with fail
            refine n7.mono ?_
            rintro e w8 ⟨rfl, ⟨v8, T8⟩, b8⟩
            clear n7
            go_wp2
            go_roundw
            case rel => exact ⟨2, by omega, by go_num, ⟨_, T8⟩, bq7.trans b8⟩
            case measure => simp [intOf]
          · have Tq : Wtr wr w2.heap.size vq (hd ++ parB s 2) := Tq
            have hlen : (hd ++ parB s 2).length ≤ 500 := hlen
            have ixx := ix2 v1 v2 v3
            have m5 : wr.cell? ⟨w.heap.size, 7, none⟩ = some (.int .i64 s.c2) := Xq.cell 7
            have n6 := wide1 wr w2.heap.size _ _ s.c2 Tq (by omega) (by omega) (by omega)
            go_wp2_with fail
            refine n6.mono ?_
            rintro e w7 ⟨rfl, ⟨v7, T7, _⟩, b7, _⟩
            have bq7 := hbq.trans b7
            have n7 := wlines_walk w7 w2.heap.size v7 v3 _ s.l2 T7 ((h3.far (b02.trans (bq7.mono b02.size))).wide (Nat.le_refl _) (by omega)) l2 (by rw [List.length_append, le_length]; omega) (fun i hi => ln_facts p6 p2 hi)
            rw [parB_3] at n7
            clear n6 m5
            go_wp2_with fail
            refine n7.mono ?_
            rintro e w8 ⟨rfl, ⟨v8, T8⟩, b8⟩
            clear n7
            go_wp2
            go_roundw
            case rel => exact ⟨3, by omega, by go_num, ⟨_, T8⟩, bq7.trans b8⟩
            case measure => simp [intOf]
          · have Tq : Wtr wr w2.heap.size vq (hd ++ parB s 3) := Tq
            have c9 := Tq.cell
            go_wp2
            go_ret2
            exact ⟨vq, rfl, by rw [hhd]; exact Tq.out (Nat.le_of_lt hz2), b02.trans (hbq.mono b02.size)⟩
end Go.Proofs.Ytmbphhcgmdaoeaa
