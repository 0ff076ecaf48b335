/- What is proved: record's Bytes answers as the spec says. -/
import Derived.Test.YtmbphhcgmdaoeaaRvG
import Derived.Test.YtmbphhcgmdaoeaaRcO
namespace Go.Proofs.Ytmbphhcgmdaoeaa
open Go.RowKit

theorem flag_walk (y : Bool) (w : World) : Calls Try.prog 33 #[.bool y] w fun e w' => e = .returned (.int .i64 (yesN y)) ∧ w = w' := by
  rcases y with _ | _
  all_goals
    go_enter Try.func33, Try.ntmps33
    go_wp2
    go_ret
    exact ⟨rfl, rfl⟩
theorem outE_yes {r : Rc} (h : mayB r = true) : outE r = 0 ∧ outB r = recB r := by unfold outE outB; rw [h]; exact ⟨rfl, rfl⟩
theorem outE_no {r : Rc} (h : mayB r = false) : outE r = 2 ∧ outB r = [] := by unfold outE outB; rw [h]; exact ⟨rfl, rfl⟩
set_option maxRecDepth 100000 in
set_option maxHeartbeats 3200000 in
theorem dev_bytes : BytesSpec 13 := by
  intro v r w h hI
  obtain ⟨_, rfl, a, c, rfl, hnc, hcm, hr⟩ := id h
  obtain ⟨W1, E1, B1, X1, S1⟩ := Blk.new w 24 #[.int .i64 r.place, .bool r.yes, .slice a r.ws.length c]
  have k0 : W1.cell? ⟨w.heap.size, 0, none⟩ = some (.int .i64 r.place) := X1.cell 0
  have k1 : W1.cell? ⟨w.heap.size, 1, none⟩ = some (.bool r.yes) := X1.cell 1
  have k2 : W1.cell? ⟨w.heap.size, 2, none⟩ = some (.slice a r.ws.length c) := X1.cell 2
  have n1 := dev_may (.agg #[.int .i64 r.place, .bool r.yes, .slice a r.ws.length c]) r W1 ((h.far B1).wide (Nat.le_refl _) B1.size) hI
  rcases hm : mayB r with _ | _
  · rw [(outE_no hm).1, (outE_no hm).2]
    rw [hm] at n1
    go_enter Try.func13, Try.ntmps13
    go_wp2_with fail
    refine n1.mono ?_
    rintro e w2 ⟨rfl, b2⟩
    go_wp2
    go_ret2
    exact ⟨_, rfl, Sl.nil _ _ _ _, below_on B1 b2⟩
  · rw [(outE_yes hm).1, (outE_yes hm).2]
    rw [hm] at n1
    obtain ⟨p1, p2, p3, p4⟩ := mayB_parts hm
    obtain ⟨p5, p6⟩ := wrB_parts p3
    obtain ⟨p, y, l⟩ := r
    simp only at *
    clear hm h
    go_enter Try.func13, Try.ntmps13
    go_wp2_with fail
    refine n1.mono ?_
    rintro e w2 ⟨rfl, b2⟩
    have X2 := X1.far b2 X1.lt
    have b02 := below_on B1 b2
    have hz2 : w.heap.size < w2.heap.size := X2.lt
    obtain ⟨W3, E3, B3, T3⟩ := Wtr.new w2 59
    have X3 := X2.far B3 hz2
    have j0 : W3.cell? ⟨w.heap.size, 0, none⟩ = some (.int .i64 p) := X3.cell 0
    have n2 := wide1 W3 w2.heap.size _ [] p T3 (by omega) (by omega) (by simp)
    clear n1 k0 k1 k2 X1
    go_wp2_with fail
    refine n2.mono ?_
    rintro e w4 ⟨rfl, ⟨v4, T4, _⟩, b4, _⟩
    have b24 := (B3.mono (Nat.le_refl _)).trans b4
    have X4 := X2.far b24 hz2
    have j1 : w4.cell? ⟨w.heap.size, 1, none⟩ = some (.bool y) := X4.cell 1
    have j2 : w4.cell? ⟨w.heap.size, 2, none⟩ = some (.slice a l.length c) := X4.cell 2
    have n3 := flag_walk y w4
    have hy : 0 ≤ yesN y ∧ yesN y < 256 := by unfold yesN; split <;> omega
    have n4 := fun (W : World) (hW : Wtr W w2.heap.size v4 ([] ++ le p 3)) => narrow2d W w2.heap.size _ _ (yesN y) l.length hW hy.1 hy.2 (by omega) (by omega) (by simp [le_length])
    clear n2 j0
    go_wp2_with fail
    go_region_with (first
      | (go_at_call 33; refine (flag_walk y _).mono ?_; rintro e w' ⟨rfl, rfl⟩)
      | (go_at_call 32; refine (n4 w4 T4).mono ?_; rintro e w5 ⟨rfl, ⟨v5, T5, _⟩, b5, _⟩; have b25 : Below w2.heap.size w2 w5 := b24.trans b5; have j3 : w5.cell? ⟨w.heap.size, 2, none⟩ = some (.slice a l.length c) := (X2.far b25 hz2).cell 2))
    all_goals
     clear n3 n4 j1 hy
     go_wp2
     go_loopw [25] (fun i wr => ∃ k : Nat, k ≤ l.length ∧ i = .int .i64 k ∧ (∃ v', Wtr wr w2.heap.size v' ([] ++ le p 3 ++ (le (yesN y) 1 ++ le (l.length : Int) 1) ++ (l.take k).flatMap wrE)) ∧ Below w2.heap.size w2 wr) (fun i _ => l.length - (intOf i).toNat)
     case atStart => exact ⟨0, Nat.zero_le _, rfl, ⟨_, by simpa using T5⟩, b25⟩
     case round =>
       obtain ⟨k, hk, rfl, ⟨v', T⟩, hbr⟩ := hrel
       by_cases hlt : k < l.length
       · obtain ⟨g, o, rfl, _, hg, _⟩ := hr.addr (by omega)
         obtain ⟨q0, q1⟩ := wr_cells (hr.far (b02.trans (hbr.mono b02.size))) hlt
         have hki : (k : Int) < (l.length : Int) := by omega
         have hk0 : (0 : Int) ≤ k := by omega
         have hx : l[k]? = some (l.getD k wrD) := by rw [List.getD_eq_getElem?_getD, List.getElem?_eq_getElem hlt]; rfl
         obtain ⟨r1, r2, r3, r4⟩ := p6 k _ hx
         have HT := Lib.hid (show (l.take (k + 1)).flatMap wrE = (l.take k).flatMap wrE ++ (le (l.getD k wrD).key 1 ++ le (l.getD k wrD).val 1) by
           rw [List.take_add_one, hx, List.flatMap_append]; simp [wrE])
         have hxl : ([] ++ le p 3 ++ (le (yesN y) 1 ++ le (l.length : Int) 1) ++ (l.take k).flatMap wrE).length ≤ 1000 := by
           have := flatMap_len wrE 2 wrE_len (l.take k)
           rw [List.length_take] at this
           simp [le_length, this]; omega
         generalize l.getD k wrD = x at *
         obtain ⟨W6, E6, B6, X6, S6⟩ := Blk.new wr 56 #[.int .i64 x.key, .int .i64 x.val]
         have T6 := T.far B6
         have c0 : W6.cell? ⟨wr.heap.size, 0, none⟩ = some (.int .i64 x.key) := X6.cell 0
         have c1 : W6.cell? ⟨wr.heap.size, 1, none⟩ = some (.int .i64 x.val) := X6.cell 1
         have n6 := narrow2 W6 w2.heap.size _ _ x.key x.val T6 (by omega) (by omega) (by omega) (by omega) (by omega)
         rw [S6] at n6
         clear hx p6
         go_wp2_with fail
         refine n6.mono ?_
         rintro e w7 ⟨rfl, ⟨v7, T7, _⟩, b7, _⟩
         rw [List.append_assoc _ _ (le x.key 1 ++ le x.val 1), ← HT.out] at T7
         have b67 := (B6.mono (Nat.le_of_lt T.1.lt)).trans b7
         clear n6 q0 q1 c0 c1
         go_wp2
         go_roundw
         case rel => exact ⟨k + 1, by omega, by go_num, ⟨_, T7⟩, hbr.trans b67⟩
         case measure => simp [intOf]; omega
       · obtain rfl : k = l.length := by omega
         have hrec : [] ++ le p 3 ++ (le (yesN y) 1 ++ le (l.length : Int) 1) ++ (l.take l.length).flatMap wrE = recB ⟨p, y, l⟩ := by
           rw [List.take_length]; simp [recB]
         rw [hrec] at T
         have c9 := T.cell
         clear hrec
         go_wp2
         go_ret2
         exact ⟨_, rfl, T.out (by omega), b02.trans (hbr.mono b02.size)⟩
end Go.Proofs.Ytmbphhcgmdaoeaa
