/- What is proved: flumeref05's Bytes answers as the spec says. -/
import Derived.Test.YtmbphhcgmdaoeaaReP
import Derived.Test.YtmbphhcgmdaoeaaReB
import Derived.Test.YtmbphhcgmdaoeaaRcO
import Derived.Test.YtmbphhcgmdaoeaaRcG
import Derived.Deep.RegionLaw
namespace Go.Proofs.Ytmbphhcgmdaoeaa
open Go.RowKit

theorem outE_cases (r : Rc) : (outE r = 0 ∧ mayB r = true ∧ outB r = recB r) ∨ (outE r = 2 ∧ mayB r = false ∧ outB r = []) := by
  unfold outE outB
  rcases h : mayB r with _ | _
  · exact .inr ⟨rfl, rfl, rfl⟩
  · exact .inl ⟨rfl, rfl, rfl⟩
theorem fits_of {n : Int} {m : Nat} (h1 : 1 ≤ m) (h2 : m ≤ 6) (h3 : 0 ≤ n) (h4 : n < 256 ^ m) : fitsB n m = true := decide_eq_true ⟨by omega, by omega, h3, by simpa using h4⟩
set_option maxRecDepth 100000 in
set_option maxHeartbeats 3200000 in
theorem rbytes_spec : BytesSpec 14 := by
  intro v r w h hI
  obtain ⟨_, rfl, a, c, rfl, hnc, hcm, hr⟩ := id h
  obtain ⟨W1, E1, B1, X1, S1⟩ := Blk.new w 24 #[.int .i64 r.place, .bool r.yes, .slice a r.ws.length c]
  have k0 : W1.cell? ⟨w.heap.size, 0, none⟩ = some (.int .i64 r.place) := X1.cell 0
  have k1 : W1.cell? ⟨w.heap.size, 1, none⟩ = some (.bool r.yes) := X1.cell 1
  have k2 : W1.cell? ⟨w.heap.size, 2, none⟩ = some (.slice a r.ws.length c) := X1.cell 2
  have n1 := rmay_spec (.agg #[.int .i64 r.place, .bool r.yes, .slice a r.ws.length c]) r W1 ((h.far B1).wide (Nat.le_refl _) B1.size) hI
  rcases outE_cases r with ⟨e1, e2, e3⟩ | ⟨e1, e2, e3⟩
  · rw [e1, e3]
    rw [e2] at n1
    obtain ⟨p1, p2, p3, p4⟩ := mayB_parts e2
    obtain ⟨p5, p6⟩ := wrB_parts p3
    obtain ⟨i0, hi, hz0, hz1, hz2⟩ := info_parts info_u8
    obtain ⟨p, y, l⟩ := r
    simp only at *
    go_enter Try.func14, Try.ntmps14
    go_wp2_with fail
    refine n1.mono ?_
    rintro e w2 ⟨rfl, b2⟩
    have X2 := X1.far b2 X1.lt
    have j0 : w2.cell? ⟨w.heap.size, 0, none⟩ = some (.int .i64 p) := X2.cell 0
    have n2 := rput_ok none 0 0 [] p 3 w2 (by omega) (fits_of (by decide) (by decide) (by omega) (by show p < 16777216; omega)) (Rd.nil _ _ _) (by decide)
    clear n1 k0 k1 k2
    go_wp2_with fail
    refine n2.mono ?_
    rintro e w3 ⟨v3, rfl, o3, b3⟩
    have X3 := X2.far b3 X2.lt
    clear n2 j0
    have k1 : w3.cell? ⟨w.heap.size, 1, none⟩ = some (.bool y) := X3.cell 1
    have k2 : w3.cell? ⟨w.heap.size, 2, none⟩ = some (.slice a l.length c) := X3.cell 2
    have hl4 : ((l.length : Int) % 256) = l.length := by omega
    have hb02 : Below w.heap.size w w2 := below_on B1 b2
    have hlt2 := X2.lt
    clear e1 e2 e3 h
    rcases y with _ | _
    · go_wp2_with (at_builtin; refine wpList_append_src _ rfl (.tmp 19) (.tmp 25) _ rfl i0 (.int .u8 0) 1 Try.underlying34 hi hz0 hz1 hz2 rfl rfl (b3.alloc b3.size _) (o3.alloc _) rfl (Rd.new w3 5 [0, (l.length : Int)]) (u8s_one _) (by unfold maxLen; simp) (by simp) ?_; intro v4 w4 b4 o4)
      have eH : u8s ([] ++ le p 3) ++ u8s [0, (l.length : Int)] = u8s (le p 3 ++ (le (yesN false) 1 ++ le (l.length : Int) 1) ++ (l.take 0).flatMap wrE) := by
        rw [← u8s_append, le_one (l.length : Int), hl4]
        rfl
      rw [eH] at o4
      have o4' : w4.ownsRow w2.heap.size 5 1 v4 (5 + 2 * 0) (u8s (le p 3 ++ (le (yesN false) 1 ++ le (l.length : Int) 1) ++ (l.take 0).flatMap wrE)) := o4
      clear o4 eH k1 k2 b3 o3
      go_wp2_with fail
      go_loopw [4, 7] (fun x i wr => ∃ k : Nat, k ≤ l.length ∧ i = .int .i64 k ∧ wr.ownsRow w2.heap.size 5 1 x (5 + 2 * k) (u8s (le p 3 ++ (le (yesN false) 1 ++ le (l.length : Int) 1) ++ (l.take k).flatMap wrE)) ∧ Below w2.heap.size w2 wr) (fun _ i _ => l.length - (intOf i).toNat)
      case atStart => exact ⟨0, Nat.zero_le _, rfl, o4', b4⟩
      case round =>
        obtain ⟨k, hk, rfl, ho, hb⟩ := hrel
        have k2 : wr.cell? ⟨w.heap.size, 2, none⟩ = some (.slice a l.length c) := (X2.far hb hlt2).cell 2
        by_cases hlt : k < l.length
        · obtain ⟨g, o, rfl, _, hg, _⟩ := hr.addr (by omega)
          obtain ⟨q0, q1⟩ := wr_cells (hr.far (below_on hb02 hb)) hlt
          have hk2 : ((k : Int) * 2).toNat = k * 2 := by omega
          have ht : l.take (k + 1) = l.take k ++ [l.getD k wrD] := by rw [List.take_succ_eq_append_getElem hlt, getD_at (List.getElem?_eq_getElem hlt)]
          obtain ⟨u1, u2, u3, u4⟩ := p6 k (l.getD k wrD) (by rw [List.getElem?_eq_getElem hlt, getD_at (List.getElem?_eq_getElem hlt)])
          generalize l.getD k wrD = z at q0 q1 ht u1 u2 u3 u4
          have hO : u8s (le p 3 ++ (le (yesN false) 1 ++ le (l.length : Int) 1) ++ (l.take k).flatMap wrE) ++ u8s [z.key, z.val] = u8s (le p 3 ++ (le (yesN false) 1 ++ le (l.length : Int) 1) ++ (l.take (k + 1)).flatMap wrE) := by
            rw [← u8s_append, ht, List.flatMap_append]
            have n1 : z.key % 256 = z.key := by omega
            have n2 : z.val % 256 = z.val := by omega
            simp [wrE, le_one, n1, n2]
          have m1 : IntKind.u8.wrap z.key = z.key := IntWalk.u8_in _ (by omega)
          have m2 : IntKind.u8.wrap z.val = z.val := IntWalk.u8_in _ (by omega)
          go_wp2_with fail
          go_region_law (first
            | (refine step_append_own (by rfl) (.tmp 34) (.tmp 49) _ (by rfl) w2 _ i0 _ 1 1 Try.underlying34 hi hz0 hz1 hz2 rfl (by decide) _ _ _ (by rfl) (by first | exact hb.alloc hb.size _ | exact hb.drew.alloc hb.size _) (by first | exact ho.alloc _ | exact ho.drew.alloc _) 0 (wr.heap.size + 1) _ 2 2 (u8s [z.key, z.val]) (by rfl) (by first | exact (Rd.new wr 5 [z.key, z.val]).rg | exact (Rd.new wr.drew 5 [z.key, z.val]).rg) (u8s_one _) (by unfold maxLen; omega) (by omega) ?_; intro v5 w5 b5 o5 _)
            | fail)
          all_goals
            go_wp2
            go_roundw
            case rel => exact ⟨k + 1, by omega, by go_num, by rw [← hO]; exact o5, b5⟩
            case measure => simp [intOf]; omega
        · obtain rfl : k = l.length := by omega
          rw [List.take_length] at ho
          obtain ⟨a5, c5, rfl, h5, h6, r5⟩ := Rg.own ho
          go_wp2
          go_ret2
          refine ⟨.slice a5 (5 + 2 * l.length) c5, rfl, ⟨a5, c5, by rw [recB_len], by rw [recB_len]; exact h5, h6, ?_⟩, below_on hb02 hb⟩
          rw [recB_len]
          have e : recB ⟨p, false, l⟩ = le p 3 ++ (le (yesN false) 1 ++ le (l.length : Int) 1) ++ l.flatMap wrE := by unfold recB; simp
          rw [e]
          exact r5.wide hb02.size (Nat.le_refl _)
    · go_wp2_with (at_builtin; refine wpList_append_src _ rfl (.tmp 19) (.tmp 25) _ rfl i0 (.int .u8 0) 1 Try.underlying34 hi hz0 hz1 hz2 rfl rfl (b3.alloc b3.size _) (o3.alloc _) rfl (Rd.new w3 5 [1, (l.length : Int)]) (u8s_one _) (by unfold maxLen; simp) (by simp) ?_; intro v4 w4 b4 o4)
      have eH : u8s ([] ++ le p 3) ++ u8s [1, (l.length : Int)] = u8s (le p 3 ++ (le (yesN true) 1 ++ le (l.length : Int) 1) ++ (l.take 0).flatMap wrE) := by
        rw [← u8s_append, le_one (l.length : Int), hl4]
        rfl
      rw [eH] at o4
      have o4' : w4.ownsRow w2.heap.size 5 1 v4 (5 + 2 * 0) (u8s (le p 3 ++ (le (yesN true) 1 ++ le (l.length : Int) 1) ++ (l.take 0).flatMap wrE)) := o4
      clear o4 eH k1 k2 b3 o3
      go_wp2_with fail
      go_loopw [4, 7] (fun x i wr => ∃ k : Nat, k ≤ l.length ∧ i = .int .i64 k ∧ wr.ownsRow w2.heap.size 5 1 x (5 + 2 * k) (u8s (le p 3 ++ (le (yesN true) 1 ++ le (l.length : Int) 1) ++ (l.take k).flatMap wrE)) ∧ Below w2.heap.size w2 wr) (fun _ i _ => l.length - (intOf i).toNat)
      case atStart => exact ⟨0, Nat.zero_le _, rfl, o4', b4⟩
      case round =>
        obtain ⟨k, hk, rfl, ho, hb⟩ := hrel
        have k2 : wr.cell? ⟨w.heap.size, 2, none⟩ = some (.slice a l.length c) := (X2.far hb hlt2).cell 2
        by_cases hlt : k < l.length
        · obtain ⟨g, o, rfl, _, hg, _⟩ := hr.addr (by omega)
          obtain ⟨q0, q1⟩ := wr_cells (hr.far (below_on hb02 hb)) hlt
          have hk2 : ((k : Int) * 2).toNat = k * 2 := by omega
          have ht : l.take (k + 1) = l.take k ++ [l.getD k wrD] := by rw [List.take_succ_eq_append_getElem hlt, getD_at (List.getElem?_eq_getElem hlt)]
          obtain ⟨u1, u2, u3, u4⟩ := p6 k (l.getD k wrD) (by rw [List.getElem?_eq_getElem hlt, getD_at (List.getElem?_eq_getElem hlt)])
          generalize l.getD k wrD = z at q0 q1 ht u1 u2 u3 u4
          have hO : u8s (le p 3 ++ (le (yesN true) 1 ++ le (l.length : Int) 1) ++ (l.take k).flatMap wrE) ++ u8s [z.key, z.val] = u8s (le p 3 ++ (le (yesN true) 1 ++ le (l.length : Int) 1) ++ (l.take (k + 1)).flatMap wrE) := by
            rw [← u8s_append, ht, List.flatMap_append]
            have n1 : z.key % 256 = z.key := by omega
            have n2 : z.val % 256 = z.val := by omega
            simp [wrE, le_one, n1, n2]
          have m1 : IntKind.u8.wrap z.key = z.key := IntWalk.u8_in _ (by omega)
          have m2 : IntKind.u8.wrap z.val = z.val := IntWalk.u8_in _ (by omega)
          go_wp2_with fail
          go_region_law (first
            | (refine step_append_own (by rfl) (.tmp 34) (.tmp 49) _ (by rfl) w2 _ i0 _ 1 1 Try.underlying34 hi hz0 hz1 hz2 rfl (by decide) _ _ _ (by rfl) (by first | exact hb.alloc hb.size _ | exact hb.drew.alloc hb.size _) (by first | exact ho.alloc _ | exact ho.drew.alloc _) 0 (wr.heap.size + 1) _ 2 2 (u8s [z.key, z.val]) (by rfl) (by first | exact (Rd.new wr 5 [z.key, z.val]).rg | exact (Rd.new wr.drew 5 [z.key, z.val]).rg) (u8s_one _) (by unfold maxLen; omega) (by omega) ?_; intro v5 w5 b5 o5 _)
            | fail)
          all_goals
            go_wp2
            go_roundw
            case rel => exact ⟨k + 1, by omega, by go_num, by rw [← hO]; exact o5, b5⟩
            case measure => simp [intOf]; omega
        · obtain rfl : k = l.length := by omega
          rw [List.take_length] at ho
          obtain ⟨a5, c5, rfl, h5, h6, r5⟩ := Rg.own ho
          go_wp2
          go_ret2
          refine ⟨.slice a5 (5 + 2 * l.length) c5, rfl, ⟨a5, c5, by rw [recB_len], by rw [recB_len]; exact h5, h6, ?_⟩, below_on hb02 hb⟩
          rw [recB_len]
          have e : recB ⟨p, true, l⟩ = le p 3 ++ (le (yesN true) 1 ++ le (l.length : Int) 1) ++ l.flatMap wrE := by unfold recB; simp
          rw [e]
          exact r5.wide hb02.size (Nat.le_refl _)
  · rw [e1, e3]
    rw [e2] at n1
    go_enter Try.func14, Try.ntmps14
    go_wp2_with fail
    refine n1.mono ?_
    rintro e w2 ⟨rfl, b2⟩
    go_wp2
    go_ret2
    exact ⟨.slice none 0 0, rfl, Sl.nil _ _ _ _, below_on B1 b2⟩
end Go.Proofs.Ytmbphhcgmdaoeaa
