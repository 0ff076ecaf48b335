/- What is proved: flumeref05's Stands answers as the spec says, if its lines does. -/
import Derived.Test.YtmbphhcgmdaoeaaReH
import Derived.Test.YtmbphhcgmdaoeaaRvE
import Derived.Deep.RegionHeld3
namespace Go.Proofs.Ytmbphhcgmdaoeaa
open Go.RowKit

def RLines : Prop := ∀ (v : Value) (l : List Ln) (pl cut : Int) (w : World), Sl 5 w 0 w.heap.size v l.length (lnC l) → l.length ≤ 1000 →
  Calls Try.prog 45 #[v, .int .i64 pl, .int .i64 cut] w fun e w' => e = .returned (.bool (lnsB l pl cut)) ∧ Below w.heap.size w w'
set_option maxRecDepth 100000 in
set_option maxHeartbeats 6400000 in
theorem rstands_of (HL : RLines) : StandsSpec 22 := by
  intro v s w h hI
  obtain ⟨v0, v1, v2, v3, rfl, h0, h1, h2, h3⟩ := h
  obtain ⟨_, _, _, _, _, _, _, _, i0, i1, i2, i3⟩ := hI
  obtain ⟨W1, E1, B1, X1, S1⟩ := Blk.new w 30 #[.int .i64 s.place, v0, v1, v2, v3, .int .i64 s.c0, .int .i64 s.c1, .int .i64 s.c2]
  have k0 : W1.cell? ⟨w.heap.size, 0, none⟩ = some (.int .i64 s.place) := X1.cell 0
  have k1 : W1.cell? ⟨w.heap.size, 1, none⟩ = some v0 := X1.cell 1
  have n1 := fun (W : World) (hb : Below w.heap.size w W) => ritems_walk v0 s.items s.place W ((h0.far hb).wide (Nat.le_refl _) hb.size) i0
  have n2 := fun (W : World) (hb : Below w.heap.size w W) => HL v1 s.l0 s.place s.c0 W ((h1.far hb).wide (Nat.le_refl _) hb.size) i1
  have n3 := fun (W : World) (hb : Below w.heap.size w W) => HL v2 s.l1 s.place s.c1 W ((h2.far hb).wide (Nat.le_refl _) hb.size) i2
  have n4 := fun (W : World) (hb : Below w.heap.size w W) => HL v3 s.l2 s.place s.c2 W ((h3.far hb).wide (Nat.le_refl _) hb.size) i3
  have hs : stands s = (decide (0 ≤ s.place ∧ s.place ≤ 1048575) && itsB s.items s.place && lnsB s.l0 s.place s.c0 && lnsB s.l1 s.place s.c1 && lnsB s.l2 s.place s.c2) := rfl
  rw [hs]
  clear hs h0 h1 h2 h3 i0 i1 i2 i3
  obtain ⟨pl, it, l0, l1, l2, c0, c1, c2⟩ := s
  simp only at *
  generalize itsB it pl = p1 at *
  generalize lnsB l0 pl c0 = p2 at *
  generalize lnsB l1 pl c1 = p3 at *
  generalize lnsB l2 pl c2 = p4 at *
  by_cases q1 : pl < 0
  · rw [decide_eq_false (by omega)]
    go_enter Try.func22, Try.ntmps22
    go_wp2
    go_ret
    exact ⟨ret_bool (by simp), B1⟩
  by_cases q2 : 1048575 < pl
  · rw [decide_eq_false (by omega)]
    go_enter Try.func22, Try.ntmps22
    go_wp2
    go_ret
    exact ⟨ret_bool (by simp), B1⟩
  rw [decide_eq_true ⟨by omega, by omega⟩]
  rcases p1 with _ | _
  · go_enter Try.func22, Try.ntmps22
    go_wp2_with fail
    refine (n1 _ B1).mono ?_
    rintro e w2 ⟨rfl, b2⟩
    go_wp2
    go_ret
    exact ⟨rfl, below_on B1 b2⟩
  go_enter Try.func22, Try.ntmps22
  go_wp2_with fail
  refine (n1 _ B1).mono ?_
  rintro e w2 ⟨rfl, b2⟩
  have X2 := X1.far b2 X1.lt
  have b02 := below_on B1 b2
  have hz2 := b2.size
  clear n1 k0 k1 X1 b2 E1
  go_wp2
  go_loopw [3] (fun i wr => ∃ k : Int, (0 ≤ k ∧ k ≤ 3) ∧ i = .int .i64 k ∧ Below W1.heap.size w2 wr ∧ ((1 ≤ k → p2 = true) ∧ (2 ≤ k → p3 = true) ∧ (3 ≤ k → p4 = true))) (fun i _ => 3 - (intOf i).toNat)
  case atStart => exact ⟨0, by decide, rfl, Below.refl _ _, fun h => absurd h (by decide), fun h => absurd h (by decide), fun h => absurd h (by decide)⟩
  case round =>
    obtain ⟨k, hk, rfl, hbr, hF⟩ := hrel
    have Xr := X2.far hbr (by omega)
    have b0r : Below w.heap.size w wr := b02.trans (hbr.mono (by omega))
    have HF := Lib.hid hF
    clear hF
    obtain rfl | rfl | rfl | rfl : k = 0 ∨ k = 1 ∨ k = 2 ∨ k = 3 := by omega
    · have t0 : wr.cell? ⟨w.heap.size, 0, none⟩ = some (.int .i64 pl) := Xr.cell 0
      have t1 : wr.cell? ⟨w.heap.size, 5, none⟩ = some (.int .i64 c0) := Xr.cell 5
      have t2 : wr.cell? ⟨w.heap.size, 2, none⟩ = some v1 := Xr.cell 2
      rcases p2 with _ | _
      · go_wp2_with fail
        go_region_with (go_at_call 45; refine (n2 _ (by first | exact b0r | exact b0r.drew)).mono ?_; rintro e w9 ⟨rfl, b9'⟩; have b9 : Below wr.heap.size wr w9 := (by first | exact b9' | exact ((Below.refl _ wr).drew).trans b9'))
        all_goals
          go_wp2
          go_ret
          exact ⟨ret_bool (by simp), b0r.trans (b9.mono b0r.size)⟩
      · have HT := Lib.hid (show ((1 : Int) ≤ 1 → true = true) ∧ ((2 : Int) ≤ 1 → p3 = true) ∧ ((3 : Int) ≤ 1 → p4 = true) from ⟨fun _ => rfl, fun h => absurd h (by decide), fun h => absurd h (by decide)⟩)
        go_wp2_with fail
        go_region_with (go_at_call 45; refine (n2 _ (by first | exact b0r | exact b0r.drew)).mono ?_; rintro e w9 ⟨rfl, b9'⟩; have b9 : Below wr.heap.size wr w9 := (by first | exact b9' | exact ((Below.refl _ wr).drew).trans b9'))
        all_goals
          go_wp2
          go_roundw
          case rel => exact ⟨1, by omega, by go_num, hbr.trans (b9.mono (Nat.le_trans hz2 hbr.size)), HT.out⟩
          case measure => simp [intOf]
    · have t0 : wr.cell? ⟨w.heap.size, 0, none⟩ = some (.int .i64 pl) := Xr.cell 0
      have t1 : wr.cell? ⟨w.heap.size, 6, none⟩ = some (.int .i64 c1) := Xr.cell 6
      have t2 : wr.cell? ⟨w.heap.size, 3, none⟩ = some v2 := Xr.cell 3
      rcases p3 with _ | _
      · go_wp2_with fail
        go_region_with (go_at_call 45; refine (n3 _ (by first | exact b0r | exact b0r.drew)).mono ?_; rintro e w9 ⟨rfl, b9'⟩; have b9 : Below wr.heap.size wr w9 := (by first | exact b9' | exact ((Below.refl _ wr).drew).trans b9'))
        all_goals
          go_wp2
          go_ret
          exact ⟨ret_bool (by simp), b0r.trans (b9.mono b0r.size)⟩
      · have HT := Lib.hid (show ((1 : Int) ≤ 2 → p2 = true) ∧ ((2 : Int) ≤ 2 → true = true) ∧ ((3 : Int) ≤ 2 → p4 = true) from ⟨fun _ => HF.out.1 (by decide), fun _ => rfl, fun h => absurd h (by decide)⟩)
        go_wp2_with fail
        go_region_with (go_at_call 45; refine (n3 _ (by first | exact b0r | exact b0r.drew)).mono ?_; rintro e w9 ⟨rfl, b9'⟩; have b9 : Below wr.heap.size wr w9 := (by first | exact b9' | exact ((Below.refl _ wr).drew).trans b9'))
        all_goals
          go_wp2
          go_roundw
          case rel => exact ⟨2, by omega, by go_num, hbr.trans (b9.mono (Nat.le_trans hz2 hbr.size)), HT.out⟩
          case measure => simp [intOf]
    · have t0 : wr.cell? ⟨w.heap.size, 0, none⟩ = some (.int .i64 pl) := Xr.cell 0
      have t1 : wr.cell? ⟨w.heap.size, 7, none⟩ = some (.int .i64 c2) := Xr.cell 7
      have t2 : wr.cell? ⟨w.heap.size, 4, none⟩ = some v3 := Xr.cell 4
      rcases p4 with _ | _
      · go_wp2_with fail
        go_region_with (go_at_call 45; refine (n4 _ (by first | exact b0r | exact b0r.drew)).mono ?_; rintro e w9 ⟨rfl, b9'⟩; have b9 : Below wr.heap.size wr w9 := (by first | exact b9' | exact ((Below.refl _ wr).drew).trans b9'))
        all_goals
          go_wp2
          go_ret
          exact ⟨ret_bool (by simp), b0r.trans (b9.mono b0r.size)⟩
      · have HT := Lib.hid (show ((1 : Int) ≤ 3 → p2 = true) ∧ ((2 : Int) ≤ 3 → p3 = true) ∧ ((3 : Int) ≤ 3 → true = true) from ⟨fun _ => HF.out.1 (by decide), fun _ => HF.out.2.1 (by decide), fun _ => rfl⟩)
        go_wp2_with fail
        go_region_with (go_at_call 45; refine (n4 _ (by first | exact b0r | exact b0r.drew)).mono ?_; rintro e w9 ⟨rfl, b9'⟩; have b9 : Below wr.heap.size wr w9 := (by first | exact b9' | exact ((Below.refl _ wr).drew).trans b9'))
        all_goals
          go_wp2
          go_roundw
          case rel => exact ⟨3, by omega, by go_num, hbr.trans (b9.mono (Nat.le_trans hz2 hbr.size)), HT.out⟩
          case measure => simp [intOf]
    · have h1 := HF.out.1 (by decide)
      have h2 := HF.out.2.1 (by decide)
      have h3 := HF.out.2.2 (by decide)
      subst h1 h2 h3
      go_wp2
      go_ret
      exact ⟨rfl, b0r⟩
end Go.Proofs.Ytmbphhcgmdaoeaa
