/- What is proved: record's Stands answers as the document says. -/
import Derived.Test.YtmbphhcgmdaoeaaRvE
import Derived.Deep.RegionHeld3
namespace Go.Proofs.Ytmbphhcgmdaoeaa
open Go.RowKit

theorem blk_drew {w : World} {g : Nat} {cs : Array Value} (h : Blk w g cs) : Blk w.drew g cs := h
theorem ix0 (v1 v2 v3 : Value) (w : World) : (Instr.index 27 (.agg #[v1, v2, v3]) (.int .i64 0)).run Try.prog w = .ok v1 w := by kernel_rfl
theorem ix1 (v1 v2 v3 : Value) (w : World) : (Instr.index 27 (.agg #[v1, v2, v3]) (.int .i64 1)).run Try.prog w = .ok v2 w := by kernel_rfl
theorem ix2 (v1 v2 v3 : Value) (w : World) : (Instr.index 27 (.agg #[v1, v2, v3]) (.int .i64 2)).run Try.prog w = .ok v3 w := by kernel_rfl
theorem below_on02 {w w2 wr : World} {B : Nat} (h : Below w.heap.size w w2) (h' : Below B w2 wr) (hB : w.heap.size ≤ B) : Below w.heap.size w wr := h.trans (h'.mono hB)
theorem below_rest {B : Nat} {w2 wr w9 w10 : World} (h : Below B w2 wr) (h9 : Below wr.heap.size wr w9) (h10 : Below w9.heap.size w9 w10) (hB : B ≤ w2.heap.size) : Below B w2 w10 := h.trans ((below_on h9 h10).mono (Nat.le_trans hB h.size))
set_option maxRecDepth 100000 in
set_option maxHeartbeats 6400000 in
theorem dev_stands : StandsSpec 21 := by
  intro v s w h hI
  obtain ⟨v0, v1, v2, v3, rfl, h0, h1, h2, h3⟩ := h
  obtain ⟨_, _, _, _, _, _, _, _, i0, i1, i2, i3⟩ := hI
  obtain ⟨W1, E1, B1, X1, S1⟩ := Blk.new w 30 #[.int .i64 s.place, v0, v1, v2, v3, .int .i64 s.c0, .int .i64 s.c1, .int .i64 s.c2]
  have k0 : W1.cell? ⟨w.heap.size, 0, none⟩ = some (.int .i64 s.place) := X1.cell 0
  have k1 : W1.cell? ⟨w.heap.size, 1, none⟩ = some v0 := X1.cell 1
  have n0 := within_walk s.place 0 1048575 W1
  have n1 := items_walk v0 s.items s.place W1 ((h0.far B1).wide (Nat.le_refl _) B1.size) i0
  have n2 := fun (W : World) (hb : Below w.heap.size w W) => lines_walk v1 s.l0 s.place W ((h1.far hb).wide (Nat.le_refl _) hb.size) i1
  have n3 := fun (W : World) (hb : Below w.heap.size w W) => lines_walk v2 s.l1 s.place W ((h2.far hb).wide (Nat.le_refl _) hb.size) i2
  have n4 := fun (W : World) (hb : Below w.heap.size w W) => lines_walk v3 s.l2 s.place W ((h3.far hb).wide (Nat.le_refl _) hb.size) i3
  have m2 := fun (W : World) (hb : Below w.heap.size w W) => cut_walk v1 s.l0 s.c0 s.place W ((h1.far hb).wide (Nat.le_refl _) hb.size) i1
  have m3 := fun (W : World) (hb : Below w.heap.size w W) => cut_walk v2 s.l1 s.c1 s.place W ((h2.far hb).wide (Nat.le_refl _) hb.size) i2
  have m4 := fun (W : World) (hb : Below w.heap.size w W) => cut_walk v3 s.l2 s.c2 s.place W ((h3.far hb).wide (Nat.le_refl _) hb.size) i3
  have hs : stands s = (wthB s.place 0 1048575 && itsB s.items s.place && lnsB s.l0 s.place s.c0 && lnsB s.l1 s.place s.c1 && lnsB s.l2 s.place s.c2) := rfl
  rw [lnsB_eq, lnsB_eq, lnsB_eq] at hs
  rw [hs]
  clear hs h0 h1 h2 h3 i0 i1 i2 i3
  obtain ⟨pl, it, l0, l1, l2, c0, c1, c2⟩ := s
  simp only at *
  generalize wthB pl 0 1048575 = p0 at *
  generalize itsB it pl = p1 at *
  generalize lnsF l0 pl = p2 at *
  generalize lnsF l1 pl = p3 at *
  generalize lnsF l2 pl = p4 at *
  generalize cutB l0 pl c0 = q2 at *
  generalize cutB l1 pl c1 = q3 at *
  generalize cutB l2 pl c2 = q4 at *
  rcases p0 with _ | _
  · go_enter Try.func21, Try.ntmps21
    go_wp2_with fail
    refine n0.mono ?_
    rintro e w' ⟨rfl, rfl⟩
    go_wp2
    go_ret
    exact ⟨rfl, B1⟩
  rcases p1 with _ | _
  · go_enter Try.func21, Try.ntmps21
    go_wp2_with fail
    refine n0.mono ?_
    rintro e w' ⟨rfl, rfl⟩
    go_wp2_with fail
    refine n1.mono ?_
    rintro e w2 ⟨rfl, b2⟩
    go_wp2
    go_ret
    exact ⟨rfl, below_on B1 b2⟩
  go_enter Try.func21, Try.ntmps21
  go_wp2_with fail
  refine n0.mono ?_
  rintro e w' ⟨rfl, rfl⟩
  go_wp2_with fail
  refine n1.mono ?_
  rintro e w2 ⟨rfl, b2⟩
  have X2 := X1.far b2 X1.lt
  have b02 := below_on B1 b2
  have hz2 := b2.size
  clear n0 n1 k0 k1 X1 b2 E1
  have j0 : w2.cell? ⟨w.heap.size, 0, none⟩ = some (.int .i64 pl) := X2.cell 0
  have j2 : w2.cell? ⟨w.heap.size, 2, none⟩ = some v1 := X2.cell 2
  have j3 : w2.cell? ⟨w.heap.size, 3, none⟩ = some v2 := X2.cell 3
  have j4 : w2.cell? ⟨w.heap.size, 4, none⟩ = some v3 := X2.cell 4
  go_wp2
  clear j0 j2 j3 j4
  go_loopw [19] (fun i wr => ∃ k : Int, (0 ≤ k ∧ k ≤ 3) ∧ i = .int .i64 k ∧ Below W1.heap.size w2 wr ∧ ((1 ≤ k → (p2 && q2) = true) ∧ (2 ≤ k → (p3 && q3) = true) ∧ (3 ≤ k → (p4 && q4) = true))) (fun i _ => 3 - (intOf i).toNat)
  case atStart => exact ⟨0, by decide, rfl, Below.refl _ _, fun h => absurd h (by decide), fun h => absurd h (by decide), fun h => absurd h (by decide)⟩
  case round =>
    obtain ⟨k, hk, rfl, hbr, hF⟩ := hrel
    have Xr := X2.far hbr (by omega)
    have hbz : W1.heap.size ≤ wr.heap.size := Nat.le_trans (by omega) hbr.size
    have b0r := below_on02 b02 hbr (by omega)
    have HF := Lib.hid hF
    clear hF
    obtain rfl | rfl | rfl | rfl : k = 0 ∨ k = 1 ∨ k = 2 ∨ k = 3 := by omega
    · have t0 : wr.cell? ⟨w.heap.size, 0, none⟩ = some (.int .i64 pl) := Xr.cell 0
      have t1 : wr.cell? ⟨w.heap.size, 5, none⟩ = some (.int .i64 c0) := Xr.cell 5
      have ixx := ix0 v1 v2 v3
      rcases p2 with _ | _
      · have HN := Lib.hid (show (true && true && (false && q2) && (p3 && q3) && (p4 && q4)) = false by simp)
        go_wp2_with fail
        refine wp_region_any (by kernel_rfl) ?_
        change wpAny _ _ _ _ _ _ _ (World.drew _)
        refine wpAny_take (i := 0) (v := ?v0a) rfl (by kernel_rfl) (by kernel_rfl) (by kernel_rfl) (fun _ _ _ h => h) (Or.inl ⟨by rfl, ?y0a⟩) ?r0a
        case y0a => (intro w'; go_simp; with_reducible rfl)
        change wpAny _ _ _ _ _ _ (Act.put _ (some 23) _) _
        try simp only [Act.put, List.setIfInBounds_toArray, List.set_cons_zero, List.set_cons_succ]
        refine wpAny_take (i := 1) (v := ?v1a) rfl (by kernel_rfl) (by kernel_rfl) (by kernel_rfl) (fun _ _ _ h => h) (Or.inl ⟨by rfl, ?y1a⟩) ?r1a
        case y1a => (intro w'; go_simp; with_reducible rfl)
        change wpAny _ _ _ _ _ _ (Act.put _ (some 24) _) _
        try simp only [Act.put, List.setIfInBounds_toArray, List.set_cons_zero, List.set_cons_succ]
        refine wpAny_ready (rs := [2]) (by kernel_rfl) (by simp) ?_
        refine AllReady.cons rfl (fun K hK => ?_) AllReady.nil
        go_simp
        refine hK _ _ ?_
        clear hK K
        refine wpAny_ready (rs := [3]) (by kernel_rfl) (by simp) ?_
        refine AllReady.cons rfl (fun K hK => ?_) AllReady.nil
        go_simp
        refine (n2 _ b0r.drew).mono ?_
        rintro e w9 ⟨rfl, b9⟩
        refine hK _ _ ?_
        clear hK K
        refine wpAny_take (i := 4) (v := ?v4a) rfl (by kernel_rfl) (by kernel_rfl) (by kernel_rfl) (fun _ _ _ h => h) (Or.inl ⟨by rfl, ?y4a⟩) ?r4a
        case y4a => (intro w'; go_simp; with_reducible rfl)
        change wpAny _ _ _ _ _ _ (Act.put _ (some 27) _) _
        try simp only [Act.put, List.setIfInBounds_toArray, List.set_cons_zero, List.set_cons_succ]
        refine wpAny_take (i := 5) (v := ?v5a) rfl (by kernel_rfl) (by kernel_rfl) (by kernel_rfl) (fun _ _ _ h => h) (Or.inl ⟨by rfl, ?y5a⟩) ?r5a
        case y5a => (intro w'; go_simp; with_reducible rfl)
        change wpAny _ _ _ _ _ _ (Act.put _ (some 28) _) _
        try simp only [Act.put, List.setIfInBounds_toArray, List.set_cons_zero, List.set_cons_succ]
        refine wpAny_take (i := 6) (v := undef) rfl (by kernel_rfl) (by kernel_rfl) (by kernel_rfl) (fun _ _ _ h => h) (Or.inr ⟨by rfl, rfl⟩) ?_
        change wpAny _ _ _ _ _ _ (Act.put _ (some 29) undef) _
        try simp only [Act.put, List.setIfInBounds_toArray, List.set_cons_zero, List.set_cons_succ]
        refine wpAny_take (i := 7) (v := undef) rfl (by kernel_rfl) (by kernel_rfl) (by kernel_rfl) (fun _ _ _ h => h) (Or.inr ⟨by rfl, rfl⟩) ?_
        change wpAny _ _ _ _ _ _ (Act.put _ (some 30) undef) _
        try simp only [Act.put, List.setIfInBounds_toArray, List.set_cons_zero, List.set_cons_succ]
        refine wpAny_take (i := 8) (v := undef) rfl (by kernel_rfl) (by kernel_rfl) (by kernel_rfl) (fun _ _ _ h => h) (Or.inr ⟨by rfl, rfl⟩) ?_
        change wpAny _ _ _ _ _ _ (Act.put _ (some 31) undef) _
        try simp only [Act.put, List.setIfInBounds_toArray, List.set_cons_zero, List.set_cons_succ]
        refine wpAny_take (i := 9) (v := undef) rfl (by kernel_rfl) (by kernel_rfl) (by kernel_rfl) (fun _ _ _ h => h) (Or.inr ⟨by rfl, rfl⟩) ?_
        change wpAny _ _ _ _ _ _ (Act.put _ (some 32) undef) _
        try simp only [Act.put, List.setIfInBounds_toArray, List.set_cons_zero, List.set_cons_succ]
        refine wpAny_take (i := 10) (v := undef) rfl (by kernel_rfl) (by kernel_rfl) (by kernel_rfl) (fun _ _ _ h => h) (Or.inr ⟨by rfl, rfl⟩) ?_
        change wpAny _ _ _ _ _ _ (Act.put _ (some 33) undef) _
        try simp only [Act.put, List.setIfInBounds_toArray, List.set_cons_zero, List.set_cons_succ]
        refine wpAny_take (i := 11) (v := undef) rfl (by kernel_rfl) (by kernel_rfl) (by kernel_rfl) (fun _ _ _ h => h) (Or.inr ⟨by rfl, rfl⟩) ?_
        change wpAny _ _ _ _ _ _ (Act.put _ (some 34) undef) _
        try simp only [Act.put, List.setIfInBounds_toArray, List.set_cons_zero, List.set_cons_succ]
        refine wpAny_take (i := 12) (v := undef) rfl (by kernel_rfl) (by kernel_rfl) (by kernel_rfl) (fun _ _ _ h => h) (Or.inr ⟨by rfl, rfl⟩) ?_
        change wpAny _ _ _ _ _ _ (Act.put _ (some 35) undef) _
        try simp only [Act.put, List.setIfInBounds_toArray, List.set_cons_zero, List.set_cons_succ]
        refine wpAny_take (i := 13) (v := undef) rfl (by kernel_rfl) (by kernel_rfl) (by kernel_rfl) (fun _ _ _ h => h) (Or.inr ⟨by rfl, rfl⟩) ?_
        change wpAny _ _ _ _ _ _ (Act.put _ (some 36) undef) _
        try simp only [Act.put, List.setIfInBounds_toArray, List.set_cons_zero, List.set_cons_succ]
        refine wpAny_take (i := 14) (v := undef) rfl (by kernel_rfl) (by kernel_rfl) (by kernel_rfl) (fun _ _ _ h => h) (Or.inr ⟨by rfl, rfl⟩) ?_
        change wpAny _ _ _ _ _ _ (Act.put _ (some 37) undef) _
        try simp only [Act.put, List.setIfInBounds_toArray, List.set_cons_zero, List.set_cons_succ]
        refine wpAny_take (i := 15) (v := ?v15a) rfl (by kernel_rfl) (by kernel_rfl) (by kernel_rfl) (fun _ _ _ h => h) (Or.inl ⟨by rfl, ?y15a⟩) ?r15a
        case y15a => (intro w'; go_simp; with_reducible rfl)
        change wpAny _ _ _ _ _ _ (Act.put _ (some 38) _) _
        try simp only [Act.put, List.setIfInBounds_toArray, List.set_cons_zero, List.set_cons_succ]
        refine wpAny_done (by kernel_rfl) ?_ _
        have b0a := b0r.drew.trans (b9.mono b0r.drew.size)
        go_wp2
        go_ret
        exact ⟨ret_bool HN.out.symm, b0a⟩
      rcases q2 with _ | _
      · have HN := Lib.hid (show (true && true && (true && false) && (p3 && q3) && (p4 && q4)) = false by simp)
        go_wp2_with fail
        have kS := Lib.hid (show ∀ W' : World, Below wr.heap.size wr W' → W'.cell? ⟨w.heap.size, 0, none⟩ = some (.int .i64 pl) ∧ W'.cell? ⟨w.heap.size, 5, none⟩ = some (.int .i64 c0) ∧ Below wr.heap.size wr W' from fun W' hb => ⟨(Xr.far hb Xr.lt).cell 0, (Xr.far hb Xr.lt).cell 5, hb⟩)
        first | go_region_held3 (fun W' => W'.cell? ⟨w.heap.size, 0, none⟩ = some (.int .i64 pl) ∧ W'.cell? ⟨w.heap.size, 5, none⟩ = some (.int .i64 c0) ∧ Below wr.heap.size wr W')
          (first
            | exact kS.out _ ((Below.refl _ _).drew)
            | exact kS.out _ (Below.drew (by assumption))
            | exact kS.out _ (Below.trans (by assumption) (b9.mono (Below.size (by assumption))))
            | exact kS.out _ (Below.trans (by assumption) (b10.mono (Below.size (by assumption)))))
          (first
            | (go_at_call 42; go_split_ands; refine (n2 _ (b0r.trans (Below.mono (by assumption) b0r.size))).mono ?_; rintro e w9 ⟨rfl, b9⟩)
            | (go_at_call 43; go_split_ands; refine (m2 _ (b0r.trans (Below.mono (by assumption) b0r.size))).mono ?_; rintro e w10 ⟨rfl, b10⟩)) | fail
        all_goals
          go_split_ands
          go_wp2
          go_ret
          exact ⟨ret_bool HN.out.symm, b0r.trans (Below.mono (by assumption) b0r.size)⟩
      · have HT := Lib.hid (show ((1 : Int) ≤ 1 → (true && true) = true) ∧ ((2 : Int) ≤ 1 → (p3 && q3) = true) ∧ ((3 : Int) ≤ 1 → (p4 && q4) = true) from ⟨fun _ => rfl, fun h => absurd h (by decide), fun h => absurd h (by decide)⟩)
        go_wp2_with fail
        have kS := Lib.hid (show ∀ W' : World, Below wr.heap.size wr W' → W'.cell? ⟨w.heap.size, 0, none⟩ = some (.int .i64 pl) ∧ W'.cell? ⟨w.heap.size, 5, none⟩ = some (.int .i64 c0) ∧ Below wr.heap.size wr W' from fun W' hb => ⟨(Xr.far hb Xr.lt).cell 0, (Xr.far hb Xr.lt).cell 5, hb⟩)
        first | go_region_held3 (fun W' => W'.cell? ⟨w.heap.size, 0, none⟩ = some (.int .i64 pl) ∧ W'.cell? ⟨w.heap.size, 5, none⟩ = some (.int .i64 c0) ∧ Below wr.heap.size wr W')
          (first
            | exact kS.out _ ((Below.refl _ _).drew)
            | exact kS.out _ (Below.drew (by assumption))
            | exact kS.out _ (Below.trans (by assumption) (b9.mono (Below.size (by assumption))))
            | exact kS.out _ (Below.trans (by assumption) (b10.mono (Below.size (by assumption)))))
          (first
            | (go_at_call 42; go_split_ands; refine (n2 _ (b0r.trans (Below.mono (by assumption) b0r.size))).mono ?_; rintro e w9 ⟨rfl, b9⟩)
            | (go_at_call 43; go_split_ands; refine (m2 _ (b0r.trans (Below.mono (by assumption) b0r.size))).mono ?_; rintro e w10 ⟨rfl, b10⟩)) | fail
        all_goals
          go_wp2
          go_roundw
          case rel => exact ⟨1, by omega, by go_num, below_rest hbr (by first | exact b9 | exact (Below.refl _ wr).drew.trans b9) b10 (by omega), HT.out⟩
          case measure => simp [intOf]
    · have t0 : wr.cell? ⟨w.heap.size, 0, none⟩ = some (.int .i64 pl) := Xr.cell 0
      have t1 : wr.cell? ⟨w.heap.size, 6, none⟩ = some (.int .i64 c1) := Xr.cell 6
      have ixx := ix1 v1 v2 v3
      rcases p3 with _ | _
      · have HN := Lib.hid (show (true && true && (p2 && q2) && (false && q3) && (p4 && q4)) = false by simp)
        go_wp2_with fail
        refine wp_region_any (by kernel_rfl) ?_
        change wpAny _ _ _ _ _ _ _ (World.drew _)
        refine wpAny_take (i := 0) (v := ?v0b) rfl (by kernel_rfl) (by kernel_rfl) (by kernel_rfl) (fun _ _ _ h => h) (Or.inl ⟨by rfl, ?y0b⟩) ?r0b
        case y0b => (intro w'; go_simp; with_reducible rfl)
        change wpAny _ _ _ _ _ _ (Act.put _ (some 23) _) _
        try simp only [Act.put, List.setIfInBounds_toArray, List.set_cons_zero, List.set_cons_succ]
        refine wpAny_take (i := 1) (v := ?v1b) rfl (by kernel_rfl) (by kernel_rfl) (by kernel_rfl) (fun _ _ _ h => h) (Or.inl ⟨by rfl, ?y1b⟩) ?r1b
        case y1b => (intro w'; go_simp; with_reducible rfl)
        change wpAny _ _ _ _ _ _ (Act.put _ (some 24) _) _
        try simp only [Act.put, List.setIfInBounds_toArray, List.set_cons_zero, List.set_cons_succ]
        refine wpAny_ready (rs := [2]) (by kernel_rfl) (by simp) ?_
        refine AllReady.cons rfl (fun K hK => ?_) AllReady.nil
        go_simp
        refine hK _ _ ?_
        clear hK K
        refine wpAny_ready (rs := [3]) (by kernel_rfl) (by simp) ?_
        refine AllReady.cons rfl (fun K hK => ?_) AllReady.nil
        go_simp
        refine (n3 _ b0r.drew).mono ?_
        rintro e w9 ⟨rfl, b9⟩
        refine hK _ _ ?_
        clear hK K
        refine wpAny_take (i := 4) (v := ?v4b) rfl (by kernel_rfl) (by kernel_rfl) (by kernel_rfl) (fun _ _ _ h => h) (Or.inl ⟨by rfl, ?y4b⟩) ?r4b
        case y4b => (intro w'; go_simp; with_reducible rfl)
        change wpAny _ _ _ _ _ _ (Act.put _ (some 27) _) _
        try simp only [Act.put, List.setIfInBounds_toArray, List.set_cons_zero, List.set_cons_succ]
        refine wpAny_take (i := 5) (v := ?v5b) rfl (by kernel_rfl) (by kernel_rfl) (by kernel_rfl) (fun _ _ _ h => h) (Or.inl ⟨by rfl, ?y5b⟩) ?r5b
        case y5b => (intro w'; go_simp; with_reducible rfl)
        change wpAny _ _ _ _ _ _ (Act.put _ (some 28) _) _
        try simp only [Act.put, List.setIfInBounds_toArray, List.set_cons_zero, List.set_cons_succ]
        refine wpAny_take (i := 6) (v := undef) rfl (by kernel_rfl) (by kernel_rfl) (by kernel_rfl) (fun _ _ _ h => h) (Or.inr ⟨by rfl, rfl⟩) ?_
        change wpAny _ _ _ _ _ _ (Act.put _ (some 29) undef) _
        try simp only [Act.put, List.setIfInBounds_toArray, List.set_cons_zero, List.set_cons_succ]
        refine wpAny_take (i := 7) (v := undef) rfl (by kernel_rfl) (by kernel_rfl) (by kernel_rfl) (fun _ _ _ h => h) (Or.inr ⟨by rfl, rfl⟩) ?_
        change wpAny _ _ _ _ _ _ (Act.put _ (some 30) undef) _
        try simp only [Act.put, List.setIfInBounds_toArray, List.set_cons_zero, List.set_cons_succ]
        refine wpAny_take (i := 8) (v := undef) rfl (by kernel_rfl) (by kernel_rfl) (by kernel_rfl) (fun _ _ _ h => h) (Or.inr ⟨by rfl, rfl⟩) ?_
        change wpAny _ _ _ _ _ _ (Act.put _ (some 31) undef) _
        try simp only [Act.put, List.setIfInBounds_toArray, List.set_cons_zero, List.set_cons_succ]
        refine wpAny_take (i := 9) (v := undef) rfl (by kernel_rfl) (by kernel_rfl) (by kernel_rfl) (fun _ _ _ h => h) (Or.inr ⟨by rfl, rfl⟩) ?_
        change wpAny _ _ _ _ _ _ (Act.put _ (some 32) undef) _
        try simp only [Act.put, List.setIfInBounds_toArray, List.set_cons_zero, List.set_cons_succ]
        refine wpAny_take (i := 10) (v := undef) rfl (by kernel_rfl) (by kernel_rfl) (by kernel_rfl) (fun _ _ _ h => h) (Or.inr ⟨by rfl, rfl⟩) ?_
        change wpAny _ _ _ _ _ _ (Act.put _ (some 33) undef) _
        try simp only [Act.put, List.setIfInBounds_toArray, List.set_cons_zero, List.set_cons_succ]
        refine wpAny_take (i := 11) (v := undef) rfl (by kernel_rfl) (by kernel_rfl) (by kernel_rfl) (fun _ _ _ h => h) (Or.inr ⟨by rfl, rfl⟩) ?_
        change wpAny _ _ _ _ _ _ (Act.put _ (some 34) undef) _
        try simp only [Act.put, List.setIfInBounds_toArray, List.set_cons_zero, List.set_cons_succ]
        refine wpAny_take (i := 12) (v := undef) rfl (by kernel_rfl) (by kernel_rfl) (by kernel_rfl) (fun _ _ _ h => h) (Or.inr ⟨by rfl, rfl⟩) ?_
        change wpAny _ _ _ _ _ _ (Act.put _ (some 35) undef) _
        try simp only [Act.put, List.setIfInBounds_toArray, List.set_cons_zero, List.set_cons_succ]
        refine wpAny_take (i := 13) (v := undef) rfl (by kernel_rfl) (by kernel_rfl) (by kernel_rfl) (fun _ _ _ h => h) (Or.inr ⟨by rfl, rfl⟩) ?_
        change wpAny _ _ _ _ _ _ (Act.put _ (some 36) undef) _
        try simp only [Act.put, List.setIfInBounds_toArray, List.set_cons_zero, List.set_cons_succ]
        refine wpAny_take (i := 14) (v := undef) rfl (by kernel_rfl) (by kernel_rfl) (by kernel_rfl) (fun _ _ _ h => h) (Or.inr ⟨by rfl, rfl⟩) ?_
        change wpAny _ _ _ _ _ _ (Act.put _ (some 37) undef) _
        try simp only [Act.put, List.setIfInBounds_toArray, List.set_cons_zero, List.set_cons_succ]
        refine wpAny_take (i := 15) (v := ?v15b) rfl (by kernel_rfl) (by kernel_rfl) (by kernel_rfl) (fun _ _ _ h => h) (Or.inl ⟨by rfl, ?y15b⟩) ?r15b
        case y15b => (intro w'; go_simp; with_reducible rfl)
        change wpAny _ _ _ _ _ _ (Act.put _ (some 38) _) _
        try simp only [Act.put, List.setIfInBounds_toArray, List.set_cons_zero, List.set_cons_succ]
        refine wpAny_done (by kernel_rfl) ?_ _
        have b0a := b0r.drew.trans (b9.mono b0r.drew.size)
        go_wp2
        go_ret
        exact ⟨ret_bool HN.out.symm, b0a⟩
      rcases q3 with _ | _
      · have HN := Lib.hid (show (true && true && (p2 && q2) && (true && false) && (p4 && q4)) = false by simp)
        go_wp2_with fail
        have kS := Lib.hid (show ∀ W' : World, Below wr.heap.size wr W' → W'.cell? ⟨w.heap.size, 0, none⟩ = some (.int .i64 pl) ∧ W'.cell? ⟨w.heap.size, 6, none⟩ = some (.int .i64 c1) ∧ Below wr.heap.size wr W' from fun W' hb => ⟨(Xr.far hb Xr.lt).cell 0, (Xr.far hb Xr.lt).cell 6, hb⟩)
        first | go_region_held3 (fun W' => W'.cell? ⟨w.heap.size, 0, none⟩ = some (.int .i64 pl) ∧ W'.cell? ⟨w.heap.size, 6, none⟩ = some (.int .i64 c1) ∧ Below wr.heap.size wr W')
          (first
            | exact kS.out _ ((Below.refl _ _).drew)
            | exact kS.out _ (Below.drew (by assumption))
            | exact kS.out _ (Below.trans (by assumption) (b9.mono (Below.size (by assumption))))
            | exact kS.out _ (Below.trans (by assumption) (b10.mono (Below.size (by assumption)))))
          (first
            | (go_at_call 42; go_split_ands; refine (n3 _ (b0r.trans (Below.mono (by assumption) b0r.size))).mono ?_; rintro e w9 ⟨rfl, b9⟩)
            | (go_at_call 43; go_split_ands; refine (m3 _ (b0r.trans (Below.mono (by assumption) b0r.size))).mono ?_; rintro e w10 ⟨rfl, b10⟩)) | fail
        all_goals
          go_split_ands
          go_wp2
          go_ret
          exact ⟨ret_bool HN.out.symm, b0r.trans (Below.mono (by assumption) b0r.size)⟩
      · have HT := Lib.hid (show ((1 : Int) ≤ 2 → (p2 && q2) = true) ∧ ((2 : Int) ≤ 2 → (true && true) = true) ∧ ((3 : Int) ≤ 2 → (p4 && q4) = true) from ⟨fun _ => HF.out.1 (by decide), fun _ => rfl, fun h => absurd h (by decide)⟩)
        go_wp2_with fail
        have kS := Lib.hid (show ∀ W' : World, Below wr.heap.size wr W' → W'.cell? ⟨w.heap.size, 0, none⟩ = some (.int .i64 pl) ∧ W'.cell? ⟨w.heap.size, 6, none⟩ = some (.int .i64 c1) ∧ Below wr.heap.size wr W' from fun W' hb => ⟨(Xr.far hb Xr.lt).cell 0, (Xr.far hb Xr.lt).cell 6, hb⟩)
        first | go_region_held3 (fun W' => W'.cell? ⟨w.heap.size, 0, none⟩ = some (.int .i64 pl) ∧ W'.cell? ⟨w.heap.size, 6, none⟩ = some (.int .i64 c1) ∧ Below wr.heap.size wr W')
          (first
            | exact kS.out _ ((Below.refl _ _).drew)
            | exact kS.out _ (Below.drew (by assumption))
            | exact kS.out _ (Below.trans (by assumption) (b9.mono (Below.size (by assumption))))
            | exact kS.out _ (Below.trans (by assumption) (b10.mono (Below.size (by assumption)))))
          (first
            | (go_at_call 42; go_split_ands; refine (n3 _ (b0r.trans (Below.mono (by assumption) b0r.size))).mono ?_; rintro e w9 ⟨rfl, b9⟩)
            | (go_at_call 43; go_split_ands; refine (m3 _ (b0r.trans (Below.mono (by assumption) b0r.size))).mono ?_; rintro e w10 ⟨rfl, b10⟩)) | fail
        all_goals
          go_wp2
          go_roundw
          case rel => exact ⟨2, by omega, by go_num, below_rest hbr (by first | exact b9 | exact (Below.refl _ wr).drew.trans b9) b10 (by omega), HT.out⟩
          case measure => simp [intOf]
    · have t0 : wr.cell? ⟨w.heap.size, 0, none⟩ = some (.int .i64 pl) := Xr.cell 0
      have t1 : wr.cell? ⟨w.heap.size, 7, none⟩ = some (.int .i64 c2) := Xr.cell 7
      have ixx := ix2 v1 v2 v3
      rcases p4 with _ | _
      · have HN := Lib.hid (show (true && true && (p2 && q2) && (p3 && q3) && (false && q4)) = false by simp)
        go_wp2_with fail
        refine wp_region_any (by kernel_rfl) ?_
        change wpAny _ _ _ _ _ _ _ (World.drew _)
        refine wpAny_take (i := 0) (v := ?v0c) rfl (by kernel_rfl) (by kernel_rfl) (by kernel_rfl) (fun _ _ _ h => h) (Or.inl ⟨by rfl, ?y0c⟩) ?r0c
        case y0c => (intro w'; go_simp; with_reducible rfl)
        change wpAny _ _ _ _ _ _ (Act.put _ (some 23) _) _
        try simp only [Act.put, List.setIfInBounds_toArray, List.set_cons_zero, List.set_cons_succ]
        refine wpAny_take (i := 1) (v := ?v1c) rfl (by kernel_rfl) (by kernel_rfl) (by kernel_rfl) (fun _ _ _ h => h) (Or.inl ⟨by rfl, ?y1c⟩) ?r1c
        case y1c => (intro w'; go_simp; with_reducible rfl)
        change wpAny _ _ _ _ _ _ (Act.put _ (some 24) _) _
        try simp only [Act.put, List.setIfInBounds_toArray, List.set_cons_zero, List.set_cons_succ]
        refine wpAny_ready (rs := [2]) (by kernel_rfl) (by simp) ?_
        refine AllReady.cons rfl (fun K hK => ?_) AllReady.nil
        go_simp
        refine hK _ _ ?_
        clear hK K
        refine wpAny_ready (rs := [3]) (by kernel_rfl) (by simp) ?_
        refine AllReady.cons rfl (fun K hK => ?_) AllReady.nil
        go_simp
        refine (n4 _ b0r.drew).mono ?_
        rintro e w9 ⟨rfl, b9⟩
        refine hK _ _ ?_
        clear hK K
        refine wpAny_take (i := 4) (v := ?v4c) rfl (by kernel_rfl) (by kernel_rfl) (by kernel_rfl) (fun _ _ _ h => h) (Or.inl ⟨by rfl, ?y4c⟩) ?r4c
        case y4c => (intro w'; go_simp; with_reducible rfl)
        change wpAny _ _ _ _ _ _ (Act.put _ (some 27) _) _
        try simp only [Act.put, List.setIfInBounds_toArray, List.set_cons_zero, List.set_cons_succ]
        refine wpAny_take (i := 5) (v := ?v5c) rfl (by kernel_rfl) (by kernel_rfl) (by kernel_rfl) (fun _ _ _ h => h) (Or.inl ⟨by rfl, ?y5c⟩) ?r5c
        case y5c => (intro w'; go_simp; with_reducible rfl)
        change wpAny _ _ _ _ _ _ (Act.put _ (some 28) _) _
        try simp only [Act.put, List.setIfInBounds_toArray, List.set_cons_zero, List.set_cons_succ]
        refine wpAny_take (i := 6) (v := undef) rfl (by kernel_rfl) (by kernel_rfl) (by kernel_rfl) (fun _ _ _ h => h) (Or.inr ⟨by rfl, rfl⟩) ?_
        change wpAny _ _ _ _ _ _ (Act.put _ (some 29) undef) _
        try simp only [Act.put, List.setIfInBounds_toArray, List.set_cons_zero, List.set_cons_succ]
        refine wpAny_take (i := 7) (v := undef) rfl (by kernel_rfl) (by kernel_rfl) (by kernel_rfl) (fun _ _ _ h => h) (Or.inr ⟨by rfl, rfl⟩) ?_
        change wpAny _ _ _ _ _ _ (Act.put _ (some 30) undef) _
        try simp only [Act.put, List.setIfInBounds_toArray, List.set_cons_zero, List.set_cons_succ]
        refine wpAny_take (i := 8) (v := undef) rfl (by kernel_rfl) (by kernel_rfl) (by kernel_rfl) (fun _ _ _ h => h) (Or.inr ⟨by rfl, rfl⟩) ?_
        change wpAny _ _ _ _ _ _ (Act.put _ (some 31) undef) _
        try simp only [Act.put, List.setIfInBounds_toArray, List.set_cons_zero, List.set_cons_succ]
        refine wpAny_take (i := 9) (v := undef) rfl (by kernel_rfl) (by kernel_rfl) (by kernel_rfl) (fun _ _ _ h => h) (Or.inr ⟨by rfl, rfl⟩) ?_
        change wpAny _ _ _ _ _ _ (Act.put _ (some 32) undef) _
        try simp only [Act.put, List.setIfInBounds_toArray, List.set_cons_zero, List.set_cons_succ]
        refine wpAny_take (i := 10) (v := undef) rfl (by kernel_rfl) (by kernel_rfl) (by kernel_rfl) (fun _ _ _ h => h) (Or.inr ⟨by rfl, rfl⟩) ?_
        change wpAny _ _ _ _ _ _ (Act.put _ (some 33) undef) _
        try simp only [Act.put, List.setIfInBounds_toArray, List.set_cons_zero, List.set_cons_succ]
        refine wpAny_take (i := 11) (v := undef) rfl (by kernel_rfl) (by kernel_rfl) (by kernel_rfl) (fun _ _ _ h => h) (Or.inr ⟨by rfl, rfl⟩) ?_
        change wpAny _ _ _ _ _ _ (Act.put _ (some 34) undef) _
        try simp only [Act.put, List.setIfInBounds_toArray, List.set_cons_zero, List.set_cons_succ]
        refine wpAny_take (i := 12) (v := undef) rfl (by kernel_rfl) (by kernel_rfl) (by kernel_rfl) (fun _ _ _ h => h) (Or.inr ⟨by rfl, rfl⟩) ?_
        change wpAny _ _ _ _ _ _ (Act.put _ (some 35) undef) _
        try simp only [Act.put, List.setIfInBounds_toArray, List.set_cons_zero, List.set_cons_succ]
        refine wpAny_take (i := 13) (v := undef) rfl (by kernel_rfl) (by kernel_rfl) (by kernel_rfl) (fun _ _ _ h => h) (Or.inr ⟨by rfl, rfl⟩) ?_
        change wpAny _ _ _ _ _ _ (Act.put _ (some 36) undef) _
        try simp only [Act.put, List.setIfInBounds_toArray, List.set_cons_zero, List.set_cons_succ]
        refine wpAny_take (i := 14) (v := undef) rfl (by kernel_rfl) (by kernel_rfl) (by kernel_rfl) (fun _ _ _ h => h) (Or.inr ⟨by rfl, rfl⟩) ?_
        change wpAny _ _ _ _ _ _ (Act.put _ (some 37) undef) _
        try simp only [Act.put, List.setIfInBounds_toArray, List.set_cons_zero, List.set_cons_succ]
        refine wpAny_take (i := 15) (v := ?v15c) rfl (by kernel_rfl) (by kernel_rfl) (by kernel_rfl) (fun _ _ _ h => h) (Or.inl ⟨by rfl, ?y15c⟩) ?r15c
        case y15c => (intro w'; go_simp; with_reducible rfl)
        change wpAny _ _ _ _ _ _ (Act.put _ (some 38) _) _
        try simp only [Act.put, List.setIfInBounds_toArray, List.set_cons_zero, List.set_cons_succ]
        refine wpAny_done (by kernel_rfl) ?_ _
        have b0a := b0r.drew.trans (b9.mono b0r.drew.size)
        go_wp2
        go_ret
        exact ⟨ret_bool HN.out.symm, b0a⟩
      rcases q4 with _ | _
      · have HN := Lib.hid (show (true && true && (p2 && q2) && (p3 && q3) && (true && false)) = false by simp)
        go_wp2_with fail
        have kS := Lib.hid (show ∀ W' : World, Below wr.heap.size wr W' → W'.cell? ⟨w.heap.size, 0, none⟩ = some (.int .i64 pl) ∧ W'.cell? ⟨w.heap.size, 7, none⟩ = some (.int .i64 c2) ∧ Below wr.heap.size wr W' from fun W' hb => ⟨(Xr.far hb Xr.lt).cell 0, (Xr.far hb Xr.lt).cell 7, hb⟩)
        first | go_region_held3 (fun W' => W'.cell? ⟨w.heap.size, 0, none⟩ = some (.int .i64 pl) ∧ W'.cell? ⟨w.heap.size, 7, none⟩ = some (.int .i64 c2) ∧ Below wr.heap.size wr W')
          (first
            | exact kS.out _ ((Below.refl _ _).drew)
            | exact kS.out _ (Below.drew (by assumption))
            | exact kS.out _ (Below.trans (by assumption) (b9.mono (Below.size (by assumption))))
            | exact kS.out _ (Below.trans (by assumption) (b10.mono (Below.size (by assumption)))))
          (first
            | (go_at_call 42; go_split_ands; refine (n4 _ (b0r.trans (Below.mono (by assumption) b0r.size))).mono ?_; rintro e w9 ⟨rfl, b9⟩)
            | (go_at_call 43; go_split_ands; refine (m4 _ (b0r.trans (Below.mono (by assumption) b0r.size))).mono ?_; rintro e w10 ⟨rfl, b10⟩)) | fail
        all_goals
          go_split_ands
          go_wp2
          go_ret
          exact ⟨ret_bool HN.out.symm, b0r.trans (Below.mono (by assumption) b0r.size)⟩
      · have HT := Lib.hid (show ((1 : Int) ≤ 3 → (p2 && q2) = true) ∧ ((2 : Int) ≤ 3 → (p3 && q3) = true) ∧ ((3 : Int) ≤ 3 → (true && true) = true) from ⟨fun _ => HF.out.1 (by decide), fun _ => HF.out.2.1 (by decide), fun _ => rfl⟩)
        go_wp2_with fail
        have kS := Lib.hid (show ∀ W' : World, Below wr.heap.size wr W' → W'.cell? ⟨w.heap.size, 0, none⟩ = some (.int .i64 pl) ∧ W'.cell? ⟨w.heap.size, 7, none⟩ = some (.int .i64 c2) ∧ Below wr.heap.size wr W' from fun W' hb => ⟨(Xr.far hb Xr.lt).cell 0, (Xr.far hb Xr.lt).cell 7, hb⟩)
        first | go_region_held3 (fun W' => W'.cell? ⟨w.heap.size, 0, none⟩ = some (.int .i64 pl) ∧ W'.cell? ⟨w.heap.size, 7, none⟩ = some (.int .i64 c2) ∧ Below wr.heap.size wr W')
          (first
            | exact kS.out _ ((Below.refl _ _).drew)
            | exact kS.out _ (Below.drew (by assumption))
            | exact kS.out _ (Below.trans (by assumption) (b9.mono (Below.size (by assumption))))
            | exact kS.out _ (Below.trans (by assumption) (b10.mono (Below.size (by assumption)))))
          (first
            | (go_at_call 42; go_split_ands; refine (n4 _ (b0r.trans (Below.mono (by assumption) b0r.size))).mono ?_; rintro e w9 ⟨rfl, b9⟩)
            | (go_at_call 43; go_split_ands; refine (m4 _ (b0r.trans (Below.mono (by assumption) b0r.size))).mono ?_; rintro e w10 ⟨rfl, b10⟩)) | fail
        all_goals
          go_wp2
          go_roundw
          case rel => exact ⟨3, by omega, by go_num, below_rest hbr (by first | exact b9 | exact (Below.refl _ wr).drew.trans b9) b10 (by omega), HT.out⟩
          case measure => simp [intOf]
    · have HN := Lib.hid (show (true && true && (p2 && q2) && (p3 && q3) && (p4 && q4)) = true by rw [HF.out.1 (by decide), HF.out.2.1 (by decide), HF.out.2.2 (by decide)]; rfl)
      go_wp2
      go_ret
      exact ⟨ret_bool HN.out.symm, b0r⟩
end Go.Proofs.Ytmbphhcgmdaoeaa
