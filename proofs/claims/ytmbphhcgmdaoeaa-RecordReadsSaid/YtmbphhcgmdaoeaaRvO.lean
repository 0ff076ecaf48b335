/- What is proved: record's reader: wide, narrow, the closures that read a write, an item, a line, and lines. -/
import Derived.Test.YtmbphhcgmdaoeaaRvM
import Derived.Test.YtmbphhcgmdaoeaaRvN
import Derived.Deep.RegionHeld3
namespace Go.Proofs.Ytmbphhcgmdaoeaa
open Go.RowKit

theorem wide_reads (w : World) (Q B : Nat) (ys : List Int) (hR : Rdr w Q B ys) (hB : B ≤ Q) (hx : IsBytes ys) (hl : ys.length ≤ 1000000) :
    Calls Try.prog 50 #[.pointer (some ⟨Q, 0, none⟩)] w fun e w' => e = .returned (.int .i64 (cutN 3 ys).1) ∧ Rdr w' Q B (cutN 3 ys).2 ∧ w.grownBy w' (some Q) := by
  have n1 := cut_reads w Q B ys 3 hR hB (by decide) (by decide) hx hl
  go_enter Try.func50, Try.ntmps50
  go_wp2_with fail
  refine n1.mono ?_
  rintro e w' ⟨rfl, h1, h2⟩
  go_wp2
  go_ret
  exact ⟨rfl, h1, h2⟩
theorem narrow_reads (w : World) (Q B : Nat) (ys : List Int) (hR : Rdr w Q B ys) (hB : B ≤ Q) (hx : IsBytes ys) (hl : ys.length ≤ 1000000) :
    Calls Try.prog 51 #[.pointer (some ⟨Q, 0, none⟩)] w fun e w' => e = .returned (.int .i64 (cutN 1 ys).1) ∧ Rdr w' Q B (cutN 1 ys).2 ∧ w.grownBy w' (some Q) := by
  have n1 := cut_reads w Q B ys 1 hR hB (by decide) (by decide) hx hl
  go_enter Try.func51, Try.ntmps51
  go_wp2_with fail
  refine n1.mono ?_
  rintro e w' ⟨rfl, h1, h2⟩
  go_wp2
  go_ret
  exact ⟨rfl, h1, h2⟩
theorem turn2 {w w1 w2 : World} {Q : Nat} (h : w.grownBy w1 (some Q)) (h' : w1.grownBy w2 (some Q)) : w.grownBy w2 (some Q) := grown_trans h h' (fun k hk => .inl (by cases hk; rfl))
theorem Blk.turn {w w' : World} {g Q : Nat} {cs : Array Value} (h : Blk w g cs) (hg : w.grownBy w' (some Q)) (hne : g ≠ Q) : Blk w' g cs := h.same (hg.block g h.lt (fun e => hne (by cases e; rfl)))
theorem rdr_set {w : World} {Q B P : Nat} {ys : List Int} (h : Rdr w Q B ys) (hP : Q < P) (hB : B ≤ P) (k : Nat) (v : Value) : Rdr (w.setCell ⟨P, k, none⟩ v) Q B ys := h.far (C := P) ((Below.refl P w).setCell (Nat.le_refl _) v) hP hB
theorem grown_low {w w1 : World} {Q : Nat} (h : w.grownBy w1 (some Q)) {P : Nat} (hP : w.heap.size ≤ P) (k : Nat) (v : Value) : w.grownBy (w1.setCell ⟨P, k, none⟩ v) (some Q) :=
  ⟨h.os, h.tape, h.output, by simpa using h.size, fun j hj hne => (Below.heap_setCell w1 ⟨P, k, none⟩ v j (by show j ≠ P; omega)).trans (h.block j hj hne)⟩
theorem grown_new {w w1 : World} {Q : Nat} {B : Nat} (hb : Below w.heap.size w w1) {w2 : World} (h : w1.grownBy w2 (some Q)) (_ : B = B) : w.grownBy w2 (some Q) := grown_trans (grown_below hb (Nat.le_refl _) (some Q)) h (fun k hk => .inl (by cases hk; rfl))
set_option maxHeartbeats 1600000 in
theorem read_write (i : Int) (w : World) (Q B : Nat) (ys : List Int) (hR : Rdr w Q B ys) (hB : B ≤ Q) (hx : IsBytes ys) (hl : ys.length ≤ 1000000) (k : Nat) :
    Calls Try.prog 53 #[.int .i64 i, .pointer (some ⟨Q, 0, none⟩)] w fun e w' => e = .returned (wrStep k ys).1.val_ ∧ Rdr w' Q B (wrStep k ys).2 ∧ w.grownBy w' (some Q) := by
  obtain ⟨W1, E1, B1, X1, S1⟩ := Blk.new w 56 #[.int .i64 0, .int .i64 0]
  have hQ := hR.lt
  have n1 := narrow_reads W1 Q B ys (hR.far B1 hQ (by omega)) hB hx hl
  go_enter Try.func53, Try.ntmps53
  go_wp2_with fail
  refine n1.mono ?_
  rintro e w1 ⟨rfl, r1, g1⟩
  have n2 := narrow_reads w1 Q B _ r1 hB (cutN_bytes hx) (Nat.le_trans (cutN_len _ _) hl)
  go_wp2_with fail
  refine n2.mono ?_
  rintro e w2 ⟨rfl, r2, g2⟩
  have g12 := turn2 g1 g2
  have X2 := X1.turn g12 (by omega)
  have q0 : w2.cell? ⟨w.heap.size, 0, none⟩ = some (.int .i64 0) := X2.cell 0
  have q1 : w2.frozen? ⟨w.heap.size, 0, none⟩ = false := X2.free 0
  have q2 : w2.cell? ⟨w.heap.size, 1, none⟩ = some (.int .i64 0) := X2.cell 1
  have q3 : w2.frozen? ⟨w.heap.size, 1, none⟩ = false := X2.free 1
  have r3 := rdr_set (rdr_set r2 hQ (by omega) 0 (.int .i64 (cutN 1 ys).1)) hQ (by omega) 1 (.int .i64 (cutN 1 (cutN 1 ys).2).1)
  have g3 := grown_low (grown_low (grown_new (B := B) B1 g12 rfl) (Nat.le_refl _) 0 (.int .i64 (cutN 1 ys).1)) (Nat.le_refl _) 1 (.int .i64 (cutN 1 (cutN 1 ys).2).1)
  clear r1 r2 n1 n2
  go_wp2
  exact bodyPost_ret (v := .agg #[.int .i64 (cutN 1 ys).1, .int .i64 (cutN 1 (cutN 1 ys).2).1]) (by simp [results, Try.results53, go_sem, q0, q2]) rfl ⟨rfl, r3, g3⟩
set_option maxHeartbeats 1600000 in
theorem read_item (i : Int) (w : World) (Q B : Nat) (ys : List Int) (hR : Rdr w Q B ys) (hB : B ≤ Q) (hx : IsBytes ys) (hl : ys.length ≤ 1000000) (k : Nat) :
    Calls Try.prog 57 #[.int .i64 i, .pointer (some ⟨Q, 0, none⟩)] w fun e w' => e = .returned (itStep k ys).1.val_ ∧ Rdr w' Q B (itStep k ys).2 ∧ w.grownBy w' (some Q) := by
  obtain ⟨W1, E1, B1, X1, S1⟩ := Blk.new w 51 #[.int .i64 0, .int .i64 0, .int .i64 0]
  have hQ := hR.lt
  have n1 := narrow_reads W1 Q B ys (hR.far B1 hQ (by omega)) hB hx hl
  go_enter Try.func57, Try.ntmps57
  go_wp2_with fail
  refine n1.mono ?_
  rintro e w1 ⟨rfl, r1, g1⟩
  have n2 := wide_reads w1 Q B _ r1 hB (cutN_bytes hx) (Nat.le_trans (cutN_len _ _) hl)
  go_wp2_with fail
  refine n2.mono ?_
  rintro e w2 ⟨rfl, r2, g2⟩
  have n3 := narrow_reads w2 Q B _ r2 hB (cutN_bytes (cutN_bytes hx)) (Nat.le_trans (cutN_len _ _) (Nat.le_trans (cutN_len _ _) hl))
  go_wp2_with fail
  refine n3.mono ?_
  rintro e w3 ⟨rfl, r3, g3⟩
  have g12 := turn2 (turn2 g1 g2) g3
  have X2 := X1.turn g12 (by omega)
  have q0 : w3.cell? ⟨w.heap.size, 0, none⟩ = some (.int .i64 0) := X2.cell 0
  have q1 : w3.frozen? ⟨w.heap.size, 0, none⟩ = false := X2.free 0
  have q2 : w3.cell? ⟨w.heap.size, 1, none⟩ = some (.int .i64 0) := X2.cell 1
  have q3 : w3.frozen? ⟨w.heap.size, 1, none⟩ = false := X2.free 1
  have q4 : w3.cell? ⟨w.heap.size, 2, none⟩ = some (.int .i64 0) := X2.cell 2
  have q5 : w3.frozen? ⟨w.heap.size, 2, none⟩ = false := X2.free 2
  have r4 := rdr_set (rdr_set (rdr_set r3 hQ (by omega) 0 (.int .i64 (cutN 1 ys).1)) hQ (by omega) 1 (.int .i64 (cutN 3 (cutN 1 ys).2).1)) hQ (by omega) 2 (.int .i64 (cutN 1 (cutN 3 (cutN 1 ys).2).2).1)
  have g4 := grown_low (grown_low (grown_low (grown_new (B := B) B1 g12 rfl) (Nat.le_refl _) 0 (.int .i64 (cutN 1 ys).1)) (Nat.le_refl _) 1 (.int .i64 (cutN 3 (cutN 1 ys).2).1)) (Nat.le_refl _) 2 (.int .i64 (cutN 1 (cutN 3 (cutN 1 ys).2).2).1)
  clear r1 r2 r3 n1 n2 n3
  go_wp2
  exact bodyPost_ret (v := .agg #[.int .i64 (cutN 1 ys).1, .int .i64 (cutN 3 (cutN 1 ys).2).1, .int .i64 (cutN 1 (cutN 3 (cutN 1 ys).2).2).1]) (by simp [results, Try.results57, go_sem, q0, q2, q4]) rfl ⟨rfl, r4, g4⟩
set_option maxHeartbeats 3200000 in
theorem read_line (f : Int) (k : Nat) (w : World) (Q B Qr Qf : Nat) (ys : List Int) (hf : 0 ≤ f ∧ f < 16777216) (hk : k ≤ 255) (c0 : w.cell? ⟨Qr, 0, none⟩ = some (.pointer (some ⟨Q, 0, none⟩))) (c1 : w.cell? ⟨Qf, 0, none⟩ = some (.int .i64 f)) (hr : Qr ≠ Q ∧ Qr < w.heap.size) (hq : Qf ≠ Q ∧ Qf < w.heap.size) (hR : Rdr w Q B ys) (hB : B ≤ Q) (hx : IsBytes ys) (hl : ys.length ≤ 1000000) :
    Calls Try.prog 72 #[.int .i64 k, .pointer (some ⟨Qr, 0, none⟩), .pointer (some ⟨Qf, 0, none⟩)] w fun e w' => e = .returned (lnStep f k ys).1.val_ ∧ Rdr w' Q B (lnStep f k ys).2 ∧ w.grownBy w' (some Q) := by
  obtain ⟨W1, E1, B1, X1, S1⟩ := Blk.new w 53 #[.int .i64 0, .int .i64 0, .int .i64 0, .int .i64 0, .int .i64 0]
  have hQ := hR.lt
  have hR1 := hR.far B1 hQ (by omega)
  have kS := Lib.hid (show ∀ W' : World, W1.grownBy W' (some Q) → W'.cell? ⟨Qr, 0, none⟩ = some (.pointer (some ⟨Q, 0, none⟩)) from fun W' hg => (World.cell?_of_block (hg.block Qr (by omega) (fun e => hr.1 (by cases e; rfl)))).trans ((B1.cell (p := ⟨Qr, 0, none⟩) hr.2).trans c0))
  have gd := grown_below ((Below.refl W1.heap.size W1).drew) (Nat.le_refl _) (some Q)
  have n1 := wide_reads W1.drew Q B ys (hR1.far (C := W1.heap.size) ((Below.refl W1.heap.size W1).drew) (by omega) (by omega)) hB hx hl
  go_enter Try.func72, Try.ntmps72
  go_wp2_with fail
  try rw [E1]
  clear E1
  go_region_held3 (fun W' => W'.cell? ⟨Qr, 0, none⟩ = some (.pointer (some ⟨Q, 0, none⟩)))
    (first
      | exact kS.out _ gd
      | exact kS.out _ g3
      | exact kS.out _ g2
      | exact kS.out _ g1)
    (first
      | (go_at_call 50; refine n1.mono ?_; rintro e w1 ⟨rfl, r1, g01⟩; have g1 := turn2 gd g01)
      | (go_at_call 51; refine (narrow_reads w2 Q B _ r2 hB (cutN_bytes (cutN_bytes hx)) (Nat.le_trans (cutN_len _ _) (Nat.le_trans (cutN_len _ _) hl))).mono ?_; rintro e w3 ⟨rfl, r3, g23⟩; have g3 := turn2 g2 g23)
      | (go_at_call 51; refine (narrow_reads w1 Q B _ r1 hB (cutN_bytes hx) (Nat.le_trans (cutN_len _ _) hl)).mono ?_; rintro e w2 ⟨rfl, r2, g12⟩; have g2 := turn2 g1 g12))
  have f1 : w3.cell? ⟨Qf, 0, none⟩ = some (.int .i64 f) := (World.cell?_of_block (g3.block Qf (by omega) (fun e => hq.1 (by cases e; rfl)))).trans ((B1.cell (p := ⟨Qf, 0, none⟩) hq.2).trans c1)
  have X2 := X1.turn g3 (by omega)
  have q0 : w3.cell? ⟨w.heap.size, 0, none⟩ = some (.int .i64 0) := X2.cell 0
  have q1 : w3.frozen? ⟨w.heap.size, 0, none⟩ = false := X2.free 0
  have q2 : w3.cell? ⟨w.heap.size, 1, none⟩ = some (.int .i64 0) := X2.cell 1
  have q3 : w3.frozen? ⟨w.heap.size, 1, none⟩ = false := X2.free 1
  have q4 : w3.cell? ⟨w.heap.size, 2, none⟩ = some (.int .i64 0) := X2.cell 2
  have q5 : w3.frozen? ⟨w.heap.size, 2, none⟩ = false := X2.free 2
  have q6 : w3.cell? ⟨w.heap.size, 3, none⟩ = some (.int .i64 0) := X2.cell 3
  have q7 : w3.frozen? ⟨w.heap.size, 3, none⟩ = false := X2.free 3
  have q8 : w3.cell? ⟨w.heap.size, 4, none⟩ = some (.int .i64 0) := X2.cell 4
  have q9 : w3.frozen? ⟨w.heap.size, 4, none⟩ = false := X2.free 4
  have hb2 := bd1 (cutN_bytes (m := 3) hx)
  have hw : wrap64 (f + (k : Int)) = f + k := IntWalk.wrap64_in _ (by omega)
  have hm : Int.tmod (cutN 1 (cutN 3 ys).2).1 16 = (cutN 1 (cutN 3 ys).2).1 % 16 := Int.tmod_eq_emod_of_nonneg hb2.1
  have hd : Int.tdiv (cutN 1 (cutN 3 ys).2).1 16 = (cutN 1 (cutN 3 ys).2).1 / 16 := Int.tdiv_eq_ediv_of_nonneg hb2.1
  have gn := grown_new (B := B) B1 g3 rfl
  have r4 := rdr_set (rdr_set (rdr_set (rdr_set (rdr_set r3 hQ (by omega) 0 (.int .i64 (f + k))) hQ (by omega) 1 (.int .i64 (cutN 3 ys).1)) hQ (by omega) 2 (.int .i64 ((cutN 1 (cutN 3 ys).2).1 % 16))) hQ (by omega) 3 (.int .i64 ((cutN 1 (cutN 3 ys).2).1 / 16))) hQ (by omega) 4 (.int .i64 (cutN 1 (cutN 1 (cutN 3 ys).2).2).1)
  have g4 := grown_low (grown_low (grown_low (grown_low (grown_low gn (Nat.le_refl _) 0 (.int .i64 (f + k))) (Nat.le_refl _) 1 (.int .i64 (cutN 3 ys).1)) (Nat.le_refl _) 2 (.int .i64 ((cutN 1 (cutN 3 ys).2).1 % 16))) (Nat.le_refl _) 3 (.int .i64 ((cutN 1 (cutN 3 ys).2).1 / 16))) (Nat.le_refl _) 4 (.int .i64 (cutN 1 (cutN 1 (cutN 3 ys).2).2).1)
  clear r1 r2 r3 n1 g1 g2 g3 kS
  go_wp2
  exact bodyPost_ret (v := .agg #[.int .i64 (f + k), .int .i64 (cutN 3 ys).1, .int .i64 ((cutN 1 (cutN 3 ys).2).1 % 16), .int .i64 ((cutN 1 (cutN 3 ys).2).1 / 16), .int .i64 (cutN 1 (cutN 1 (cutN 3 ys).2).2).1]) (by simp [results, Try.results72, go_sem, q0, q2, q4, q6, q8]) rfl ⟨rfl, r4, g4⟩
end Go.Proofs.Ytmbphhcgmdaoeaa
