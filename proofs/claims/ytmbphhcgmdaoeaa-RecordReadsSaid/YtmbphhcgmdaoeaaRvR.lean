/- What is proved: record's Read answers as the spec says. -/
import Derived.Test.YtmbphhcgmdaoeaaRvO
import Derived.Test.YtmbphhcgmdaoeaaRvQ
import Derived.Test.YtmbphhcgmdaoeaaRvH
namespace Go.Proofs.Ytmbphhcgmdaoeaa
open Go.RowKit

theorem own_setS {w : World} {base size : Nat} {e : TypeId} {v : Value} {n : Nat} {xs : List Value} (h : w.ownsRow base e size v n xs) {p : Addr} (hp : p.block < base) (u : Value) : (w.setCell p u).ownsRow base e size v n xs := by
  refine ⟨h.1, h.2.imp id ?_⟩
  rintro ⟨g, c, cur, rfl, h1, hg, h2⟩
  exact ⟨g, c, cur, rfl, h1, (Below.heap_setCell w p u g (by omega)).trans hg, h2⟩
set_option maxRecDepth 100000 in
set_option maxHeartbeats 3200000 in
theorem dev_read : ReadSpec 27 := by
  intro v xs w h hx hl
  obtain ⟨a, c, rfl, hnc, hcm, hr⟩ := id h
  obtain ⟨W1, E1, B1, X1, S1⟩ := Blk.new w 24 #[.int .i64 0, .bool false, .slice none 0 0]
  obtain ⟨W2, E2, B2, X2, S2⟩ := Blk.new W1 76 #[.slice a xs.length c]
  have b02 := below_on B1 B2
  rw [S1] at S2 X2
  have hR2 : Rdr W2 (w.heap.size + 1) w.heap.size xs := ⟨a, xs.length, c, X2, hnc, hcm, (Rd_of hr).far b02⟩
  have n1 := wide_reads W2 (w.heap.size + 1) w.heap.size xs hR2 (by omega) hx hl
  have hx1 := cutN_bytes (m := 3) hx
  have hl1 := Nat.le_trans (cutN_len 3 xs) hl
  go_enter Try.func27, Try.ntmps27
  go_wp2_with fail
  refine n1.mono ?_
  rintro e w1 ⟨rfl, r1, g1⟩
  have n2 := narrow_reads w1 (w.heap.size + 1) w.heap.size _ r1 (by omega) hx1 hl1
  go_wp2_with fail
  refine n2.mono ?_
  rintro e w2 ⟨rfl, r2, g2⟩
  have hx2 := cutN_bytes (m := 1) hx1
  have hl2 := Nat.le_trans (cutN_len 1 (cutN 3 xs).2) hl1
  have g12 := turn2 g1 g2
  obtain ⟨W4, E4, B4, X4, S4⟩ := Blk.new w2 24 #[.int .i64 (cutN 3 xs).1, .bool ((cutN 1 (cutN 3 xs).2).1 == 1), .slice none 0 0]
  have hs2 := g12.size
  have r4 := r2.far (C := w2.heap.size) B4 (by omega) (by omega)
  have n3 := narrow_reads W4 (w.heap.size + 1) w.heap.size _ r4 (by omega) hx2 hl2
  have g4 : W2.grownBy W4 (some (w.heap.size + 1)) := grown_trans g12 (grown_below B4 (Nat.le_refl _) (some (w.heap.size + 1))) (fun k hk => .inl (by cases hk; rfl))
  have hz4 : W4.heap.size = w2.heap.size + 1 := S4
  have HE := Lib.hid E4
  clear n1 n2 r1 r2 g1 g2 E1 E2 E4
  go_wp2_with fail
  rw [HE.out]
  refine n3.mono ?_
  rintro e w5 ⟨rfl, r5, g45⟩
  have g5 := turn2 g4 g45
  have X5 := X4.turn g45 (by omega)
  have hbd := bd1 hx2
  obtain ⟨N, hN⟩ := Int.eq_ofNat_of_zero_le hbd.1
  have hN255 : N ≤ 255 := by omega
  have hx3 := cutN_bytes (m := 1) hx2
  have hl3 := Nat.le_trans (cutN_len 1 (cutN 1 (cutN 3 xs).2).2) hl2
  rw [hN]
  have n4 := rowW_walk 53 #[.pointer (some ⟨w.heap.size + 1, 0, none⟩)] wrStep N (w.heap.size + 1) w.heap.size _ w5 r5 (by omega) hN255 hx3 hl3 wrStep_bytes wrStep_len (enters_of Try.func53 (by kernel_rfl) rfl)
    (fun k W zs _ hR hz hzl _ => read_write k W (w.heap.size + 1) w.heap.size zs hR (by omega) hz hzl k)
  have hlen : lenR xs = ⟨(cutN 3 xs).1, (cutN 1 (cutN 3 xs).2).1 == 1, (rowF wrStep N (cutN 1 (cutN 1 (cutN 3 xs).2).2).2).1⟩ := by
    unfold lenR
    rw [hN, Int.toNat_natCast]
  have hrl := rowF_length wrStep N (cutN 1 (cutN 1 (cutN 3 xs).2).2).2
  go_wp2_with fail
  refine n4.mono ?_
  rintro e w6 ⟨v6, rfl, o6, _, g56⟩
  have g6 := turn2 g5 g56
  have X6 := X5.turn g56 (by omega)
  have hs5 := g45.size
  have hs6 := g56.size
  obtain ⟨a6, c6, rfl, h61, h62, _⟩ := Rg.own o6
  have q60 : w6.cell? ⟨w2.heap.size, 2, none⟩ = some (.slice none 0 0) := X6.cell 2
  have q61 : w6.frozen? ⟨w2.heap.size, 2, none⟩ = false := X6.free 2
  have X7 := X6.set 2 (.slice a6 N c6)
  have o7 := own_setS o6 (p := ⟨w2.heap.size, 2, none⟩) (show w2.heap.size < w5.heap.size by omega) (.slice a6 N c6)
  obtain ⟨_, _, e7, _, _, h73⟩ := Rg.own o7
  cases e7
  have hV : RecV (w6.setCell ⟨w2.heap.size, 2, none⟩ (.slice a6 N c6)) w5.heap.size (w6.setCell ⟨w2.heap.size, 2, none⟩ (.slice a6 N c6)).heap.size (.agg #[.int .i64 (cutN 3 xs).1, .bool ((cutN 1 (cutN 3 xs).2).1 == 1), .slice a6 N c6]) (lenR xs) := by
    rw [hlen]
    exact ⟨_, rfl, a6, c6, by rw [hrl], by rw [hrl]; exact h61, h62, by rw [hrl]; exact h73⟩
  have bt : Below w.heap.size w (w6.setCell ⟨w2.heap.size, 2, none⟩ (.slice a6 N c6)) := (b02.trans (below_row g6 (fun k hk => by cases hk; omega) (by omega))).setCell (by show w.heap.size ≤ w2.heap.size; omega) _
  have XP : Blk (w6.setCell ⟨w2.heap.size, 2, none⟩ (.slice a6 N c6)) w.heap.size #[.int .i64 0, .bool false, .slice none 0 0] := ((X1.far B2 (by omega)).turn g6 (by omega)).other (show w.heap.size ≠ w2.heap.size by omega) _
  have z7 : (w6.setCell ⟨w2.heap.size, 2, none⟩ (.slice a6 N c6)).heap.size = w6.heap.size := by simp
  have n5 := dev_bytes _ (lenR xs) _ (hV.wide (Nat.zero_le _) (Nat.le_refl _)) (lenR_in hx)
  have hcs := lenR_reads hx
  have c70 : (w6.setCell ⟨w2.heap.size, 2, none⟩ (.slice a6 N c6)).cell? ⟨w2.heap.size, 0, none⟩ = some (.int .i64 (cutN 3 xs).1) := X7.cell 0
  have c71 : (w6.setCell ⟨w2.heap.size, 2, none⟩ (.slice a6 N c6)).cell? ⟨w2.heap.size, 1, none⟩ = some (.bool ((cutN 1 (cutN 3 xs).2).1 == 1)) := X7.cell 1
  have c72 : (w6.setCell ⟨w2.heap.size, 2, none⟩ (.slice a6 N c6)).cell? ⟨w2.heap.size, 2, none⟩ = some (.slice a6 N c6) := X7.cell 2
  clear n3 n4 r4 r5 g4 g45 g5 g56 o6 o7 X4 X5 h73
  generalize lenR xs = r0 at *
  generalize (cutN 3 xs).1 = p at *
  generalize ((cutN 1 (cutN 3 xs).2).1 == 1) = y at *
  go_wp2_with fail
  generalize w6.setCell ⟨w2.heap.size, 2, none⟩ (.slice a6 N c6) = W7 at *
  refine n5.mono ?_
  rintro e w8 ⟨b, rfl, hb8, b8⟩
  have bt8 : Below w.heap.size w w8 := bt.trans (b8.mono bt.size)
  have h8 : Bt w8 0 w8.heap.size (.slice a xs.length c) xs := (h.far bt8).wide (Nat.le_refl _) bt8.size
  have XP8 := XP.far b8 XP.lt
  have X8 := X7.far b8 X7.lt
  have hV8 := hV.far b8
  have hPlt := XP.lt
  have hRlt := X7.lt
  clear n5 c70 c71 c72 XP X7 hV h
  rcases hcs with ⟨m1, m2, m3, m4⟩ | ⟨m1, m2, m3⟩
  · obtain ⟨o1, o2⟩ := outE_yes m1
    rw [o1]
    rw [o2, m2] at hb8
    obtain ⟨ab, cb, rfl, h81, h82, h83⟩ := id hb8
    have n6 := eqB_walk (.slice ab xs.length cb) (.slice a xs.length c) xs xs w8 (hb8.wide (Nat.zero_le _) (Nat.le_refl _)) h8 hl
    rw [(rowEq_iff byEq_iff 0 xs xs).2 rfl] at n6
    go_wp2_with fail
    refine n6.mono ?_
    rintro e w9 ⟨rfl, b9⟩
    have XP9 := XP8.far b9 XP8.lt
    have X9 := X8.far b9 X8.lt
    have q0 : w9.cell? ⟨w.heap.size, 0, none⟩ = some (.int .i64 0) := XP9.cell 0
    have q1 : w9.cell? ⟨w.heap.size, 1, none⟩ = some (.bool false) := XP9.cell 1
    have q2 : w9.cell? ⟨w.heap.size, 2, none⟩ = some (.slice none 0 0) := XP9.cell 2
    have f0 : w9.frozen? ⟨w.heap.size, 0, none⟩ = false := XP9.free 0
    have f1 : w9.frozen? ⟨w.heap.size, 1, none⟩ = false := XP9.free 1
    have f2 : w9.frozen? ⟨w.heap.size, 2, none⟩ = false := XP9.free 2
    have t0 : w9.cell? ⟨w2.heap.size, 0, none⟩ = some (.int .i64 p) := X9.cell 0
    have t1 : w9.cell? ⟨w2.heap.size, 1, none⟩ = some (.bool y) := X9.cell 1
    have t2 : w9.cell? ⟨w2.heap.size, 2, none⟩ = some (.slice a6 N c6) := X9.cell 2
    have hend : Below w.heap.size w (((w9.setCell ⟨w.heap.size, 0, none⟩ (.int .i64 p)).setCell ⟨w.heap.size, 1, none⟩ (.bool y)).setCell ⟨w.heap.size, 2, none⟩ (.slice a6 N c6)) := (((bt8.trans (b9.mono bt8.size)).setCell (Nat.le_refl _) _).setCell (Nat.le_refl _) _).setCell (Nat.le_refl _) _
    have hV9 := hV8.far ((b9.mono b8.size))
    have hsz9 := b9.size
    have hsz8 := b8.size
    clear n6
    go_wp2
    refine bodyPost_ret (v := .tuple #[.agg #[.int .i64 p, .bool y, .slice a6 N c6], .int .i64 0]) (by simp [results, Try.results27, go_sem, q0, q1, q2]) rfl ⟨.agg #[.int .i64 p, .bool y, .slice a6 N c6], by rw [m3], ?_, hend⟩
    rw [m4]
    obtain ⟨s9, e9, hs9⟩ := hV9
    refine ⟨s9, e9, (((hs9.set_low ?_ _).set_low ?_ _).set_low ?_ _).wide (by omega) (by simp; omega)⟩
    all_goals (show w.heap.size < w5.heap.size; omega)
  · rcases hm : mayB r0 with _ | _
    · obtain ⟨o1, o2⟩ := outE_no hm
      rw [o1]
      rw [o2] at hb8
      obtain ⟨ab, cb, rfl, h81, h82, h83⟩ := id hb8
      have q0 : w8.cell? ⟨w.heap.size, 0, none⟩ = some (.int .i64 0) := XP8.cell 0
      have q1 : w8.cell? ⟨w.heap.size, 1, none⟩ = some (.bool false) := XP8.cell 1
      have q2 : w8.cell? ⟨w.heap.size, 2, none⟩ = some (.slice none 0 0) := XP8.cell 2
      have f0 : w8.frozen? ⟨w.heap.size, 0, none⟩ = false := XP8.free 0
      have f1 : w8.frozen? ⟨w.heap.size, 1, none⟩ = false := XP8.free 1
      have f2 : w8.frozen? ⟨w.heap.size, 2, none⟩ = false := XP8.free 2
      have hend : Below w.heap.size w (((w8.setCell ⟨w.heap.size, 0, none⟩ (.int .i64 0)).setCell ⟨w.heap.size, 1, none⟩ (.bool false)).setCell ⟨w.heap.size, 2, none⟩ (.slice none 0 0)) := ((bt8.setCell (Nat.le_refl _) _).setCell (Nat.le_refl _) _).setCell (Nat.le_refl _) _
      go_wp2
      exact bodyPost_ret (v := .tuple #[.agg #[.int .i64 0, .bool false, .slice none 0 0], .int .i64 50]) (by simp [results, Try.results27, go_sem, q0, q1, q2]) rfl ⟨.agg #[.int .i64 0, .bool false, .slice none 0 0], by rw [m2], by rw [m3]; exact ⟨_, rfl, Sl.nil _ _ _ _⟩, hend⟩
    · obtain ⟨o1, o2⟩ := outE_yes hm
      have hne : recB r0 ≠ xs := by rcases m1 with m1 | m1; · rw [hm] at m1; cases m1
                                    · exact m1
      rw [o1]
      rw [o2] at hb8
      have hsh := recB_short hm
      clear hm m1 o1 o2
      generalize recB r0 = ys at *
      obtain ⟨ab, cb, rfl, h81, h82, h83⟩ := id hb8
      have n6 := eqB_walk (.slice ab ys.length cb) (.slice a xs.length c) ys xs w8 (hb8.wide (Nat.zero_le _) (Nat.le_refl _)) h8 (by omega)
      have hq : rowEq byEq 0 ys xs = false := by
        rcases hq : rowEq byEq 0 ys xs with _ | _
        · rfl
        · exact absurd ((rowEq_iff byEq_iff 0 _ _).1 hq) hne
      rw [hq] at n6
      go_wp2_with fail
      refine n6.mono ?_
      rintro e w9 ⟨rfl, b9⟩
      have XP9 := XP8.far b9 XP8.lt
      have q0 : w9.cell? ⟨w.heap.size, 0, none⟩ = some (.int .i64 0) := XP9.cell 0
      have q1 : w9.cell? ⟨w.heap.size, 1, none⟩ = some (.bool false) := XP9.cell 1
      have q2 : w9.cell? ⟨w.heap.size, 2, none⟩ = some (.slice none 0 0) := XP9.cell 2
      have f0 : w9.frozen? ⟨w.heap.size, 0, none⟩ = false := XP9.free 0
      have f1 : w9.frozen? ⟨w.heap.size, 1, none⟩ = false := XP9.free 1
      have f2 : w9.frozen? ⟨w.heap.size, 2, none⟩ = false := XP9.free 2
      have hend : Below w.heap.size w (((w9.setCell ⟨w.heap.size, 0, none⟩ (.int .i64 0)).setCell ⟨w.heap.size, 1, none⟩ (.bool false)).setCell ⟨w.heap.size, 2, none⟩ (.slice none 0 0)) := (((bt8.trans (b9.mono bt8.size)).setCell (Nat.le_refl _) _).setCell (Nat.le_refl _) _).setCell (Nat.le_refl _) _
      clear n6
      go_wp2
      exact bodyPost_ret (v := .tuple #[.agg #[.int .i64 0, .bool false, .slice none 0 0], .int .i64 50]) (by simp [results, Try.results27, go_sem, q0, q1, q2]) rfl ⟨.agg #[.int .i64 0, .bool false, .slice none 0 0], by rw [m2], by rw [m3]; exact ⟨_, rfl, Sl.nil _ _ _ _⟩, hend⟩
end Go.Proofs.Ytmbphhcgmdaoeaa
