/- What is proved: record's reader reads a partition's lines. -/
import Derived.Test.YtfnoaagnemccmaaRvO
import Derived.Test.YtfnoaagnemccmaaRvX
namespace Go.Proofs.Ytfnoaagnemccmaa
open Go.RowKit

theorem grown_drew {w w1 : World} {Q : Nat} (h : w.grownBy w1 (some Q)) : w.grownBy w1.drew (some Q) := ⟨h.os, h.tape, h.output, h.size, h.block⟩
theorem grown_alloc {w w1 : World} {Q : Nat} (h : w.grownBy w1 (some Q)) (o : Obj) : w.grownBy (w1.alloc o) (some Q) := grown_trans h (grown_below ((Below.refl w1.heap.size w1).alloc (Nat.le_refl _) o) (Nat.le_refl _) (some Q)) (fun k hk => .inl (by cases hk; rfl))
theorem rdr_drew {w : World} {Q B : Nat} {ys : List Int} (h : Rdr w Q B ys) : Rdr w.drew Q B ys := h
theorem rdr_alloc {w : World} {Q B : Nat} {ys : List Int} (h : Rdr w Q B ys) (hB : B ≤ Q) (o : Obj) : Rdr (w.alloc o) Q B ys := h.far (C := w.heap.size) ((Below.refl w.heap.size w).alloc (Nat.le_refl _) o) h.lt (by have := h.lt; omega)
theorem blk_alloc (w : World) (e : TypeId) (cs : Array Value) : Blk (w.alloc (.cells cs e)) w.heap.size cs := ⟨e, heap_alloc_new w _⟩
theorem Blk.old {w : World} {g : Nat} {cs : Array Value} (h : Blk w g cs) (o : Obj) : Blk (w.alloc o) g cs := h.far (B := w.heap.size) ((Below.refl _ _).alloc (Nat.le_refl _) o) h.lt
theorem made_1 {w1 w2 : World} {Q : Nat} (hQ : w1.heap.size ≠ Q) (h : (w1.alloc (.cells #[.int .i64 0] 3)).grownBy w2 (some Q)) : Blk w2 w1.heap.size #[.int .i64 0] := Blk.turn (blk_alloc w1 3 #[.int .i64 0]) h hQ
theorem made_2 {W1 w1 w2 : World} {Q : Nat} (hQ : W1.heap.size ≠ Q) (h : (W1.alloc (.cells #[.int .i64 0] 3)).drew.grownBy w1 (some Q)) (h' : w1.grownBy w2 (some Q)) : Blk w2 W1.heap.size #[.int .i64 0] := Blk.turn (Blk.turn (blk_drew (blk_alloc W1 3 #[.int .i64 0])) h hQ) h' hQ
set_option maxRecDepth 100000 in
set_option maxHeartbeats 6400000 in
theorem lines_reads (w : World) (Q B : Nat) (ys : List Int) (hR : Rdr w Q B ys) (hB : B ≤ Q) (hx : IsBytes ys) (hl : ys.length ≤ 1000000) :
    Calls Try.prog 58 #[.pointer (some ⟨Q, 0, none⟩)] w fun e w' => ∃ v, e = .returned v ∧ w'.ownsRow w.heap.size 53 5 v (lenL ys).1.length (lnC (lenL ys).1) ∧ Rdr w' Q B (lenL ys).2 ∧ w.grownBy w' (some Q) := by
  obtain ⟨W1, E1, B1, X1, S1⟩ := Blk.new w 102 #[.pointer (some ⟨Q, 0, none⟩)]
  have hQ := hR.lt
  have hR1 := hR.far B1 hQ (by omega)
  have hx1 : IsBytes (cutN 1 ys).2 := cutN_bytes hx
  have hl1 := Nat.le_trans (cutN_len 1 ys) hl
  have hbd := bd1 hx
  have hbf := bd3 hx1
  obtain ⟨N, hN⟩ := Int.eq_ofNat_of_zero_le hbd.1
  have hN255 : N ≤ 255 := by omega
  have hLL : lenL ys = rowF (lnStep (cutN 3 (cutN 1 ys).2).1) N (cutN 3 (cutN 1 ys).2).2 := by unfold lenL; rw [hN, Int.toNat_natCast]
  have hLn : (lenL ys).1.length = N := by rw [hLL, rowF_length]
  have N5 := Lib.hid (show ∀ (Wf : World) (Qf : Nat) (_ : Rdr Wf Q B (cutN 3 (cutN 1 ys).2).2) (_ : W1.grownBy Wf (some Q)) (_ : Blk Wf Qf #[.int .i64 (cutN 3 (cutN 1 ys).2).1]) (_ : Qf ≠ Q),
      Calls Try.prog 71 #[.int .i64 N, .func (.func 72) #[] #[.pointer (some ⟨w.heap.size, 0, none⟩), .pointer (some ⟨Qf, 0, none⟩)]] Wf fun e w' => ∃ v, e = .returned v ∧ w'.ownsRow w.heap.size 53 5 v (lenL ys).1.length (lnC (lenL ys).1) ∧ Rdr w' Q B (lenL ys).2 ∧ w.grownBy w' (some Q) from by
    intro Wf Qf hRf hg bk hne
    have hsz := hg.size
    have XR := X1.turn hg (by omega)
    have c0 : Wf.cell? ⟨w.heap.size, 0, none⟩ = some (.pointer (some ⟨Q, 0, none⟩)) := XR.cell 0
    have c1 : Wf.cell? ⟨Qf, 0, none⟩ = some (.int .i64 (cutN 3 (cutN 1 ys).2).1) := bk.cell 0
    have hr : w.heap.size < Wf.heap.size := by omega
    have n5 := rowL_walk 72 #[.pointer (some ⟨w.heap.size, 0, none⟩), .pointer (some ⟨Qf, 0, none⟩)] (lnStep (cutN 3 (cutN 1 ys).2).1) N Q B _ Wf hRf hB hN255 (cutN_bytes hx1) (Nat.le_trans (cutN_len _ _) hl1) (lnStep_bytes _) (lnStep_len _) (enters_of Try.func72 (by kernel_rfl) rfl)
      (fun k W zs hk hRz hz hzl hgw => read_line _ k W Q B w.heap.size Qf zs hbf (by omega) ((World.cell?_of_block (hgw.block w.heap.size hr (fun e => by cases e; omega))).trans c0) ((World.cell?_of_block (hgw.block Qf bk.lt (fun e => hne (by cases e; rfl)))).trans c1) ⟨by omega, Nat.lt_of_lt_of_le hr hgw.size⟩ ⟨hne, Nat.lt_of_lt_of_le bk.lt hgw.size⟩ hRz hB hz hzl)
    rw [← hLL] at n5
    refine n5.mono ?_
    rintro e w5 ⟨v5, rfl, o5, r5, g5⟩
    exact ⟨v5, rfl, by rw [hLn]; exact own_base o5 (by omega), r5, grown_new (B := B) B1 (turn2 hg g5) rfl⟩)
  have kS := Lib.hid (show ∀ W' : World, W1.grownBy W' (some Q) → W'.cell? ⟨w.heap.size, 0, none⟩ = some (.pointer (some ⟨Q, 0, none⟩)) from fun W' hg => (X1.turn hg (by omega)).cell 0)
  have HE := Lib.hid E1
  clear hLL hLn E1
  go_enter Try.func58, Try.ntmps58
  go_wp2_with fail
  rw [HE.out]
  have y0 : W1.cell? ⟨w.heap.size, 0, none⟩ = some (.pointer (some ⟨Q, 0, none⟩)) := X1.cell 0
  have lt0 : w.heap.size < W1.heap.size := by omega
  go_region_with
    (first
      | (go_at_call 51; refine (narrow_reads _ Q B ys (by repeat (first | assumption | apply rdr_drew | refine rdr_alloc ?_ hB _)) hB hx hl).mono ?_; rintro e w1 ⟨rfl, r1, g01⟩; have g0 : (W1.alloc (.cells #[.int .i64 0] 3)).drew.grownBy w1 (some Q) := g01; have g1 : W1.grownBy w1 (some Q) := turn2 (by repeat (first | assumption | exact grown_refl _ _ | apply grown_drew | apply grown_alloc)) g01; have y1 : w1.cell? ⟨w.heap.size, 0, none⟩ = some (.pointer (some ⟨Q, 0, none⟩)) := kS.out _ g1; have lt1 : w.heap.size < w1.heap.size := (by have := g1.size; omega))
      | (go_at_call 51; refine (narrow_reads _ Q B ys (by repeat (first | assumption | apply rdr_drew | refine rdr_alloc ?_ hB _)) hB hx hl).mono ?_; rintro e w1 ⟨rfl, r1, g01⟩; have g1 : W1.grownBy w1 (some Q) := turn2 (by repeat (first | assumption | exact grown_refl _ _ | apply grown_drew | apply grown_alloc)) g01; have y1 : w1.cell? ⟨w.heap.size, 0, none⟩ = some (.pointer (some ⟨Q, 0, none⟩)) := kS.out _ g1; have lt1 : w.heap.size < w1.heap.size := (by have := g1.size; omega))
      | (go_at_call 50; refine (wide_reads _ Q B (cutN 1 ys).2 (by repeat (first | assumption | apply rdr_drew | refine rdr_alloc ?_ hB _)) hB hx1 hl1).mono ?_; rintro e w2 ⟨rfl, r2, g12⟩; have m0 := made_1 (by have := g1.size; omega) (show (w1.alloc (.cells #[.int .i64 0] 3)).grownBy w2 (some Q) from g12); have z1 : w2.cell? ⟨w1.heap.size, 0, none⟩ = some (.int .i64 0) := m0.cell 0; have z2 : w2.frozen? ⟨w1.heap.size, 0, none⟩ = false := m0.free 0; have g2 : W1.grownBy w2 (some Q) := turn2 (by repeat (first | assumption | exact grown_refl _ _ | apply grown_drew | apply grown_alloc)) g12; have y2 : w2.cell? ⟨w.heap.size, 0, none⟩ = some (.pointer (some ⟨Q, 0, none⟩)) := kS.out _ g2; have lt2 : w.heap.size < w2.heap.size := (by have := g2.size; omega))
      | (go_at_call 50; refine (wide_reads _ Q B (cutN 1 ys).2 (by repeat (first | assumption | apply rdr_drew | refine rdr_alloc ?_ hB _)) hB hx1 hl1).mono ?_; rintro e w2 ⟨rfl, r2, g12⟩; have m0 := made_2 (by omega) g0 g12; rw [S1] at m0; have z1 : w2.cell? ⟨w.heap.size + 1, 0, none⟩ = some (.int .i64 0) := m0.cell 0; have z2 : w2.frozen? ⟨w.heap.size + 1, 0, none⟩ = false := m0.free 0; have g2 : W1.grownBy w2 (some Q) := turn2 (by repeat (first | assumption | exact grown_refl _ _ | apply grown_drew | apply grown_alloc)) g12; have y2 : w2.cell? ⟨w.heap.size, 0, none⟩ = some (.pointer (some ⟨Q, 0, none⟩)) := kS.out _ g2; have lt2 : w.heap.size < w2.heap.size := (by have := g2.size; omega))
      | (go_at_call 50; refine (wide_reads _ Q B (cutN 1 ys).2 (by repeat (first | assumption | apply rdr_drew | refine rdr_alloc ?_ hB _)) hB hx1 hl1).mono ?_; rintro e w2 ⟨rfl, r2, g12⟩; have g2 : W1.grownBy w2 (some Q) := turn2 (by repeat (first | assumption | exact grown_refl _ _ | apply grown_drew | apply grown_alloc)) g12; have y2 : w2.cell? ⟨w.heap.size, 0, none⟩ = some (.pointer (some ⟨Q, 0, none⟩)) := kS.out _ g2; have lt2 : w.heap.size < w2.heap.size := (by have := g2.size; omega)))
  all_goals
    have hs1 := g1.size
    have hs2 := g2.size
    go_wp2_with fail
    refine (N5.out _ _ ?hR ?hg ?bk ?hne).mono ?_
    case hR => first | exact rdr_set r2 (by omega) (by omega) _ _ | exact rdr_alloc r2 hB _ | exact rdr_set (rdr_alloc r2 hB _) (by omega) (by omega) _ _
    case hg => first | exact grown_low g2 (by omega) _ _ | exact grown_alloc g2 _ | exact grown_low (grown_alloc g2 _) (by omega) _ _
    case bk => first | exact m0.set 0 _ | exact blk_alloc w2 _ _ | exact (blk_alloc w2 _ _).set 0 _
    case hne => omega
    rintro e w5 ⟨v5, rfl, hpost⟩
    go_wp2
    go_ret
    exact ⟨_, rfl, hpost⟩
end Go.Proofs.Ytfnoaagnemccmaa
