/- What is proved: record's reader reads a partition's lines. What is proved: record's ReadState answers as the spec says. -/
import Derived.Test.YtmbphhcgmdaoeaaRvO
import Derived.Test.YtmbphhcgmdaoeaaRvX
import Derived.Test.YtmbphhcgmdaoeaaRvR
import Derived.Test.YtmbphhcgmdaoeaaRvT
namespace Go.Proofs.Ytmbphhcgmdaoeaa
open Go.RowKit

theorem grown_drew {w w1 : World} {Q : Nat} (h : w.grownBy w1 (some Q)) : w.grownBy w1.drew (some Q) := ⟨h.os, h.tape, h.output, h.size, h.block⟩
theorem grown_alloc {w w1 : World} {Q : Nat} (h : w.grownBy w1 (some Q)) (o : Obj) : w.grownBy (w1.alloc o) (some Q) := grown_trans h (grown_below ((Below.refl w1.heap.size w1).alloc (Nat.le_refl _) o) (Nat.le_refl _) (some Q)) (fun k hk => .inl (by cases hk; rfl))
theorem rdr_drew {w : World} {Q B : Nat} {ys : List Int} (h : Rdr w Q B ys) : Rdr w.drew Q B ys := h
theorem rdr_alloc {w : World} {Q B : Nat} {ys : List Int} (h : Rdr w Q B ys) (hB : B ≤ Q) (o : Obj) : Rdr (w.alloc o) Q B ys := h.far (C := w.heap.size) ((Below.refl w.heap.size w).alloc (Nat.le_refl _) o) h.lt (by have := h.lt; omega)
theorem blk_alloc (w : World) (e : TypeId) (cs : Array Value) : Blk (w.alloc (.cells cs e)) w.heap.size cs := ⟨e, heap_alloc_new w _⟩
theorem Blk.old {w : World} {g : Nat} {cs : Array Value} (h : Blk w g cs) (o : Obj) : Blk (w.alloc o) g cs := h.far (B := w.heap.size) ((Below.refl _ _).alloc (Nat.le_refl _) o) h.lt
theorem made_1 {w1 w2 : World} {Q : Nat} (hQ : w1.heap.size ≠ Q) (h : (w1.alloc (.cells #[.int .i64 0] 3)).grownBy w2 (some Q)) : Blk w2 w1.heap.size #[.int .i64 0] := Blk.turn (blk_alloc w1 3 #[.int .i64 0]) h hQ
theorem made_2 {W1 w1 w2 : World} {Q : Nat} (hQ : W1.heap.size ≠ Q) (h : (W1.alloc (.cells #[.int .i64 0] 3)).drew.grownBy w1 (some Q)) (h' : w1.grownBy w2 (some Q)) : Blk w2 W1.heap.size #[.int .i64 0] := Blk.turn (Blk.turn (blk_drew (blk_alloc W1 3 #[.int .i64 0])) h hQ) h' hQ
set_option maxRecDepth 100000 in
set_option maxHeartbeats 6400000 in
theorem lines_reads (w : World) (Q B : Nat) (ys : List Int) (hR : Rdr w Q B ys) (hB : B ≤ Q) (hx : IsBytes ys) (hl : ys.length ≤ 1000000) :
    Calls Try.prog 58 #[.pointer (some ⟨Q, 0, none⟩)] w fun e w' => ∃ v, e = .returned v ∧ w'.ownsRow w.heap.size 53 5 v (lenL ys).1.length (lnC (lenL ys).1) ∧ Rdr w' Q B (lenL ys).2 ∧ w.grownBy w' (some Q) := by
  obtain ⟨W1, E1, B1, X1, S1⟩ := Blk.new w 102 #[.pointer (some ⟨Q, 0, none⟩)]
  have hQ := hR.lt
  have hR1 := hR.far B1 hQ (by omega)
  have hx1 : IsBytes (cutN 1 ys).2 := cutN_bytes hx
  have hl1 := Nat.le_trans (cutN_len 1 ys) hl
  have hbd := bd1 hx
  have hbf := bd3 hx1
  obtain ⟨N, hN⟩ := Int.eq_ofNat_of_zero_le hbd.1
  have hN255 : N ≤ 255 := by omega
  have hLL : lenL ys = rowF (lnStep (cutN 3 (cutN 1 ys).2).1) N (cutN 3 (cutN 1 ys).2).2 := by unfold lenL; rw [hN, Int.toNat_natCast]
  have hLn : (lenL ys).1.length = N := by rw [hLL, rowF_length]
  have N5 := Lib.hid (show ∀ (Wf : World) (Qf : Nat) (_ : Rdr Wf Q B (cutN 3 (cutN 1 ys).2).2) (_ : W1.grownBy Wf (some Q)) (_ : Blk Wf Qf #[.int .i64 (cutN 3 (cutN 1 ys).2).1]) (_ : Qf ≠ Q),
      Calls Try.prog 71 #[.int .i64 N, .func (.func 72) #[] #[.pointer (some ⟨w.heap.size, 0, none⟩), .pointer (some ⟨Qf, 0, none⟩)]] Wf fun e w' => ∃ v, e = .returned v ∧ w'.ownsRow w.heap.size 53 5 v (lenL ys).1.length (lnC (lenL ys).1) ∧ Rdr w' Q B (lenL ys).2 ∧ w.grownBy w' (some Q) from by
    intro Wf Qf hRf hg bk hne
    have hsz := hg.size
    have XR := X1.turn hg (by omega)
    have c0 : Wf.cell? ⟨w.heap.size, 0, none⟩ = some (.pointer (some ⟨Q, 0, none⟩)) := XR.cell 0
    have c1 : Wf.cell? ⟨Qf, 0, none⟩ = some (.int .i64 (cutN 3 (cutN 1 ys).2).1) := bk.cell 0
    have hr : w.heap.size < Wf.heap.size := by omega
    have n5 := rowL_walk 72 #[.pointer (some ⟨w.heap.size, 0, none⟩), .pointer (some ⟨Qf, 0, none⟩)] (lnStep (cutN 3 (cutN 1 ys).2).1) N Q B _ Wf hRf hB hN255 (cutN_bytes hx1) (Nat.le_trans (cutN_len _ _) hl1) (lnStep_bytes _) (lnStep_len _) (enters_of Try.func72 (by kernel_rfl) rfl)
      (fun k W zs hk hRz hz hzl hgw => read_line _ k W Q B w.heap.size Qf zs hbf (by omega) ((World.cell?_of_block (hgw.block w.heap.size hr (fun e => by cases e; omega))).trans c0) ((World.cell?_of_block (hgw.block Qf bk.lt (fun e => hne (by cases e; rfl)))).trans c1) ⟨by omega, Nat.lt_of_lt_of_le hr hgw.size⟩ ⟨hne, Nat.lt_of_lt_of_le bk.lt hgw.size⟩ hRz hB hz hzl)
    rw [← hLL] at n5
    refine n5.mono ?_
    rintro e w5 ⟨v5, rfl, o5, r5, g5⟩
    exact ⟨v5, rfl, by rw [hLn]; exact own_base o5 (by omega), r5, grown_new (B := B) B1 (turn2 hg g5) rfl⟩)
  have kS := Lib.hid (show ∀ W' : World, W1.grownBy W' (some Q) → W'.cell? ⟨w.heap.size, 0, none⟩ = some (.pointer (some ⟨Q, 0, none⟩)) from fun W' hg => (X1.turn hg (by omega)).cell 0)
  have HE := Lib.hid E1
  clear hLL hLn E1
  go_enter Try.func58, Try.ntmps58
  go_wp2_with fail
  rw [HE.out]
  have y0 : W1.cell? ⟨w.heap.size, 0, none⟩ = some (.pointer (some ⟨Q, 0, none⟩)) := X1.cell 0
  have lt0 : w.heap.size < W1.heap.size := by omega
  go_region_with
    (first
      | (go_at_call 51; refine (narrow_reads _ Q B ys (by repeat (first | assumption | apply rdr_drew | refine rdr_alloc ?_ hB _)) hB hx hl).mono ?_; rintro e w1 ⟨rfl, r1, g01⟩; have g0 : (W1.alloc (.cells #[.int .i64 0] 3)).drew.grownBy w1 (some Q) := g01; have g1 : W1.grownBy w1 (some Q) := turn2 (by repeat (first | assumption | exact grown_refl _ _ | apply grown_drew | apply grown_alloc)) g01; have y1 : w1.cell? ⟨w.heap.size, 0, none⟩ = some (.pointer (some ⟨Q, 0, none⟩)) := kS.out _ g1; have lt1 : w.heap.size < w1.heap.size := (by have := g1.size; omega))
      | (go_at_call 51; refine (narrow_reads _ Q B ys (by repeat (first | assumption | apply rdr_drew | refine rdr_alloc ?_ hB _)) hB hx hl).mono ?_; rintro e w1 ⟨rfl, r1, g01⟩; have g1 : W1.grownBy w1 (some Q) := turn2 (by repeat (first | assumption | exact grown_refl _ _ | apply grown_drew | apply grown_alloc)) g01; have y1 : w1.cell? ⟨w.heap.size, 0, none⟩ = some (.pointer (some ⟨Q, 0, none⟩)) := kS.out _ g1; have lt1 : w.heap.size < w1.heap.size := (by have := g1.size; omega))
      | (go_at_call 50; refine (wide_reads _ Q B (cutN 1 ys).2 (by repeat (first | assumption | apply rdr_drew | refine rdr_alloc ?_ hB _)) hB hx1 hl1).mono ?_; rintro e w2 ⟨rfl, r2, g12⟩; have m0 := made_1 (by have := g1.size; omega) (show (w1.alloc (.cells #[.int .i64 0] 3)).grownBy w2 (some Q) from g12); have z1 : w2.cell? ⟨w1.heap.size, 0, none⟩ = some (.int .i64 0) := m0.cell 0; have z2 : w2.frozen? ⟨w1.heap.size, 0, none⟩ = false := m0.free 0; have g2 : W1.grownBy w2 (some Q) := turn2 (by repeat (first | assumption | exact grown_refl _ _ | apply grown_drew | apply grown_alloc)) g12; have y2 : w2.cell? ⟨w.heap.size, 0, none⟩ = some (.pointer (some ⟨Q, 0, none⟩)) := kS.out _ g2; have lt2 : w.heap.size < w2.heap.size := (by have := g2.size; omega))
      | (go_at_call 50; refine (wide_reads _ Q B (cutN 1 ys).2 (by repeat (first | assumption | apply rdr_drew | refine rdr_alloc ?_ hB _)) hB hx1 hl1).mono ?_; rintro e w2 ⟨rfl, r2, g12⟩; have m0 := made_2 (by omega) g0 g12; rw [S1] at m0; have z1 : w2.cell? ⟨w.heap.size + 1, 0, none⟩ = some (.int .i64 0) := m0.cell 0; have z2 : w2.frozen? ⟨w.heap.size + 1, 0, none⟩ = false := m0.free 0; have g2 : W1.grownBy w2 (some Q) := turn2 (by repeat (first | assumption | exact grown_refl _ _ | apply grown_drew | apply grown_alloc)) g12; have y2 : w2.cell? ⟨w.heap.size, 0, none⟩ = some (.pointer (some ⟨Q, 0, none⟩)) := kS.out _ g2; have lt2 : w.heap.size < w2.heap.size := (by have := g2.size; omega))
      | (go_at_call 50; refine (wide_reads _ Q B (cutN 1 ys).2 (by repeat (first | assumption | apply rdr_drew | refine rdr_alloc ?_ hB _)) hB hx1 hl1).mono ?_; rintro e w2 ⟨rfl, r2, g12⟩; have g2 : W1.grownBy w2 (some Q) := turn2 (by repeat (first | assumption | exact grown_refl _ _ | apply grown_drew | apply grown_alloc)) g12; have y2 : w2.cell? ⟨w.heap.size, 0, none⟩ = some (.pointer (some ⟨Q, 0, none⟩)) := kS.out _ g2; have lt2 : w.heap.size < w2.heap.size := (by have := g2.size; omega)))
  all_goals
    have hs1 := g1.size
    have hs2 := g2.size
    go_wp2_with fail
    refine (N5.out _ _ ?hR ?hg ?bk ?hne).mono ?_
    case hR => first | exact rdr_set r2 (by omega) (by omega) _ _ | exact rdr_alloc r2 hB _ | exact rdr_set (rdr_alloc r2 hB _) (by omega) (by omega) _ _
    case hg => first | exact grown_low g2 (by omega) _ _ | exact grown_alloc g2 _ | exact grown_low (grown_alloc g2 _) (by omega) _ _
    case bk => first | exact m0.set 0 _ | exact blk_alloc w2 _ _ | exact (blk_alloc w2 _ _).set 0 _
    case hne => omega
    rintro e w5 ⟨v5, rfl, hpost⟩
    go_wp2
    go_ret
    exact ⟨_, rfl, hpost⟩

theorem sl_sets {size : Nat} {w : World} {lo hi P : Nat} {v : Value} {n : Nat} {xs : List Value} (h : Sl size w lo hi v n xs) (hP : P < lo) {z0 z1 z2 z3 z4 z5 z6 z7 : Value} :
    Sl size ((((((((w.setCell ⟨P, 0, none⟩ z0).setCell ⟨P, 1, none⟩ z1).setCell ⟨P, 2, none⟩ z2).setCell ⟨P, 3, none⟩ z3).setCell ⟨P, 4, none⟩ z4).setCell ⟨P, 5, none⟩ z5).setCell ⟨P, 6, none⟩ z6).setCell ⟨P, 7, none⟩ z7) lo hi v n xs :=
  (((((((h.set_low (p := ⟨P, 0, none⟩) hP _).set_low (p := ⟨P, 1, none⟩) hP _).set_low (p := ⟨P, 2, none⟩) hP _).set_low (p := ⟨P, 3, none⟩) hP _).set_low (p := ⟨P, 4, none⟩) hP _).set_low (p := ⟨P, 5, none⟩) hP _).set_low (p := ⟨P, 6, none⟩) hP _).set_low (p := ⟨P, 7, none⟩) hP _
def remS (xs : List Int) (k : Int) : List Int := if k = 0 then (lenI xs).2 else if k = 1 then tl0 xs else if k = 2 then tl1 xs else (lenL (cutN 3 (tl1 xs)).2).2
def OwL (w : World) (R : Nat) (v : Value) (l : List Ln) : Prop := w.ownsRow (R + 1) 53 5 v l.length (lnC l)
def OwI (w : World) (R : Nat) (v : Value) (l : List It) : Prop := w.ownsRow (R + 1) 51 3 v l.length (itC l)
theorem OwL.on {w w1 : World} {R Q : Nat} {v : Value} {l : List Ln} (h : OwL w R v l) (hg : w.grownBy w1 (some Q)) (hQ : Q < R) (k : Nat) (u : Value) : OwL (w1.setCell ⟨R, k, none⟩ u) R v l := own_setS (own_grown h hg (by omega)) (show R < R + 1 by omega) u
theorem OwI.on {w w1 : World} {R Q : Nat} {v : Value} {l : List It} (h : OwI w R v l) (hg : w.grownBy w1 (some Q)) (hQ : Q < R) (k : Nat) (u : Value) : OwI (w1.setCell ⟨R, k, none⟩ u) R v l := own_setS (own_grown h hg (by omega)) (show R < R + 1 by omega) u
theorem OwL.sl {w : World} {R : Nat} {v : Value} {l : List Ln} (h : OwL w R v l) : Sl 5 w (R + 1) w.heap.size v l.length (lnC l) := Rg.own h
theorem OwI.sl {w : World} {R : Nat} {v : Value} {l : List It} (h : OwI w R v l) : Sl 3 w (R + 1) w.heap.size v l.length (itC l) := Rg.own h
def StR (w0 : World) (Q R B : Nat) (xs : List Int) (p : Int) (v0 : Value) (k : Int) (wr : World) : Prop :=
  ∃ u0 u1 u2 d0 d1 d2, Blk wr R #[.int .i64 p, v0, u0, u1, u2, .int .i64 d0, .int .i64 d1, .int .i64 d2] ∧ Rdr wr Q B (remS xs k) ∧ w0.grownBy wr (some Q) ∧ OwI wr R v0 (lenI xs).1 ∧
    (1 ≤ k → d0 = (cutN 3 (lenI xs).2).1 ∧ OwL wr R u0 (lenL (cutN 3 (lenI xs).2).2).1) ∧ (2 ≤ k → d1 = (cutN 3 (tl0 xs)).1 ∧ OwL wr R u1 (lenL (cutN 3 (tl0 xs)).2).1) ∧ (3 ≤ k → d2 = (cutN 3 (tl1 xs)).1 ∧ OwL wr R u2 (lenL (cutN 3 (tl1 xs)).2).1)
theorem remS_0 (xs : List Int) : remS xs 0 = (lenI xs).2 := by unfold remS; rw [if_pos rfl]
theorem remS_1 (xs : List Int) : remS xs 1 = tl0 xs := by unfold remS; rw [if_neg (by decide), if_pos rfl]
theorem remS_2 (xs : List Int) : remS xs 2 = tl1 xs := by unfold remS; rw [if_neg (by decide), if_neg (by decide), if_pos rfl]
theorem remS_3 (xs : List Int) : remS xs 3 = (lenL (cutN 3 (tl1 xs)).2).2 := by unfold remS; rw [if_neg (by decide), if_neg (by decide), if_neg (by decide)]
theorem tl0_eq (xs : List Int) : tl0 xs = (lenL (cutN 3 (lenI xs).2).2).2 := rfl
theorem tl1_eq (xs : List Int) : tl1 xs = (lenL (cutN 3 (tl0 xs)).2).2 := rfl
theorem stv_mk {w : World} {lo hi : Nat} {p c0 c1 c2 : Int} {it : List It} {l0 l1 l2 : List Ln} {v0 v1 v2 v3 : Value} (h0 : Sl 3 w lo hi v0 it.length (itC it)) (h1 : Sl 5 w lo hi v1 l0.length (lnC l0)) (h2 : Sl 5 w lo hi v2 l1.length (lnC l1)) (h3 : Sl 5 w lo hi v3 l2.length (lnC l2)) : StV w lo hi (.agg #[.int .i64 p, v0, v1, v2, v3, .int .i64 c0, .int .i64 c1, .int .i64 c2]) ⟨p, it, l0, l1, l2, c0, c1, c2⟩ := ⟨_, _, _, _, rfl, h0, h1, h2, h3⟩
theorem lenS_eq (xs : List Int) : lenS xs = ⟨(cutN 3 xs).1, (lenI xs).1, (lenL (cutN 3 (lenI xs).2).2).1, (lenL (cutN 3 (tl0 xs)).2).1, (lenL (cutN 3 (tl1 xs)).2).1, (cutN 3 (lenI xs).2).1, (cutN 3 (tl0 xs)).1, (cutN 3 (tl1 xs)).1⟩ := rfl
set_option maxRecDepth 100000 in
set_option maxHeartbeats 6400000 in
theorem dev_sread : ReadStateSpec 29 := by
  intro v xs w h hx hl
  obtain ⟨a, c, rfl, hnc, hcm, hr⟩ := id h
  obtain ⟨W1, E1, B1, X1, S1⟩ := Blk.new w 30 #[.int .i64 0, .slice none 0 0, .slice none 0 0, .slice none 0 0, .slice none 0 0, .int .i64 0, .int .i64 0, .int .i64 0]
  obtain ⟨W2, E2, B2, X2, S2⟩ := Blk.new W1 76 #[.slice a xs.length c]
  have b02 := below_on B1 B2
  rw [S1] at S2 X2
  have hR2 : Rdr W2 (w.heap.size + 1) w.heap.size xs := ⟨a, xs.length, c, X2, hnc, hcm, (Rd_of hr).far b02⟩
  have n1 := wide_reads W2 (w.heap.size + 1) w.heap.size xs hR2 (by omega) hx hl
  have hx1 := cutN_bytes (m := 3) hx
  have hl1 := Nat.le_trans (cutN_len 3 xs) hl
  go_enter Try.func29, Try.ntmps29
  go_wp2_with fail
  refine n1.mono ?_
  rintro e w1 ⟨rfl, r1, g1⟩
  obtain ⟨W4, E4, B4, X4, S4⟩ := Blk.new w1 30 #[.int .i64 (cutN 3 xs).1, .slice none 0 0, .slice none 0 0, .slice none 0 0, .slice none 0 0, .int .i64 0, .int .i64 0, .int .i64 0]
  have hs1 := g1.size
  have r4 := r1.far (C := w1.heap.size) B4 (by omega) (by omega)
  have n3 := narrow_reads W4 (w.heap.size + 1) w.heap.size _ r4 (by omega) hx1 hl1
  have g4 : W2.grownBy W4 (some (w.heap.size + 1)) := grown_trans g1 (grown_below B4 (Nat.le_refl _) (some (w.heap.size + 1))) (fun k hk => .inl (by cases hk; rfl))
  have HE := Lib.hid E4
  clear n1 r1 g1 E1 E2 E4
  go_wp2_with fail
  rw [HE.out]
  refine n3.mono ?_
  rintro e w5 ⟨rfl, r5, g45⟩
  have g5 := turn2 g4 g45
  have X5 := X4.turn g45 (by omega)
  have hbd := bd1 hx1
  obtain ⟨N, hN⟩ := Int.eq_ofNat_of_zero_le hbd.1
  have hN255 : N ≤ 255 := by omega
  have hx2 := cutN_bytes (m := 1) hx1
  have hl2 := Nat.le_trans (cutN_len 1 (cutN 3 xs).2) hl1
  rw [hN]
  have n4 := rowI_walk 57 #[.pointer (some ⟨w.heap.size + 1, 0, none⟩)] itStep N (w.heap.size + 1) w.heap.size _ w5 r5 (by omega) hN255 hx2 hl2 itStep_bytes itStep_len (enters_of Try.func57 (by kernel_rfl) rfl)
    (fun k W zs _ hR hz hzl _ => read_item k W (w.heap.size + 1) w.heap.size zs hR (by omega) hz hzl k)
  have hlen : lenI xs = rowF itStep N (cutN 1 (cutN 3 xs).2).2 := by
    unfold lenI
    rw [hN, Int.toNat_natCast]
  have hrl : (lenI xs).1.length = N := by rw [hlen, rowF_length]
  rw [← hlen] at n4
  go_wp2_with fail
  refine n4.mono ?_
  rintro e w6 ⟨v6, rfl, o6, r6, g56⟩
  have g6 := turn2 g5 g56
  have X6 := X5.turn g56 (by omega)
  have hs5 := g45.size
  have hs6 := g56.size
  obtain ⟨a6, c6, rfl, h61, h62, _⟩ := Rg.own o6
  have q60 : w6.cell? ⟨w1.heap.size, 1, none⟩ = some (.slice none 0 0) := X6.cell 1
  have q61 : w6.frozen? ⟨w1.heap.size, 1, none⟩ = false := X6.free 1
  have X7 := X6.set 1 (.slice a6 N c6)
  have o7 := own_base (own_setS o6 (p := ⟨w1.heap.size, 1, none⟩) (show w1.heap.size < w5.heap.size by omega) (.slice a6 N c6)) (show w1.heap.size + 1 ≤ w5.heap.size by omega)
  have r7 := rdr_set (B := w.heap.size) r6 (P := w1.heap.size) (by omega) (by omega) 1 (.slice a6 N c6)
  have g7 := grown_low g6 (P := w1.heap.size) (by omega) 1 (.slice a6 N c6)
  clear n3 n4 r4 r5 g4 g45 g5 g56 o6 X4 X5 X6 r6 g6
  go_wp2
  generalize w6.setCell ⟨w1.heap.size, 1, none⟩ (.slice a6 N c6) = W7 at *
  clear hlen
  have hst : StR W2 (w.heap.size + 1) w1.heap.size w.heap.size xs (cutN 3 xs).1 (.slice a6 N c6) 0 W7 := ⟨_, _, _, _, _, _, X7, by rw [remS_0]; exact r7, g7, by unfold OwI; rw [hrl]; exact o7, fun h => absurd h (by decide), fun h => absurd h (by decide), fun h => absurd h (by decide)⟩
  have hRQ : w.heap.size + 1 < w1.heap.size := by omega
  have hbI : IsBytes (lenI xs).2 := lenI_bytes hx
  have hb0 : IsBytes (tl0 xs) := tl0_bytes hx
  have hb1 : IsBytes (tl1 xs) := tl1_bytes hx
  have hlI : (lenI xs).2.length ≤ 1000000 := Nat.le_trans (lenI_len xs) hl
  have hl0 : (tl0 xs).length ≤ 1000000 := Nat.le_trans (lenL_len _) (Nat.le_trans (cutN_len _ _) hlI)
  have hl1' : (tl1 xs).length ≤ 1000000 := Nat.le_trans (lenL_len _) (Nat.le_trans (cutN_len _ _) hl0)
  clear X7 r7 g7 o7 q60 q61 hR2 X2
  go_loopw [17] (fun i wr => ∃ k : Int, (0 ≤ k ∧ k ≤ 3) ∧ i = .int .i64 k ∧ StR W2 (w.heap.size + 1) w1.heap.size w.heap.size xs (cutN 3 xs).1 (.slice a6 N c6) k wr) (fun i _ => 3 - (intOf i).toNat)
  case atStart => exact ⟨0, by decide, rfl, hst⟩
  case round =>
    obtain ⟨k, hk, rfl, u0, u1, u2, d0, d1, d2, hB, hRd, hg, ho, hp0, hp1, hp2⟩ := hrel
    have hgs := hg.size
    have hRlt := hB.lt
    obtain rfl | rfl | rfl | rfl : k = 0 ∨ k = 1 ∨ k = 2 ∨ k = 3 := by omega
    · rw [remS_0] at hRd
      have n6 := wide_reads wr (w.heap.size + 1) w.heap.size (lenI xs).2 hRd (by omega) hbI hlI
      go_wp2_with fail
      refine n6.mono ?_
      rintro e w7 ⟨rfl, r77, g77⟩
      have Y7 := hB.turn g77 (by omega)
      have y0 : w7.cell? ⟨w1.heap.size, 5, none⟩ = some (.int .i64 d0) := Y7.cell 5
      have y1 : w7.frozen? ⟨w1.heap.size, 5, none⟩ = false := Y7.free 5
      have hs7 := g77.size
      have r78 := rdr_set (B := w.heap.size) r77 (P := w1.heap.size) (by omega) (by omega) 5 (.int .i64 (cutN 3 (lenI xs).2).1)
      have Y8 := Y7.set 5 (.int .i64 (cutN 3 (lenI xs).2).1)
      have n7 := lines_reads (w7.setCell ⟨w1.heap.size, 5, none⟩ (.int .i64 (cutN 3 (lenI xs).2).1)) (w.heap.size + 1) w.heap.size (cutN 3 (lenI xs).2).2 r78 (by omega) (cutN_bytes hbI) (Nat.le_trans (cutN_len _ _) hlI)
      have g78 := grown_low (turn2 hg g77) (P := w1.heap.size) (by omega) 5 (.int .i64 (cutN 3 (lenI xs).2).1)
      have hz7 : (w7.setCell ⟨w1.heap.size, 5, none⟩ (.int .i64 (cutN 3 (lenI xs).2).1)).heap.size = w7.heap.size := by simp
      clear n6
      go_wp2_with fail
      refine n7.mono ?_
      rintro e w8 ⟨v8, rfl, o8, r88, g88⟩
      obtain ⟨a8, c8, rfl, _, _, _⟩ := Rg.own o8
      have Y9 := Y8.turn g88 (by omega)
      have z0 : w8.cell? ⟨w1.heap.size, 2, none⟩ = some u0 := Y9.cell 2
      have z1 : w8.frozen? ⟨w1.heap.size, 2, none⟩ = false := Y9.free 2
      have Y10 : Blk (w8.setCell ⟨w1.heap.size, 2, none⟩ (.slice a8 (lenL (cutN 3 (lenI xs).2).2).1.length c8)) w1.heap.size #[.int .i64 (cutN 3 xs).1, .slice a6 N c6, .slice a8 (lenL (cutN 3 (lenI xs).2).2).1.length c8, u1, u2, .int .i64 (cutN 3 (lenI xs).2).1, .int .i64 d1, .int .i64 d2] := Y9.set 2 (.slice a8 (lenL (cutN 3 (lenI xs).2).2).1.length c8)
      have r89 := rdr_set (B := w.heap.size) r88 (P := w1.heap.size) (by omega) (by omega) 2 (.slice a8 (lenL (cutN 3 (lenI xs).2).2).1.length c8)
      have g89 := grown_low (turn2 g78 g88) (P := w1.heap.size) (by omega) 2 (.slice a8 (lenL (cutN 3 (lenI xs).2).2).1.length c8)
      have hnew : OwL (w8.setCell ⟨w1.heap.size, 2, none⟩ (.slice a8 (lenL (cutN 3 (lenI xs).2).2).1.length c8)) w1.heap.size (.slice a8 (lenL (cutN 3 (lenI xs).2).2).1.length c8) (lenL (cutN 3 (lenI xs).2).2).1 := own_setS (own_base o8 (by omega)) (show w1.heap.size < w1.heap.size + 1 by omega) _
      have hrel : StR W2 (w.heap.size + 1) w1.heap.size w.heap.size xs (cutN 3 xs).1 (.slice a6 N c6) 1 (w8.setCell ⟨w1.heap.size, 2, none⟩ (.slice a8 (lenL (cutN 3 (lenI xs).2).2).1.length c8)) :=
        ⟨_, _, _, _, _, _, Y10, by rw [remS_1, tl0_eq]; exact r89, g89, (ho.on g77 hRQ 5 _).on g88 hRQ 2 _, fun _ => ⟨rfl, hnew⟩, fun h => absurd h (by decide), fun h => absurd h (by decide)⟩
      have HREL := Lib.hid hrel
      clear n7 y0 y1 hrel hnew g89 r89 Y10
      go_wp2
      go_roundw
      case rel => exact ⟨1, by omega, by go_num, HREL.out⟩
      case measure => simp [intOf]
    · rw [remS_1] at hRd
      have n6 := wide_reads wr (w.heap.size + 1) w.heap.size (tl0 xs) hRd (by omega) hb0 hl0
      go_wp2_with fail
      refine n6.mono ?_
      rintro e w7 ⟨rfl, r77, g77⟩
      have Y7 := hB.turn g77 (by omega)
      have y0 : w7.cell? ⟨w1.heap.size, 6, none⟩ = some (.int .i64 d1) := Y7.cell 6
      have y1 : w7.frozen? ⟨w1.heap.size, 6, none⟩ = false := Y7.free 6
      have hs7 := g77.size
      have r78 := rdr_set (B := w.heap.size) r77 (P := w1.heap.size) (by omega) (by omega) 6 (.int .i64 (cutN 3 (tl0 xs)).1)
      have Y8 := Y7.set 6 (.int .i64 (cutN 3 (tl0 xs)).1)
      have n7 := lines_reads (w7.setCell ⟨w1.heap.size, 6, none⟩ (.int .i64 (cutN 3 (tl0 xs)).1)) (w.heap.size + 1) w.heap.size (cutN 3 (tl0 xs)).2 r78 (by omega) (cutN_bytes hb0) (Nat.le_trans (cutN_len _ _) hl0)
      have g78 := grown_low (turn2 hg g77) (P := w1.heap.size) (by omega) 6 (.int .i64 (cutN 3 (tl0 xs)).1)
      have hz7 : (w7.setCell ⟨w1.heap.size, 6, none⟩ (.int .i64 (cutN 3 (tl0 xs)).1)).heap.size = w7.heap.size := by simp
      clear n6
      go_wp2_with fail
      refine n7.mono ?_
      rintro e w8 ⟨v8, rfl, o8, r88, g88⟩
      obtain ⟨a8, c8, rfl, _, _, _⟩ := Rg.own o8
      have Y9 := Y8.turn g88 (by omega)
      have z0 : w8.cell? ⟨w1.heap.size, 3, none⟩ = some u1 := Y9.cell 3
      have z1 : w8.frozen? ⟨w1.heap.size, 3, none⟩ = false := Y9.free 3
      have Y10 : Blk (w8.setCell ⟨w1.heap.size, 3, none⟩ (.slice a8 (lenL (cutN 3 (tl0 xs)).2).1.length c8)) w1.heap.size #[.int .i64 (cutN 3 xs).1, .slice a6 N c6, u0, .slice a8 (lenL (cutN 3 (tl0 xs)).2).1.length c8, u2, .int .i64 d0, .int .i64 (cutN 3 (tl0 xs)).1, .int .i64 d2] := Y9.set 3 (.slice a8 (lenL (cutN 3 (tl0 xs)).2).1.length c8)
      have r89 := rdr_set (B := w.heap.size) r88 (P := w1.heap.size) (by omega) (by omega) 3 (.slice a8 (lenL (cutN 3 (tl0 xs)).2).1.length c8)
      have g89 := grown_low (turn2 g78 g88) (P := w1.heap.size) (by omega) 3 (.slice a8 (lenL (cutN 3 (tl0 xs)).2).1.length c8)
      have hnew : OwL (w8.setCell ⟨w1.heap.size, 3, none⟩ (.slice a8 (lenL (cutN 3 (tl0 xs)).2).1.length c8)) w1.heap.size (.slice a8 (lenL (cutN 3 (tl0 xs)).2).1.length c8) (lenL (cutN 3 (tl0 xs)).2).1 := own_setS (own_base o8 (by omega)) (show w1.heap.size < w1.heap.size + 1 by omega) _
      have hrel : StR W2 (w.heap.size + 1) w1.heap.size w.heap.size xs (cutN 3 xs).1 (.slice a6 N c6) 2 (w8.setCell ⟨w1.heap.size, 3, none⟩ (.slice a8 (lenL (cutN 3 (tl0 xs)).2).1.length c8)) :=
        ⟨_, _, _, _, _, _, Y10, by rw [remS_2, tl1_eq]; exact r89, g89, (ho.on g77 hRQ 6 _).on g88 hRQ 3 _, fun _ => ⟨(hp0 (by decide)).1, ((hp0 (by decide)).2.on g77 hRQ 6 (.int .i64 (cutN 3 (tl0 xs)).1)).on g88 hRQ 3 _⟩, fun _ => ⟨rfl, hnew⟩, fun h => absurd h (by decide)⟩
      have HREL := Lib.hid hrel
      clear n7 y0 y1 hrel hnew g89 r89 Y10
      go_wp2
      go_roundw
      case rel => exact ⟨2, by omega, by go_num, HREL.out⟩
      case measure => simp [intOf]
    · rw [remS_2] at hRd
      have n6 := wide_reads wr (w.heap.size + 1) w.heap.size (tl1 xs) hRd (by omega) hb1 hl1'
      go_wp2_with fail
      refine n6.mono ?_
      rintro e w7 ⟨rfl, r77, g77⟩
      have Y7 := hB.turn g77 (by omega)
      have y0 : w7.cell? ⟨w1.heap.size, 7, none⟩ = some (.int .i64 d2) := Y7.cell 7
      have y1 : w7.frozen? ⟨w1.heap.size, 7, none⟩ = false := Y7.free 7
      have hs7 := g77.size
      have r78 := rdr_set (B := w.heap.size) r77 (P := w1.heap.size) (by omega) (by omega) 7 (.int .i64 (cutN 3 (tl1 xs)).1)
      have Y8 := Y7.set 7 (.int .i64 (cutN 3 (tl1 xs)).1)
      have n7 := lines_reads (w7.setCell ⟨w1.heap.size, 7, none⟩ (.int .i64 (cutN 3 (tl1 xs)).1)) (w.heap.size + 1) w.heap.size (cutN 3 (tl1 xs)).2 r78 (by omega) (cutN_bytes hb1) (Nat.le_trans (cutN_len _ _) hl1')
      have g78 := grown_low (turn2 hg g77) (P := w1.heap.size) (by omega) 7 (.int .i64 (cutN 3 (tl1 xs)).1)
      have hz7 : (w7.setCell ⟨w1.heap.size, 7, none⟩ (.int .i64 (cutN 3 (tl1 xs)).1)).heap.size = w7.heap.size := by simp
      clear n6
      go_wp2_with fail
      refine n7.mono ?_
      rintro e w8 ⟨v8, rfl, o8, r88, g88⟩
      obtain ⟨a8, c8, rfl, _, _, _⟩ := Rg.own o8
      have Y9 := Y8.turn g88 (by omega)
      have z0 : w8.cell? ⟨w1.heap.size, 4, none⟩ = some u2 := Y9.cell 4
      have z1 : w8.frozen? ⟨w1.heap.size, 4, none⟩ = false := Y9.free 4
      have Y10 : Blk (w8.setCell ⟨w1.heap.size, 4, none⟩ (.slice a8 (lenL (cutN 3 (tl1 xs)).2).1.length c8)) w1.heap.size #[.int .i64 (cutN 3 xs).1, .slice a6 N c6, u0, u1, .slice a8 (lenL (cutN 3 (tl1 xs)).2).1.length c8, .int .i64 d0, .int .i64 d1, .int .i64 (cutN 3 (tl1 xs)).1] := Y9.set 4 (.slice a8 (lenL (cutN 3 (tl1 xs)).2).1.length c8)
      have r89 := rdr_set (B := w.heap.size) r88 (P := w1.heap.size) (by omega) (by omega) 4 (.slice a8 (lenL (cutN 3 (tl1 xs)).2).1.length c8)
      have g89 := grown_low (turn2 g78 g88) (P := w1.heap.size) (by omega) 4 (.slice a8 (lenL (cutN 3 (tl1 xs)).2).1.length c8)
      have hnew : OwL (w8.setCell ⟨w1.heap.size, 4, none⟩ (.slice a8 (lenL (cutN 3 (tl1 xs)).2).1.length c8)) w1.heap.size (.slice a8 (lenL (cutN 3 (tl1 xs)).2).1.length c8) (lenL (cutN 3 (tl1 xs)).2).1 := own_setS (own_base o8 (by omega)) (show w1.heap.size < w1.heap.size + 1 by omega) _
      have hrel : StR W2 (w.heap.size + 1) w1.heap.size w.heap.size xs (cutN 3 xs).1 (.slice a6 N c6) 3 (w8.setCell ⟨w1.heap.size, 4, none⟩ (.slice a8 (lenL (cutN 3 (tl1 xs)).2).1.length c8)) :=
        ⟨_, _, _, _, _, _, Y10, by rw [remS_3]; exact r89, g89, (ho.on g77 hRQ 7 _).on g88 hRQ 4 _, fun _ => ⟨(hp0 (by decide)).1, ((hp0 (by decide)).2.on g77 hRQ 7 (.int .i64 (cutN 3 (tl1 xs)).1)).on g88 hRQ 4 _⟩, fun _ => ⟨(hp1 (by decide)).1, ((hp1 (by decide)).2.on g77 hRQ 7 (.int .i64 (cutN 3 (tl1 xs)).1)).on g88 hRQ 4 _⟩, fun _ => ⟨rfl, hnew⟩⟩
      have HREL := Lib.hid hrel
      clear n7 y0 y1 hrel hnew g89 r89 Y10
      go_wp2
      go_roundw
      case rel => exact ⟨3, by omega, by go_num, HREL.out⟩
      case measure => simp [intOf]
    · have e0 := (hp0 (by decide)).2
      have e1 := (hp1 (by decide)).2
      have e2 := (hp2 (by decide)).2
      rw [(hp0 (by decide)).1, (hp1 (by decide)).1, (hp2 (by decide)).1] at hB
      have hV : StV wr (w1.heap.size + 1) wr.heap.size (.agg #[.int .i64 (cutN 3 xs).1, .slice a6 N c6, u0, u1, u2, .int .i64 (cutN 3 (lenI xs).2).1, .int .i64 (cutN 3 (tl0 xs)).1, .int .i64 (cutN 3 (tl1 xs)).1]) (lenS xs) := by
        rw [lenS_eq]
        exact stv_mk ho.sl e0.sl e1.sl e2.sl
      have bt : Below w.heap.size w wr := b02.trans (below_row hg (fun k hk => by cases hk; omega) (by omega))
      have XP : Blk wr w.heap.size #[.int .i64 0, .slice none 0 0, .slice none 0 0, .slice none 0 0, .slice none 0 0, .int .i64 0, .int .i64 0, .int .i64 0] := (X1.far B2 (by omega)).turn hg (by omega)
      have n8 := dev_sbytes _ (lenS xs) _ (hV.wide (Nat.zero_le _) (Nat.le_refl _)) (lenS_in hx)
      have hcs := lenS_reads hx
      obtain ⟨a0, c0', rfl, _⟩ := id e0.sl
      obtain ⟨a1, c1', rfl, _⟩ := id e1.sl
      obtain ⟨a2, c2', rfl, _⟩ := id e2.sl
      generalize hL0 : (lenL (cutN 3 (lenI xs).2).2).1.length = m0 at *
      generalize hL1 : (lenL (cutN 3 (tl0 xs)).2).1.length = m1 at *
      generalize hL2 : (lenL (cutN 3 (tl1 xs)).2).1.length = m2 at *
      have s0 : wr.cell? ⟨w1.heap.size, 0, none⟩ = some (.int .i64 (cutN 3 xs).1) := hB.cell 0
      have s1 : wr.cell? ⟨w1.heap.size, 1, none⟩ = some (.slice a6 N c6) := hB.cell 1
      have s2 : wr.cell? ⟨w1.heap.size, 2, none⟩ = some (.slice a0 m0 c0') := hB.cell 2
      have s3 : wr.cell? ⟨w1.heap.size, 3, none⟩ = some (.slice a1 m1 c1') := hB.cell 3
      have s4 : wr.cell? ⟨w1.heap.size, 4, none⟩ = some (.slice a2 m2 c2') := hB.cell 4
      have s5 : wr.cell? ⟨w1.heap.size, 5, none⟩ = some (.int .i64 (cutN 3 (lenI xs).2).1) := hB.cell 5
      have s6 : wr.cell? ⟨w1.heap.size, 6, none⟩ = some (.int .i64 (cutN 3 (tl0 xs)).1) := hB.cell 6
      have s7 : wr.cell? ⟨w1.heap.size, 7, none⟩ = some (.int .i64 (cutN 3 (tl1 xs)).1) := hB.cell 7
      clear e0 e1 e2 ho hRd hp0 hp1 hp2 hst
      generalize lenS xs = t0 at *
      generalize (cutN 3 xs).1 = p at *
      generalize (cutN 3 (lenI xs).2).1 = k0 at *
      generalize (cutN 3 (tl0 xs)).1 = k1 at *
      generalize (cutN 3 (tl1 xs)).1 = k2 at *
      go_wp2_with fail
      refine n8.mono ?_
      rintro e w8 ⟨b, rfl, hb8, b8⟩
      have bt8 : Below w.heap.size w w8 := bt.trans (b8.mono bt.size)
      have h8 : Bt w8 0 w8.heap.size (.slice a xs.length c) xs := (h.far bt8).wide (Nat.le_refl _) bt8.size
      have XP8 := XP.far b8 XP.lt
      have X8 := hB.far b8 hB.lt
      have hV8 := hV.far b8
      clear n8 s0 s1 s2 s3 s4 s5 s6 s7 XP hV h
      rcases hcs with ⟨n1, n2, n3, n4⟩ | ⟨n1, m2', m3'⟩
      · obtain ⟨o1, o2⟩ := souE_yes n1
        rw [o1]
        rw [o2, n2] at hb8
        obtain ⟨ab, cb, rfl, h81, h82, h83⟩ := id hb8
        have n6 := eqB_walk (.slice ab xs.length cb) (.slice a xs.length c) xs xs w8 (hb8.wide (Nat.zero_le _) (Nat.le_refl _)) h8 hl
        rw [(rowEq_iff byEq_iff 0 xs xs).2 rfl] at n6
        go_wp2_with fail
        refine n6.mono ?_
        rintro e w9 ⟨rfl, b9⟩
        have XP9 := XP8.far b9 XP8.lt
        have X9 := X8.far b9 X8.lt
        have q0 : w9.cell? ⟨w.heap.size, 0, none⟩ = some (.int .i64 0) := XP9.cell 0
        have fq0 : w9.frozen? ⟨w.heap.size, 0, none⟩ = false := XP9.free 0
        have q1 : w9.cell? ⟨w.heap.size, 1, none⟩ = some (.slice none 0 0) := XP9.cell 1
        have fq1 : w9.frozen? ⟨w.heap.size, 1, none⟩ = false := XP9.free 1
        have q2 : w9.cell? ⟨w.heap.size, 2, none⟩ = some (.slice none 0 0) := XP9.cell 2
        have fq2 : w9.frozen? ⟨w.heap.size, 2, none⟩ = false := XP9.free 2
        have q3 : w9.cell? ⟨w.heap.size, 3, none⟩ = some (.slice none 0 0) := XP9.cell 3
        have fq3 : w9.frozen? ⟨w.heap.size, 3, none⟩ = false := XP9.free 3
        have q4 : w9.cell? ⟨w.heap.size, 4, none⟩ = some (.slice none 0 0) := XP9.cell 4
        have fq4 : w9.frozen? ⟨w.heap.size, 4, none⟩ = false := XP9.free 4
        have q5 : w9.cell? ⟨w.heap.size, 5, none⟩ = some (.int .i64 0) := XP9.cell 5
        have fq5 : w9.frozen? ⟨w.heap.size, 5, none⟩ = false := XP9.free 5
        have q6 : w9.cell? ⟨w.heap.size, 6, none⟩ = some (.int .i64 0) := XP9.cell 6
        have fq6 : w9.frozen? ⟨w.heap.size, 6, none⟩ = false := XP9.free 6
        have q7 : w9.cell? ⟨w.heap.size, 7, none⟩ = some (.int .i64 0) := XP9.cell 7
        have fq7 : w9.frozen? ⟨w.heap.size, 7, none⟩ = false := XP9.free 7
        have t0 : w9.cell? ⟨w1.heap.size, 0, none⟩ = some (.int .i64 p) := X9.cell 0
        have t1 : w9.cell? ⟨w1.heap.size, 1, none⟩ = some (.slice a6 N c6) := X9.cell 1
        have t2 : w9.cell? ⟨w1.heap.size, 2, none⟩ = some (.slice a0 m0 c0') := X9.cell 2
        have t3 : w9.cell? ⟨w1.heap.size, 3, none⟩ = some (.slice a1 m1 c1') := X9.cell 3
        have t4 : w9.cell? ⟨w1.heap.size, 4, none⟩ = some (.slice a2 m2 c2') := X9.cell 4
        have t5 : w9.cell? ⟨w1.heap.size, 5, none⟩ = some (.int .i64 k0) := X9.cell 5
        have t6 : w9.cell? ⟨w1.heap.size, 6, none⟩ = some (.int .i64 k1) := X9.cell 6
        have t7 : w9.cell? ⟨w1.heap.size, 7, none⟩ = some (.int .i64 k2) := X9.cell 7
        have hend : Below w.heap.size w ((((((((w9.setCell ⟨w.heap.size, 0, none⟩ (.int .i64 p)).setCell ⟨w.heap.size, 1, none⟩ (.slice a6 N c6)).setCell ⟨w.heap.size, 2, none⟩ (.slice a0 m0 c0')).setCell ⟨w.heap.size, 3, none⟩ (.slice a1 m1 c1')).setCell ⟨w.heap.size, 4, none⟩ (.slice a2 m2 c2')).setCell ⟨w.heap.size, 5, none⟩ (.int .i64 k0)).setCell ⟨w.heap.size, 6, none⟩ (.int .i64 k1)).setCell ⟨w.heap.size, 7, none⟩ (.int .i64 k2)) := (((((((((bt8.trans (b9.mono bt8.size)).setCell (Nat.le_refl _) _).setCell (Nat.le_refl _) _).setCell (Nat.le_refl _) _).setCell (Nat.le_refl _) _).setCell (Nat.le_refl _) _).setCell (Nat.le_refl _) _).setCell (Nat.le_refl _) _).setCell (Nat.le_refl _) _)
        have hV9 := hV8.far (b9.mono b8.size)
        have hsz9 := b9.size
        have hsz8 := b8.size
        clear n6
        go_wp2
        refine bodyPost_ret (v := .tuple #[.agg #[.int .i64 p, .slice a6 N c6, .slice a0 m0 c0', .slice a1 m1 c1', .slice a2 m2 c2', .int .i64 k0, .int .i64 k1, .int .i64 k2], .int .i64 0]) (by simp [results, Try.results29, go_sem, q0, q1, q2, q3, q4, q5, q6, q7]) rfl ⟨.agg #[.int .i64 p, .slice a6 N c6, .slice a0 m0 c0', .slice a1 m1 c1', .slice a2 m2 c2', .int .i64 k0, .int .i64 k1, .int .i64 k2], by rw [n3], ?_, hend⟩
        rw [n4]
        obtain ⟨_, _, _, _, e9, g0', g1', g2', g3'⟩ := hV9
        refine ⟨_, _, _, _, e9, ?_, ?_, ?_, ?_⟩
        · exact (sl_sets g0' (by omega)).wide (by omega) (by simp; omega)
        · exact (sl_sets g1' (by omega)).wide (by omega) (by simp; omega)
        · exact (sl_sets g2' (by omega)).wide (by omega) (by simp; omega)
        · exact (sl_sets g3' (by omega)).wide (by omega) (by simp; omega)
      · rcases hm : stands t0 with _ | _
        · obtain ⟨o1, o2⟩ := souE_no hm
          rw [o1]
          rw [o2] at hb8
          obtain ⟨ab, cb, rfl, h81, h82, h83⟩ := id hb8
          have q0 : w8.cell? ⟨w.heap.size, 0, none⟩ = some (.int .i64 0) := XP8.cell 0
          have fq0 : w8.frozen? ⟨w.heap.size, 0, none⟩ = false := XP8.free 0
          have q1 : w8.cell? ⟨w.heap.size, 1, none⟩ = some (.slice none 0 0) := XP8.cell 1
          have fq1 : w8.frozen? ⟨w.heap.size, 1, none⟩ = false := XP8.free 1
          have q2 : w8.cell? ⟨w.heap.size, 2, none⟩ = some (.slice none 0 0) := XP8.cell 2
          have fq2 : w8.frozen? ⟨w.heap.size, 2, none⟩ = false := XP8.free 2
          have q3 : w8.cell? ⟨w.heap.size, 3, none⟩ = some (.slice none 0 0) := XP8.cell 3
          have fq3 : w8.frozen? ⟨w.heap.size, 3, none⟩ = false := XP8.free 3
          have q4 : w8.cell? ⟨w.heap.size, 4, none⟩ = some (.slice none 0 0) := XP8.cell 4
          have fq4 : w8.frozen? ⟨w.heap.size, 4, none⟩ = false := XP8.free 4
          have q5 : w8.cell? ⟨w.heap.size, 5, none⟩ = some (.int .i64 0) := XP8.cell 5
          have fq5 : w8.frozen? ⟨w.heap.size, 5, none⟩ = false := XP8.free 5
          have q6 : w8.cell? ⟨w.heap.size, 6, none⟩ = some (.int .i64 0) := XP8.cell 6
          have fq6 : w8.frozen? ⟨w.heap.size, 6, none⟩ = false := XP8.free 6
          have q7 : w8.cell? ⟨w.heap.size, 7, none⟩ = some (.int .i64 0) := XP8.cell 7
          have fq7 : w8.frozen? ⟨w.heap.size, 7, none⟩ = false := XP8.free 7
          have hend : Below w.heap.size w ((((((((w8.setCell ⟨w.heap.size, 0, none⟩ (.int .i64 0)).setCell ⟨w.heap.size, 1, none⟩ (.slice none 0 0)).setCell ⟨w.heap.size, 2, none⟩ (.slice none 0 0)).setCell ⟨w.heap.size, 3, none⟩ (.slice none 0 0)).setCell ⟨w.heap.size, 4, none⟩ (.slice none 0 0)).setCell ⟨w.heap.size, 5, none⟩ (.int .i64 0)).setCell ⟨w.heap.size, 6, none⟩ (.int .i64 0)).setCell ⟨w.heap.size, 7, none⟩ (.int .i64 0)) := ((((((((bt8.setCell (Nat.le_refl _) _).setCell (Nat.le_refl _) _).setCell (Nat.le_refl _) _).setCell (Nat.le_refl _) _).setCell (Nat.le_refl _) _).setCell (Nat.le_refl _) _).setCell (Nat.le_refl _) _).setCell (Nat.le_refl _) _)
          go_wp2
          exact bodyPost_ret (v := .tuple #[.agg #[.int .i64 0, .slice none 0 0, .slice none 0 0, .slice none 0 0, .slice none 0 0, .int .i64 0, .int .i64 0, .int .i64 0], .int .i64 50]) (by simp [results, Try.results29, go_sem, q0, q1, q2, q3, q4, q5, q6, q7]) rfl ⟨.agg #[.int .i64 0, .slice none 0 0, .slice none 0 0, .slice none 0 0, .slice none 0 0, .int .i64 0, .int .i64 0, .int .i64 0], by rw [m2'], by rw [m3']; exact ⟨_, _, _, _, rfl, Sl.nil _ _ _ _, Sl.nil _ _ _ _, Sl.nil _ _ _ _, Sl.nil _ _ _ _⟩, hend⟩
        · obtain ⟨o1, o2⟩ := souE_yes hm
          have hne : stE t0 ≠ xs := by
            rcases n1 with n1 | n1
            · rw [hm] at n1; cases n1
            · exact n1
          rw [o1]
          rw [o2] at hb8
          have hsh := stE_short hm
          clear hm n1 o1 o2
          generalize stE t0 = ys at *
          obtain ⟨ab, cb, rfl, h81, h82, h83⟩ := id hb8
          have n6 := eqB_walk (.slice ab ys.length cb) (.slice a xs.length c) ys xs w8 (hb8.wide (Nat.zero_le _) (Nat.le_refl _)) h8 (by omega)
          have hq : rowEq byEq 0 ys xs = false := by
            rcases hq : rowEq byEq 0 ys xs with _ | _
            · rfl
            · exact absurd ((rowEq_iff byEq_iff 0 _ _).1 hq) hne
          rw [hq] at n6
          go_wp2_with fail
          refine n6.mono ?_
          rintro e w9 ⟨rfl, b9⟩
          have XP9 := XP8.far b9 XP8.lt
          have q0 : w9.cell? ⟨w.heap.size, 0, none⟩ = some (.int .i64 0) := XP9.cell 0
          have fq0 : w9.frozen? ⟨w.heap.size, 0, none⟩ = false := XP9.free 0
          have q1 : w9.cell? ⟨w.heap.size, 1, none⟩ = some (.slice none 0 0) := XP9.cell 1
          have fq1 : w9.frozen? ⟨w.heap.size, 1, none⟩ = false := XP9.free 1
          have q2 : w9.cell? ⟨w.heap.size, 2, none⟩ = some (.slice none 0 0) := XP9.cell 2
          have fq2 : w9.frozen? ⟨w.heap.size, 2, none⟩ = false := XP9.free 2
          have q3 : w9.cell? ⟨w.heap.size, 3, none⟩ = some (.slice none 0 0) := XP9.cell 3
          have fq3 : w9.frozen? ⟨w.heap.size, 3, none⟩ = false := XP9.free 3
          have q4 : w9.cell? ⟨w.heap.size, 4, none⟩ = some (.slice none 0 0) := XP9.cell 4
          have fq4 : w9.frozen? ⟨w.heap.size, 4, none⟩ = false := XP9.free 4
          have q5 : w9.cell? ⟨w.heap.size, 5, none⟩ = some (.int .i64 0) := XP9.cell 5
          have fq5 : w9.frozen? ⟨w.heap.size, 5, none⟩ = false := XP9.free 5
          have q6 : w9.cell? ⟨w.heap.size, 6, none⟩ = some (.int .i64 0) := XP9.cell 6
          have fq6 : w9.frozen? ⟨w.heap.size, 6, none⟩ = false := XP9.free 6
          have q7 : w9.cell? ⟨w.heap.size, 7, none⟩ = some (.int .i64 0) := XP9.cell 7
          have fq7 : w9.frozen? ⟨w.heap.size, 7, none⟩ = false := XP9.free 7
          clear n6
          have hend : Below w.heap.size w ((((((((w9.setCell ⟨w.heap.size, 0, none⟩ (.int .i64 0)).setCell ⟨w.heap.size, 1, none⟩ (.slice none 0 0)).setCell ⟨w.heap.size, 2, none⟩ (.slice none 0 0)).setCell ⟨w.heap.size, 3, none⟩ (.slice none 0 0)).setCell ⟨w.heap.size, 4, none⟩ (.slice none 0 0)).setCell ⟨w.heap.size, 5, none⟩ (.int .i64 0)).setCell ⟨w.heap.size, 6, none⟩ (.int .i64 0)).setCell ⟨w.heap.size, 7, none⟩ (.int .i64 0)) := (((((((((bt8.trans (b9.mono bt8.size)).setCell (Nat.le_refl _) _).setCell (Nat.le_refl _) _).setCell (Nat.le_refl _) _).setCell (Nat.le_refl _) _).setCell (Nat.le_refl _) _).setCell (Nat.le_refl _) _).setCell (Nat.le_refl _) _).setCell (Nat.le_refl _) _)
          go_wp2
          exact bodyPost_ret (v := .tuple #[.agg #[.int .i64 0, .slice none 0 0, .slice none 0 0, .slice none 0 0, .slice none 0 0, .int .i64 0, .int .i64 0, .int .i64 0], .int .i64 50]) (by simp [results, Try.results29, go_sem, q0, q1, q2, q3, q4, q5, q6, q7]) rfl ⟨.agg #[.int .i64 0, .slice none 0 0, .slice none 0 0, .slice none 0 0, .slice none 0 0, .int .i64 0, .int .i64 0, .int .i64 0], by rw [m2'], by rw [m3']; exact ⟨_, _, _, _, rfl, Sl.nil _ _ _ _, Sl.nil _ _ _ _, Sl.nil _ _ _ _, Sl.nil _ _ _ _⟩, hend⟩
end Go.Proofs.Ytmbphhcgmdaoeaa
