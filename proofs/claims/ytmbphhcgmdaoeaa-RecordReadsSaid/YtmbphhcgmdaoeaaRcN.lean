/- What is proved: the statements RecordReads and RecordLong walked over any functions that answer as the specs say. -/
import Derived.Test.YtmbphhcgmdaoeaaRcM
namespace Go.Proofs.Ytmbphhcgmdaoeaa
open Go.RowKit

theorem Bt.le {w : World} {lo hi : Nat} {v : Value} {xs : List Int} (h : Bt w lo hi v xs) : ∃ a c, v = .slice a xs.length c ∧ xs.length ≤ c ∧ c ≤ maxLen := by
  obtain ⟨a, c, e, h1, h2, _⟩ := h
  exact ⟨a, c, e, h1, h2⟩
def recA (r : Rc) (a : Option Addr) (c : Nat) : Array Value := #[.int .i64 r.place, .bool r.yes, .slice a r.ws.length c]
def stA (s : St) (a0 a1 a2 a3 : Option Addr) (c0 c1 c2 c3 : Nat) : Array Value :=
  #[.int .i64 s.place, .slice a0 s.items.length c0, .slice a1 s.l0.length c1, .slice a2 s.l1.length c2, .slice a3 s.l2.length c3, .int .i64 s.c0, .int .i64 s.c1, .int .i64 s.c2]
theorem Blk.rec_ {w : World} {g : Nat} {r : Rc} {a : Option Addr} {c : Nat} (h : Blk w g #[.int .i64 r.place, .bool r.yes, .slice a r.ws.length c]) :
    w.cell? ⟨g, 0, none⟩ = some (.int .i64 r.place) ∧ w.cell? ⟨g, 1, none⟩ = some (.bool r.yes) ∧ w.cell? ⟨g, 2, none⟩ = some (.slice a r.ws.length c) := ⟨h.cell 0, h.cell 1, h.cell 2⟩
theorem Blk.st_ {w : World} {g : Nat} {v0 v1 v2 v3 v4 v5 v6 v7 : Value} (h : Blk w g #[v0, v1, v2, v3, v4, v5, v6, v7]) :
    w.cell? ⟨g, 0, none⟩ = some v0 ∧ w.cell? ⟨g, 1, none⟩ = some v1 ∧ w.cell? ⟨g, 2, none⟩ = some v2 ∧ w.cell? ⟨g, 3, none⟩ = some v3 ∧ w.cell? ⟨g, 4, none⟩ = some v4 ∧ w.cell? ⟨g, 5, none⟩ = some v5 ∧ w.cell? ⟨g, 6, none⟩ = some v6 ∧ w.cell? ⟨g, 7, none⟩ = some v7 :=
  ⟨h.cell 0, h.cell 1, h.cell 2, h.cell 3, h.cell 4, h.cell 5, h.cell 6, h.cell 7⟩
theorem inR_in {xs : List Int} (hx : IsBytes xs) : (inR xs).In := by
  rcases in_cases hx with ⟨r, _, h1, h2, _⟩ | ⟨_, h1, _⟩
  · rw [h1]; exact may_in h2
  · rw [h1]; exact ⟨⟨by decide, by decide⟩, by simp [noRc], by decide⟩
theorem sinS_in {xs : List Int} (hx : IsBytes xs) : (sinS xs).In := by
  rcases sin_cases hx with ⟨r, _, h1, h2, _⟩ | ⟨_, h1, _⟩
  · rw [h1]; exact st_in h2
  · rw [h1]; exact st_in wk5
set_option maxRecDepth 100000 in
set_option maxHeartbeats 3200000 in
theorem walkRecordReads (hB : BytesSpec 13) (hR : ReadSpec 27) (hS : StandsSpec 21) (hRS : ReadStateSpec 29)
    (hR' : ReadSpec 28) (hRS' : ReadStateSpec 30) (hE' : SameSpec 24) (hES' : SameStateSpec 26)
    (v : Value) (xs : List Int) (w : World) (h : Bt w 0 w.heap.size v xs) (hx : IsBytes xs) (hsz : xs.length ≤ 140737488351232) :
    Calls Try.prog 4 #[v] w fun e w' => e = .returned (.bool true) ∧ Below w.heap.size w w' := by
  obtain ⟨a, c, rfl, hnc, hcm⟩ := h.le
  by_cases hg : 2000 < (xs.length : Int)
  · have n1 := wakes_any hB hR hS w
    go_enter Try.func4, Try.ntmps4
    go_wp2_with fail
    refine n1.mono ?_
    rintro e w2 ⟨rfl, b2⟩
    go_wp2
    go_ret
    exact ⟨rfl, b2⟩
  · have n1 := hR _ xs w h hx (by omega)
    go_enter Try.func4, Try.ntmps4
    go_wp2_with fail
    refine n1.mono ?_
    rintro e w1 ⟨r1, rfl, q1, b1⟩
    clear n1
    obtain ⟨s1, rfl, a1, c1, rfl, _⟩ := id q1
    generalize hrr : inR xs = rr at q1
    obtain ⟨W1, E1, B1, X1, S1⟩ := Blk.new w1 24 #[.int .i64 rr.place, .bool rr.yes, .slice a1 rr.ws.length c1]
    have bW1 := below_on b1 B1
    have n2 := hR' (.slice a xs.length c) xs W1 ((h.far bW1).wide (Nat.le_refl _) bW1.size) hx (by omega)
    rw [hrr] at n2
    go_wp2_with fail
    refine n2.mono ?_
    rintro e w2 ⟨r2, rfl, q2, b2⟩
    clear n2
    obtain ⟨s2, rfl, a2, c2, rfl, _⟩ := id q2
    obtain ⟨W2, E2, B2, X2, S2⟩ := Blk.new w2 24 #[.int .i64 rr.place, .bool rr.yes, .slice a2 rr.ws.length c2]
    have bW2 := below_on bW1 (below_on b2 B2)
    have n3 := hRS (.slice a xs.length c) xs W2 ((h.far bW2).wide (Nat.le_refl _) bW2.size) hx (by omega)
    go_wp2_with fail
    refine n3.mono ?_
    rintro e w3 ⟨r3, rfl, q3, b3⟩
    clear n3
    generalize hss : sinS xs = ss at q3
    obtain ⟨u0, u1, u2, u3, rfl, ⟨i0, j0, rfl, _⟩, ⟨i1, j1, rfl, _⟩, ⟨i2, j2, rfl, _⟩, ⟨i3, j3, rfl, _⟩⟩ := id q3
    obtain ⟨W3, E3, B3, X3, S3⟩ := Blk.new w3 30 #[.int .i64 ss.place, .slice i0 ss.items.length j0, .slice i1 ss.l0.length j1, .slice i2 ss.l1.length j2, .slice i3 ss.l2.length j3, .int .i64 ss.c0, .int .i64 ss.c1, .int .i64 ss.c2]
    have bW3 := below_on bW2 (below_on b3 B3)
    have n4 := hRS' (.slice a xs.length c) xs W3 ((h.far bW3).wide (Nat.le_refl _) bW3.size) hx (by omega)
    rw [hss] at n4
    go_wp2_with fail
    refine n4.mono ?_
    rintro e w4 ⟨r4, rfl, q4, b4⟩
    clear n4
    obtain ⟨v0, v1, v2, v3, rfl, ⟨k0, l0, rfl, _⟩, ⟨k1, l1, rfl, _⟩, ⟨k2, l2, rfl, _⟩, ⟨k3, l3, rfl, _⟩⟩ := id q4
    obtain ⟨W4, E4, B4, X4, S4⟩ := Blk.new w4 30 #[.int .i64 ss.place, .slice k0 ss.items.length l0, .slice k1 ss.l0.length l1, .slice k2 ss.l1.length l2, .slice k3 ss.l2.length l3, .int .i64 ss.c0, .int .i64 ss.c1, .int .i64 ss.c2]
    have bW4 := below_on bW3 (below_on b4 B4)
    have b14 : Below w1.heap.size w1 W4 := below_on B1 (below_on (below_on b2 B2) (below_on (below_on b3 B3) (below_on b4 B4)))
    have b24 : Below w2.heap.size w2 W4 := below_on B2 (below_on (below_on b3 B3) (below_on b4 B4))
    have b34 : Below w3.heap.size w3 W4 := below_on B3 (below_on b4 B4)
    have Y1 := X1.far (below_on (below_on b2 B2) (below_on (below_on b3 B3) (below_on b4 B4))) (by omega)
    have Y2 := X2.far (below_on (below_on b3 B3) (below_on b4 B4)) (by omega)
    have Y3 := X3.far (below_on b4 B4) (by omega)
    obtain ⟨m0, m1, m2⟩ := Y1.rec_
    obtain ⟨p0, p1, p2⟩ := Y2.rec_
    have hr := inR_in hx
    rw [hrr] at hr
    have n5 := hE' (.agg #[.int .i64 rr.place, .bool rr.yes, .slice a1 rr.ws.length c1]) (.agg #[.int .i64 rr.place, .bool rr.yes, .slice a2 rr.ws.length c2]) rr rr W4 ((q1.far b14).wide (Nat.zero_le _) b14.size) ((q2.far b24).wide (Nat.zero_le _) b24.size) hr hr
    rw [(sameR_iff rr rr).2 rfl] at n5
    go_wp2_with fail
    refine n5.mono ?_
    rintro e w5 ⟨rfl, b5⟩
    clear n5 m0 m1 m2 p0 p1 p2
    have Z3 := Y3.far b5 (by have := b4.size; omega)
    have Z4 := X4.far b5 (by omega)
    obtain ⟨m0, m1, m2, m3, m4, m5, m6, m7⟩ := Z3.st_
    obtain ⟨p0, p1, p2, p3, p4, p5, p6, p7⟩ := Z4.st_
    have hs := sinS_in hx
    rw [hss] at hs
    have b35 := below_on b34 b5
    have b45 := below_on B4 b5
    have n6 := hES' (.agg #[.int .i64 ss.place, .slice i0 ss.items.length j0, .slice i1 ss.l0.length j1, .slice i2 ss.l1.length j2, .slice i3 ss.l2.length j3, .int .i64 ss.c0, .int .i64 ss.c1, .int .i64 ss.c2]) (.agg #[.int .i64 ss.place, .slice k0 ss.items.length l0, .slice k1 ss.l0.length l1, .slice k2 ss.l1.length l2, .slice k3 ss.l2.length l3, .int .i64 ss.c0, .int .i64 ss.c1, .int .i64 ss.c2]) ss ss w5 ((q3.far b35).wide (Nat.zero_le _) b35.size) ((q4.far b45).wide (Nat.zero_le _) b45.size) hs hs
    rw [(sameS_iff ss ss).2 rfl] at n6
    have t1 : (inE xs == inE xs) = true := by simp
    have t2 : (sinE xs == sinE xs) = true := by simp
    go_wp2_with fail
    refine n6.mono ?_
    rintro e w6 ⟨rfl, b6⟩
    have n7 := wakes_any hB hR hS w6
    go_wp2_with fail
    refine n7.mono ?_
    rintro e w7 ⟨rfl, b7⟩
    go_wp2
    go_ret
    exact ⟨rfl, below_on bW4 (below_on b5 (below_on b6 b7))⟩
end Go.Proofs.Ytmbphhcgmdaoeaa
