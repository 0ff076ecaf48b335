/- What is proved: the statement RecordTells walked over any functions that answer as the specs say. -/
import Derived.Test.YtmbphhcgmdaoeaaRcN
import Derived.Deep.RegionHeld3
namespace Go.Proofs.Ytmbphhcgmdaoeaa
open Go.RowKit

theorem great_any (p : Int) (a0 a1 a2 a3 : Option Addr) (n0 n1 n2 n3 c0 c1 c2 c3 : Nat) (k0 k1 k2 : Int) (w : World) :
    Calls Try.prog 11 #[.agg #[.int .i64 p, .slice a0 n0 c0, .slice a1 n1 c1, .slice a2 n2 c2, .slice a3 n3 c3, .int .i64 k0, .int .i64 k1, .int .i64 k2]] w
      fun e w' => e = .returned (.bool (decide (60 < (n0 : Int) ∨ 40 < (n1 : Int) ∨ 40 < (n2 : Int) ∨ 40 < (n3 : Int)))) ∧ Below w.heap.size w w' := by
  obtain ⟨W1, E1, B1, X1, S1⟩ := Blk.new w 30 #[.int .i64 p, .slice a0 n0 c0, .slice a1 n1 c1, .slice a2 n2 c2, .slice a3 n3 c3, .int .i64 k0, .int .i64 k1, .int .i64 k2]
  obtain ⟨m0, m1, m2, m3, m4, m5, m6, m7⟩ := X1.st_
  by_cases h0 : 60 < (n0 : Int)
  · go_enter Try.func11, Try.ntmps11
    go_wp2
    go_ret
    exact ⟨ret_bool (by symm; simp <;> omega), B1⟩
  · by_cases h1 : 40 < (n1 : Int)
    · go_enter Try.func11, Try.ntmps11
      go_wp2
      go_ret
      exact ⟨ret_bool (by symm; simp <;> omega), B1⟩
    · by_cases h2 : 40 < (n2 : Int)
      · go_enter Try.func11, Try.ntmps11
        go_wp2
        go_ret
        exact ⟨ret_bool (by symm; simp <;> omega), B1⟩
      · by_cases h3 : 40 < (n3 : Int)
        all_goals
          go_enter Try.func11, Try.ntmps11
          go_wp2
          go_ret
          exact ⟨ret_bool (by symm; simp <;> omega), B1⟩
set_option maxRecDepth 100000 in
set_option maxHeartbeats 3200000 in
theorem walkRecordTells (hB : BytesSpec 13) (hR : ReadSpec 27) (hS : StandsSpec 21) (hW : WrittenSpec 19) (hM : MaySpec 17)
    (hSB : StateBytesSpec 15) (hE : SameSpec 23) (hES : SameStateSpec 25)
    (hB' : BytesSpec 14) (hS' : StandsSpec 22) (hW' : WrittenSpec 20) (hM' : MaySpec 18)
    (hSB' : StateBytesSpec 16) (hE' : SameSpec 24) (hES' : SameStateSpec 26)
    (va vb vs vt : Value) (a b : Rc) (s t : St) (w : World) (ha : RecV w 0 w.heap.size va a) (hb : RecV w 0 w.heap.size vb b) (hs : StV w 0 w.heap.size vs s) (ht : StV w 0 w.heap.size vt t)
    (ia : a.ws.length ≤ 1000 → a.In) (ib : b.ws.length ≤ 1000 → b.In) (is_ : s.items.length ≤ 1000 → s.l0.length ≤ 1000 → s.l1.length ≤ 1000 → s.l2.length ≤ 1000 → s.In) (it : t.items.length ≤ 1000 → t.l0.length ≤ 1000 → t.l1.length ≤ 1000 → t.l2.length ≤ 1000 → t.In) :
    Calls Try.prog 3 #[va, vb, vs, vt] w fun e w' => e = .returned (.bool true) ∧ Below w.heap.size w w' := by
  obtain ⟨_, rfl, aa, ca, rfl, _⟩ := id ha
  obtain ⟨_, rfl, ab, cb, rfl, _⟩ := id hb
  obtain ⟨_, _, _, _, rfl, ⟨s0, d0, rfl, _⟩, ⟨s1, d1, rfl, _⟩, ⟨s2, d2, rfl, _⟩, ⟨s3, d3, rfl, _⟩⟩ := id hs
  obtain ⟨_, _, _, _, rfl, ⟨t0, f0, rfl, _⟩, ⟨t1, f1, rfl, _⟩, ⟨t2, f2, rfl, _⟩, ⟨t3, f3, rfl, _⟩⟩ := id ht
  obtain ⟨W1, E1, B1, X1, S1⟩ := Blk.new w 24 #[.int .i64 a.place, .bool a.yes, .slice aa a.ws.length ca]
  obtain ⟨W2, E2, B2, X2, S2⟩ := Blk.new W1 24 #[.int .i64 b.place, .bool b.yes, .slice ab b.ws.length cb]
  obtain ⟨W3, E3, B3, X3, S3⟩ := Blk.new W2 30 #[.int .i64 s.place, .slice s0 s.items.length d0, .slice s1 s.l0.length d1, .slice s2 s.l1.length d2, .slice s3 s.l2.length d3, .int .i64 s.c0, .int .i64 s.c1, .int .i64 s.c2]
  obtain ⟨W4, E4, B4, X4, S4⟩ := Blk.new W3 30 #[.int .i64 t.place, .slice t0 t.items.length f0, .slice t1 t.l0.length f1, .slice t2 t.l1.length f2, .slice t3 t.l2.length f3, .int .i64 t.c0, .int .i64 t.c1, .int .i64 t.c2]
  have b04 : Below w.heap.size w W4 := below_on B1 (below_on B2 (below_on B3 B4))
  have Y1 := X1.far (below_on B2 (below_on B3 B4)) (by omega)
  have Y2 := X2.far (below_on B3 B4) (by omega)
  have Y3 := X3.far B4 (by omega)
  have Y4 := X4
  rw [S1] at S2 Y2
  rw [S2] at S3 Y3
  rw [S3] at S4 Y4
  have kall := Lib.hid (show ∀ W' : World, Below W4.heap.size W4 W' → W'.cell? ⟨w.heap.size, 0, none⟩ = some (.int .i64 a.place) ∧ W'.cell? ⟨w.heap.size, 1, none⟩ = some (.bool a.yes) ∧ W'.cell? ⟨w.heap.size, 2, none⟩ = some (.slice aa a.ws.length ca) ∧ W'.cell? ⟨w.heap.size + 1, 0, none⟩ = some (.int .i64 b.place) ∧ W'.cell? ⟨w.heap.size + 1, 1, none⟩ = some (.bool b.yes) ∧ W'.cell? ⟨w.heap.size + 1, 2, none⟩ = some (.slice ab b.ws.length cb) ∧ W'.cell? ⟨w.heap.size + 1 + 1, 0, none⟩ = some (.int .i64 s.place) ∧ W'.cell? ⟨w.heap.size + 1 + 1, 1, none⟩ = some (.slice s0 s.items.length d0) ∧ W'.cell? ⟨w.heap.size + 1 + 1, 2, none⟩ = some (.slice s1 s.l0.length d1) ∧ W'.cell? ⟨w.heap.size + 1 + 1, 3, none⟩ = some (.slice s2 s.l1.length d2) ∧ W'.cell? ⟨w.heap.size + 1 + 1, 4, none⟩ = some (.slice s3 s.l2.length d3) ∧ W'.cell? ⟨w.heap.size + 1 + 1, 5, none⟩ = some (.int .i64 s.c0) ∧ W'.cell? ⟨w.heap.size + 1 + 1, 6, none⟩ = some (.int .i64 s.c1) ∧ W'.cell? ⟨w.heap.size + 1 + 1, 7, none⟩ = some (.int .i64 s.c2) ∧ W'.cell? ⟨w.heap.size + 1 + 1 + 1, 0, none⟩ = some (.int .i64 t.place) ∧ W'.cell? ⟨w.heap.size + 1 + 1 + 1, 1, none⟩ = some (.slice t0 t.items.length f0) ∧ W'.cell? ⟨w.heap.size + 1 + 1 + 1, 2, none⟩ = some (.slice t1 t.l0.length f1) ∧ W'.cell? ⟨w.heap.size + 1 + 1 + 1, 3, none⟩ = some (.slice t2 t.l1.length f2) ∧ W'.cell? ⟨w.heap.size + 1 + 1 + 1, 4, none⟩ = some (.slice t3 t.l2.length f3) ∧ W'.cell? ⟨w.heap.size + 1 + 1 + 1, 5, none⟩ = some (.int .i64 t.c0) ∧ W'.cell? ⟨w.heap.size + 1 + 1 + 1, 6, none⟩ = some (.int .i64 t.c1) ∧ W'.cell? ⟨w.heap.size + 1 + 1 + 1, 7, none⟩ = some (.int .i64 t.c2) from fun W' hb => ⟨(Y1.far hb (by omega)).cell 0, (Y1.far hb (by omega)).cell 1, (Y1.far hb (by omega)).cell 2, (Y2.far hb (by omega)).cell 0, (Y2.far hb (by omega)).cell 1, (Y2.far hb (by omega)).cell 2, (Y3.far hb (by omega)).cell 0, (Y3.far hb (by omega)).cell 1, (Y3.far hb (by omega)).cell 2, (Y3.far hb (by omega)).cell 3, (Y3.far hb (by omega)).cell 4, (Y3.far hb (by omega)).cell 5, (Y3.far hb (by omega)).cell 6, (Y3.far hb (by omega)).cell 7, (Y4.far hb (by omega)).cell 0, (Y4.far hb (by omega)).cell 1, (Y4.far hb (by omega)).cell 2, (Y4.far hb (by omega)).cell 3, (Y4.far hb (by omega)).cell 4, (Y4.far hb (by omega)).cell 5, (Y4.far hb (by omega)).cell 6, (Y4.far hb (by omega)).cell 7⟩)
  have HA := Lib.hid ha
  have HB := Lib.hid hb
  have HS := Lib.hid hs
  have HT := Lib.hid ht
  have bb : Below W4.heap.size W4 W4 := Below.refl _ _
  clear X1 X2 X3 X4 Y1 Y2 Y3 Y4 B1 B2 B3 B4 ha hb hs ht
  obtain ⟨z0, z1, z2, z3, z4, z5, z6, z7, z8, z9, z10, z11, z12, z13, z14, z15, z16, z17, z18, z19, z20, z21⟩ := kall.out W4 bb
  have n0 := greatw_any aa a.ws.length ca W4
  have n1 := greatw_any ab b.ws.length cb W4
  have n2 := great_any s.place s0 s1 s2 s3 s.items.length s.l0.length s.l1.length s.l2.length d0 d1 d2 d3 s.c0 s.c1 s.c2 W4
  by_cases g1 : 40 < (a.ws.length : Int)
  · rw [decide_eq_true g1] at n0
    clear n1 n2
    go_enter Try.func3, Try.ntmps3
    go_wp2_with fail
    refine n0.mono ?_
    rintro e w5 ⟨rfl, rfl⟩
    have n9 := wakes_any hB hR hS W4
    go_wp2_with fail
    refine n9.mono ?_
    rintro e w9 ⟨rfl, b9⟩
    go_wp2
    go_ret
    exact ⟨rfl, below_on b04 b9⟩
  rw [decide_eq_false g1] at n0
  by_cases g2 : 40 < (b.ws.length : Int)
  · rw [decide_eq_true g2] at n1
    clear n2
    go_enter Try.func3, Try.ntmps3
    go_wp2_with fail
    refine n0.mono ?_
    rintro e w5 ⟨rfl, rfl⟩
    go_wp2_with fail
    refine n1.mono ?_
    rintro e w5 ⟨rfl, rfl⟩
    have n9 := wakes_any hB hR hS W4
    go_wp2_with fail
    refine n9.mono ?_
    rintro e w9 ⟨rfl, b9⟩
    go_wp2
    go_ret
    exact ⟨rfl, below_on b04 b9⟩
  rw [decide_eq_false g2] at n1
  by_cases g3 : (60 < (s.items.length : Int) ∨ 40 < (s.l0.length : Int) ∨ 40 < (s.l1.length : Int) ∨ 40 < (s.l2.length : Int))
  · rw [decide_eq_true g3] at n2
    go_enter Try.func3, Try.ntmps3
    go_wp2_with fail
    refine n0.mono ?_
    rintro e w5 ⟨rfl, rfl⟩
    go_wp2_with fail
    refine n1.mono ?_
    rintro e w5 ⟨rfl, rfl⟩
    go_wp2_with fail
    refine n2.mono ?_
    rintro e w5 ⟨rfl, b5⟩
    have b05 := below_on b04 b5
    have n9 := wakes_any hB hR hS w5
    go_wp2_with fail
    refine n9.mono ?_
    rintro e w9 ⟨rfl, b9⟩
    go_wp2
    go_ret
    exact ⟨rfl, below_on b05 b9⟩
  rw [decide_eq_false g3] at n2
  go_enter Try.func3, Try.ntmps3
  go_wp2_with fail
  refine n0.mono ?_
  rintro e w5 ⟨rfl, rfl⟩
  go_wp2_with fail
  refine n1.mono ?_
  rintro e w5 ⟨rfl, rfl⟩
  go_wp2_with fail
  refine n2.mono ?_
  rintro e w5 ⟨rfl, b5⟩
  have b05 := below_on b04 b5
  have bb5 := below_on bb b5
  have n3 := great_any t.place t0 t1 t2 t3 t.items.length t.l0.length t.l1.length t.l2.length f0 f1 f2 f3 t.c0 t.c1 t.c2 w5
  clear n0 n1 n2 z0 z1 z2 z3 z4 z5 z6 z7 z8 z9 z10 z11 z12 z13 z14 z15 z16 z17 z18 z19 z20 z21
  obtain ⟨z0, z1, z2, z3, z4, z5, z6, z7, z8, z9, z10, z11, z12, z13, z14, z15, z16, z17, z18, z19, z20, z21⟩ := kall.out w5 bb5
  by_cases g4 : (60 < (t.items.length : Int) ∨ 40 < (t.l0.length : Int) ∨ 40 < (t.l1.length : Int) ∨ 40 < (t.l2.length : Int))
  · rw [decide_eq_true g4] at n3
    go_wp2_with fail
    refine n3.mono ?_
    rintro e w6 ⟨rfl, b6⟩
    have b06 := below_on b05 b6
    have n9 := wakes_any hB hR hS w6
    go_wp2_with fail
    refine n9.mono ?_
    rintro e w9 ⟨rfl, b9⟩
    go_wp2
    go_ret
    exact ⟨rfl, below_on b06 b9⟩
  rw [decide_eq_false g4] at n3
  go_wp2_with fail
  refine n3.mono ?_
  rintro e w6 ⟨rfl, b6⟩
  have b06 := below_on b05 b6
  have bb6 := below_on bb5 b6
  clear n3 z0 z1 z2 z3 z4 z5 z6 z7 z8 z9 z10 z11 z12 z13 z14 z15 z16 z17 z18 z19 z20 z21
  obtain ⟨z0, z1, z2, z3, z4, z5, z6, z7, z8, z9, z10, z11, z12, z13, z14, z15, z16, z17, z18, z19, z20, z21⟩ := kall.out w6 bb6
  have IA := ia (by omega)
  have IB := ib (by omega)
  have IS := is_ (by omega) (by omega) (by omega) (by omega)
  have IT := it (by omega) (by omega) (by omega) (by omega)
  have n7 := hB (.agg #[.int .i64 a.place, .bool a.yes, .slice aa a.ws.length ca]) a w6 ((HA.out.far b06).wide (Nat.le_refl _) b06.size) IA
  go_wp2_with fail
  refine n7.mono ?_
  rintro e w7 ⟨x, rfl, qx, b7⟩
  have b07 := below_on b06 b7
  have bb7 := below_on bb6 b7
  clear n7 z0 z1 z2 z3 z4 z5 z6 z7 z8 z9 z10 z11 z12 z13 z14 z15 z16 z17 z18 z19 z20 z21
  obtain ⟨z0, z1, z2, z3, z4, z5, z6, z7, z8, z9, z10, z11, z12, z13, z14, z15, z16, z17, z18, z19, z20, z21⟩ := kall.out w7 bb7
  have n8 := hB' (.agg #[.int .i64 a.place, .bool a.yes, .slice aa a.ws.length ca]) a w7 ((HA.out.far b07).wide (Nat.le_refl _) b07.size) IA
  go_wp2_with fail
  refine n8.mono ?_
  rintro e w8 ⟨y, rfl, qy, b8⟩
  have b08 := below_on b07 b8
  have bb8 := below_on bb7 b8
  clear n8 z0 z1 z2 z3 z4 z5 z6 z7 z8 z9 z10 z11 z12 z13 z14 z15 z16 z17 z18 z19 z20 z21
  obtain ⟨z0, z1, z2, z3, z4, z5, z6, z7, z8, z9, z10, z11, z12, z13, z14, z15, z16, z17, z18, z19, z20, z21⟩ := kall.out w8 bb8
  have n9 := hSB (.agg #[.int .i64 s.place, .slice s0 s.items.length d0, .slice s1 s.l0.length d1, .slice s2 s.l1.length d2, .slice s3 s.l2.length d3, .int .i64 s.c0, .int .i64 s.c1, .int .i64 s.c2]) s w8 ((HS.out.far b08).wide (Nat.le_refl _) b08.size) IS
  go_wp2_with fail
  refine n9.mono ?_
  rintro e w9 ⟨u, rfl, qu, b9⟩
  have b09 := below_on b08 b9
  have bb9 := below_on bb8 b9
  clear n9 z0 z1 z2 z3 z4 z5 z6 z7 z8 z9 z10 z11 z12 z13 z14 z15 z16 z17 z18 z19 z20 z21
  obtain ⟨z0, z1, z2, z3, z4, z5, z6, z7, z8, z9, z10, z11, z12, z13, z14, z15, z16, z17, z18, z19, z20, z21⟩ := kall.out w9 bb9
  have n10 := hSB' (.agg #[.int .i64 s.place, .slice s0 s.items.length d0, .slice s1 s.l0.length d1, .slice s2 s.l1.length d2, .slice s3 s.l2.length d3, .int .i64 s.c0, .int .i64 s.c1, .int .i64 s.c2]) s w9 ((HS.out.far b09).wide (Nat.le_refl _) b09.size) IS
  go_wp2_with fail
  refine n10.mono ?_
  rintro e w10 ⟨v, rfl, qv, b10⟩
  have b010 := below_on b09 b10
  have bb10 := below_on bb9 b10
  clear n10 z0 z1 z2 z3 z4 z5 z6 z7 z8 z9 z10 z11 z12 z13 z14 z15 z16 z17 z18 z19 z20 z21
  obtain ⟨z0, z1, z2, z3, z4, z5, z6, z7, z8, z9, z10, z11, z12, z13, z14, z15, z16, z17, z18, z19, z20, z21⟩ := kall.out w10 bb10
  have c1 := str_of (qx.far (below_on b8 (below_on b9 b10)))
  have c2 := str_of (qy.far (below_on b9 b10))
  have c3 := str_of (qu.far b10)
  have c4 := str_of qv
  have e1 : ((strOfNums (outB a)).toList == (strOfNums (outB a)).toList) = true := by simp
  have e2 : ((strOfNums (souB s)).toList == (strOfNums (souB s)).toList) = true := by simp
  have e3 : (outE a == outE a) = true := by simp
  have e4 : (souE s == souE s) = true := by simp
  generalize strOfNums (outB a) = sa at c1 c2 e1
  generalize strOfNums (souB s) = ss at c3 c4 e2
  go_wp2_with fail
  have kW := Lib.hid (show ∀ W' : World, Below w10.heap.size w10 W' → W'.cell? ⟨w.heap.size, 0, none⟩ = some (.int .i64 a.place) ∧ W'.cell? ⟨w.heap.size, 1, none⟩ = some (.bool a.yes) ∧ W'.cell? ⟨w.heap.size, 2, none⟩ = some (.slice aa a.ws.length ca) ∧ W'.cell? ⟨w.heap.size + 1, 0, none⟩ = some (.int .i64 b.place) ∧ W'.cell? ⟨w.heap.size + 1, 1, none⟩ = some (.bool b.yes) ∧ W'.cell? ⟨w.heap.size + 1, 2, none⟩ = some (.slice ab b.ws.length cb) ∧ W'.cell? ⟨w.heap.size + 1 + 1, 0, none⟩ = some (.int .i64 s.place) ∧ W'.cell? ⟨w.heap.size + 1 + 1, 1, none⟩ = some (.slice s0 s.items.length d0) ∧ W'.cell? ⟨w.heap.size + 1 + 1, 2, none⟩ = some (.slice s1 s.l0.length d1) ∧ W'.cell? ⟨w.heap.size + 1 + 1, 3, none⟩ = some (.slice s2 s.l1.length d2) ∧ W'.cell? ⟨w.heap.size + 1 + 1, 4, none⟩ = some (.slice s3 s.l2.length d3) ∧ W'.cell? ⟨w.heap.size + 1 + 1, 5, none⟩ = some (.int .i64 s.c0) ∧ W'.cell? ⟨w.heap.size + 1 + 1, 6, none⟩ = some (.int .i64 s.c1) ∧ W'.cell? ⟨w.heap.size + 1 + 1, 7, none⟩ = some (.int .i64 s.c2) ∧ W'.cell? ⟨w.heap.size + 1 + 1 + 1, 0, none⟩ = some (.int .i64 t.place) ∧ W'.cell? ⟨w.heap.size + 1 + 1 + 1, 1, none⟩ = some (.slice t0 t.items.length f0) ∧ W'.cell? ⟨w.heap.size + 1 + 1 + 1, 2, none⟩ = some (.slice t1 t.l0.length f1) ∧ W'.cell? ⟨w.heap.size + 1 + 1 + 1, 3, none⟩ = some (.slice t2 t.l1.length f2) ∧ W'.cell? ⟨w.heap.size + 1 + 1 + 1, 4, none⟩ = some (.slice t3 t.l2.length f3) ∧ W'.cell? ⟨w.heap.size + 1 + 1 + 1, 5, none⟩ = some (.int .i64 t.c0) ∧ W'.cell? ⟨w.heap.size + 1 + 1 + 1, 6, none⟩ = some (.int .i64 t.c1) ∧ W'.cell? ⟨w.heap.size + 1 + 1 + 1, 7, none⟩ = some (.int .i64 t.c2) ∧ Below w10.heap.size w10 W' from fun W' hb => by
    obtain ⟨y0, y1, y2, y3, y4, y5, y6, y7, y8, y9, y10, y11, y12, y13, y14, y15, y16, y17, y18, y19, y20, y21⟩ := kall.out W' (below_on bb10 hb)
    exact ⟨y0, y1, y2, y3, y4, y5, y6, y7, y8, y9, y10, y11, y12, y13, y14, y15, y16, y17, y18, y19, y20, y21, hb⟩)
  have RA := Lib.hid (show ∀ W' : World, Below w10.heap.size w10 W' → RecV W' 0 W'.heap.size (.agg #[.int .i64 a.place, .bool a.yes, .slice aa a.ws.length ca]) a from fun W' h => (HA.out.far (below_on b010 h)).wide (Nat.le_refl _) (below_on b010 h).size)
  have RB := Lib.hid (show ∀ W' : World, Below w10.heap.size w10 W' → RecV W' 0 W'.heap.size (.agg #[.int .i64 b.place, .bool b.yes, .slice ab b.ws.length cb]) b from fun W' h => (HB.out.far (below_on b010 h)).wide (Nat.le_refl _) (below_on b010 h).size)
  have RS := Lib.hid (show ∀ W' : World, Below w10.heap.size w10 W' → StV W' 0 W'.heap.size (.agg #[.int .i64 s.place, .slice s0 s.items.length d0, .slice s1 s.l0.length d1, .slice s2 s.l1.length d2, .slice s3 s.l2.length d3, .int .i64 s.c0, .int .i64 s.c1, .int .i64 s.c2]) s from fun W' h => (HS.out.far (below_on b010 h)).wide (Nat.le_refl _) (below_on b010 h).size)
  have RT := Lib.hid (show ∀ W' : World, Below w10.heap.size w10 W' → StV W' 0 W'.heap.size (.agg #[.int .i64 t.place, .slice t0 t.items.length f0, .slice t1 t.l0.length f1, .slice t2 t.l1.length f2, .slice t3 t.l2.length f3, .int .i64 t.c0, .int .i64 t.c1, .int .i64 t.c2]) t from fun W' h => (HT.out.far (below_on b010 h)).wide (Nat.le_refl _) (below_on b010 h).size)
  have RW := Lib.hid (show ∀ W' : World, Below w10.heap.size w10 W' → Sl 2 W' 0 W'.heap.size (.slice aa a.ws.length ca) a.ws.length (wrC a.ws) from fun W' h => by
    obtain ⟨_, e, h2⟩ := RA.out W' h
    cases e
    exact h2)
  have la : a.ws.length ≤ 1000 := by omega
  clear qx qy qu qv c1 c2 c3 c4 kall bb10 bb9 bb8 bb7 bb6 bb5 bb
  go_region_held3 (fun W' => W'.cell? ⟨w.heap.size, 0, none⟩ = some (.int .i64 a.place) ∧ W'.cell? ⟨w.heap.size, 1, none⟩ = some (.bool a.yes) ∧ W'.cell? ⟨w.heap.size, 2, none⟩ = some (.slice aa a.ws.length ca) ∧ W'.cell? ⟨w.heap.size + 1, 0, none⟩ = some (.int .i64 b.place) ∧ W'.cell? ⟨w.heap.size + 1, 1, none⟩ = some (.bool b.yes) ∧ W'.cell? ⟨w.heap.size + 1, 2, none⟩ = some (.slice ab b.ws.length cb) ∧ W'.cell? ⟨w.heap.size + 1 + 1, 0, none⟩ = some (.int .i64 s.place) ∧ W'.cell? ⟨w.heap.size + 1 + 1, 1, none⟩ = some (.slice s0 s.items.length d0) ∧ W'.cell? ⟨w.heap.size + 1 + 1, 2, none⟩ = some (.slice s1 s.l0.length d1) ∧ W'.cell? ⟨w.heap.size + 1 + 1, 3, none⟩ = some (.slice s2 s.l1.length d2) ∧ W'.cell? ⟨w.heap.size + 1 + 1, 4, none⟩ = some (.slice s3 s.l2.length d3) ∧ W'.cell? ⟨w.heap.size + 1 + 1, 5, none⟩ = some (.int .i64 s.c0) ∧ W'.cell? ⟨w.heap.size + 1 + 1, 6, none⟩ = some (.int .i64 s.c1) ∧ W'.cell? ⟨w.heap.size + 1 + 1, 7, none⟩ = some (.int .i64 s.c2) ∧ W'.cell? ⟨w.heap.size + 1 + 1 + 1, 0, none⟩ = some (.int .i64 t.place) ∧ W'.cell? ⟨w.heap.size + 1 + 1 + 1, 1, none⟩ = some (.slice t0 t.items.length f0) ∧ W'.cell? ⟨w.heap.size + 1 + 1 + 1, 2, none⟩ = some (.slice t1 t.l0.length f1) ∧ W'.cell? ⟨w.heap.size + 1 + 1 + 1, 3, none⟩ = some (.slice t2 t.l1.length f2) ∧ W'.cell? ⟨w.heap.size + 1 + 1 + 1, 4, none⟩ = some (.slice t3 t.l2.length f3) ∧ W'.cell? ⟨w.heap.size + 1 + 1 + 1, 5, none⟩ = some (.int .i64 t.c0) ∧ W'.cell? ⟨w.heap.size + 1 + 1 + 1, 6, none⟩ = some (.int .i64 t.c1) ∧ W'.cell? ⟨w.heap.size + 1 + 1 + 1, 7, none⟩ = some (.int .i64 t.c2) ∧ Below w10.heap.size w10 W')
    (first
      | exact kW.out _ ((Below.refl _ _).drew)
      | exact kW.out _ (Below.drew (by assumption))
      | exact kW.out _ (Below.trans (by assumption) (hbx.mono (Below.size (by assumption)))))
    (first
      | (go_at_call 17; go_split_ands; refine (hM _ a _ (RA.out _ (by assumption)) IA).mono ?_; rintro e w' ⟨rfl, hbx⟩)
      | (go_at_call 18; go_split_ands; refine (hM' _ a _ (RA.out _ (by assumption)) IA).mono ?_; rintro e w' ⟨rfl, hbx⟩)
      | (go_at_call 19; go_split_ands; refine (hW _ a.ws _ (RW.out _ (by assumption)) IA.2.1 la).mono ?_; rintro e w' ⟨rfl, hbx⟩)
      | (go_at_call 20; go_split_ands; refine (hW' _ a.ws _ (RW.out _ (by assumption)) IA.2.1 la).mono ?_; rintro e w' ⟨rfl, hbx⟩)
      | (go_at_call 21; go_split_ands; refine (hS _ s _ (RS.out _ (by assumption)) IS).mono ?_; rintro e w' ⟨rfl, hbx⟩)
      | (go_at_call 22; go_split_ands; refine (hS' _ s _ (RS.out _ (by assumption)) IS).mono ?_; rintro e w' ⟨rfl, hbx⟩)
      | (go_at_call 23; go_split_ands; refine (hE _ _ a b _ (RA.out _ (by assumption)) (RB.out _ (by assumption)) IA IB).mono ?_; rintro e w' ⟨rfl, hbx⟩)
      | (go_at_call 24; go_split_ands; refine (hE' _ _ a b _ (RA.out _ (by assumption)) (RB.out _ (by assumption)) IA IB).mono ?_; rintro e w' ⟨rfl, hbx⟩)
      | (go_at_call 25; go_split_ands; refine (hES _ _ s t _ (RS.out _ (by assumption)) (RT.out _ (by assumption)) IS IT).mono ?_; rintro e w' ⟨rfl, hbx⟩)
      | (go_at_call 26; go_split_ands; refine (hES' _ _ s t _ (RS.out _ (by assumption)) (RT.out _ (by assumption)) IS IT).mono ?_; rintro e w' ⟨rfl, hbx⟩)
      | (go_at_call 12; go_split_ands; refine (wakes_any hB hR hS _).mono ?_; rintro e w' ⟨rfl, hbx⟩))
  go_split_ands
  go_wp2
  go_ret
  refine ⟨rfl, b010.trans (Below.mono (w := w10) ?_ b010.size)⟩
  first | assumption | exact Below.trans (by assumption) (Below.mono (by assumption) (Below.size (by assumption)))
end Go.Proofs.Ytmbphhcgmdaoeaa
