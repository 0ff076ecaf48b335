/- What is proved: the statement RecordBack walked over any functions that answer as the specs say. -/
import Derived.Test.YtfnoaagnemccmaaRcT
import Derived.Deep.DeepCutAuto
namespace Go.Proofs.Ytfnoaagnemccmaa
open Go.RowKit

theorem soutE_two (s : St) : (souE s = 0 ∧ stands s = true ∧ souB s = stE s) ∨ (souE s = 2 ∧ stands s = false ∧ souB s = []) := by
  unfold souE souB
  rcases h : stands s with _ | _
  · exact .inr ⟨rfl, rfl, rfl⟩
  · exact .inl ⟨rfl, rfl, rfl⟩
theorem outE_two' (r : Rc) : (outE r = 0 ∧ mayB r = true ∧ outB r = recB r) ∨ (outE r = 2 ∧ mayB r = false ∧ outB r = []) := by
  unfold outE outB
  rcases h : mayB r with _ | _
  · exact .inr ⟨rfl, rfl, rfl⟩
  · exact .inl ⟨rfl, rfl, rfl⟩
set_option maxRecDepth 100000 in
set_option maxHeartbeats 3200000 in
theorem walkRecordBack (hB : BytesSpec 13) (hR : ReadSpec 27) (hS : StandsSpec 21)
    (hSB : StateBytesSpec 15) (hRS : ReadStateSpec 29) (hE : SameSpec 23) (hES : SameStateSpec 25)
    (vr vs v : Value) (r : Rc) (s : St) (xs : List Int) (w : World) (hr : RecV w 0 w.heap.size vr r) (hs : StV w 0 w.heap.size vs s) (h : Bt w 0 w.heap.size v xs)
    (ir : r.ws.length ≤ 1000 → r.In) (is_ : s.items.length ≤ 1000 → s.l0.length ≤ 1000 → s.l1.length ≤ 1000 → s.l2.length ≤ 1000 → s.In) (hx : IsBytes xs) (hsz : xs.length ≤ 140737488351232) :
    Calls Try.prog 5 #[vr, vs, v] w fun e w' => e = .returned (.bool true) ∧ Below w.heap.size w w' := by
  obtain ⟨_, rfl, aa, ca, rfl, _⟩ := id hr
  obtain ⟨_, _, _, _, rfl, ⟨s0, d0, rfl, _⟩, ⟨s1, d1, rfl, _⟩, ⟨s2, d2, rfl, _⟩, ⟨s3, d3, rfl, _⟩⟩ := id hs
  obtain ⟨a, c, rfl, hnc, hcm⟩ := h.le
  obtain ⟨W1, E1, B1, X1, S1⟩ := Blk.new w 24 #[.int .i64 r.place, .bool r.yes, .slice aa r.ws.length ca]
  obtain ⟨W2, E2, B2, X2, S2⟩ := Blk.new W1 30 #[.int .i64 s.place, .slice s0 s.items.length d0, .slice s1 s.l0.length d1, .slice s2 s.l1.length d2, .slice s3 s.l2.length d3, .int .i64 s.c0, .int .i64 s.c1, .int .i64 s.c2]
  have b02 : Below w.heap.size w W2 := below_on B1 B2
  have Y1 := X1.far B2 (by omega)
  rw [S1] at S2 X2
  have n0 := greatw_any aa r.ws.length ca W2
  have hcell2 : W2.cell? ⟨w.heap.size, 2, none⟩ = some (.slice aa r.ws.length ca) := Y1.cell 2
  have n2 := great_any s.place s0 s1 s2 s3 s.items.length s.l0.length s.l1.length s.l2.length d0 d1 d2 d3 s.c0 s.c1 s.c2 W2
  obtain ⟨z0, z1, z2, z3, z4, z5, z6, z7⟩ := X2.st_
  by_cases g1 : 40 < (r.ws.length : Int)
  · rw [decide_eq_true g1] at n0
    have n9 := wakes_any hB hR hS W2
    go_enter Try.func5, Try.ntmps5
    go_wp2_with fail
    refine n0.mono ?_
    rintro e w5 ⟨rfl, rfl⟩
    go_wp2_with fail
    refine n9.mono ?_
    rintro e w9 ⟨rfl, b9⟩
    go_wp2
    go_ret
    exact ⟨rfl, below_on b02 b9⟩
  rw [decide_eq_false g1] at n0
  by_cases g3 : (60 < (s.items.length : Int) ∨ 40 < (s.l0.length : Int) ∨ 40 < (s.l1.length : Int) ∨ 40 < (s.l2.length : Int))
  · rw [decide_eq_true g3] at n2
    go_enter Try.func5, Try.ntmps5
    go_wp2_with fail
    refine n0.mono ?_
    rintro e w5 ⟨rfl, rfl⟩
    go_wp2_with fail
    refine n2.mono ?_
    rintro e w5 ⟨rfl, b5⟩
    have n9 := wakes_any hB hR hS w5
    go_wp2_with fail
    refine n9.mono ?_
    rintro e w9 ⟨rfl, b9⟩
    go_wp2
    go_ret
    exact ⟨rfl, below_on b02 (below_on b5 b9)⟩
  rw [decide_eq_false g3] at n2
  by_cases g4 : 2000 < (xs.length : Int)
  · go_enter Try.func5, Try.ntmps5
    go_wp2_with fail
    refine n0.mono ?_
    rintro e w5 ⟨rfl, rfl⟩
    go_wp2_with fail
    refine n2.mono ?_
    rintro e w5 ⟨rfl, b5⟩
    have n9 := wakes_any hB hR hS w5
    go_wp2_with fail
    refine n9.mono ?_
    rintro e w9 ⟨rfl, b9⟩
    go_wp2
    go_ret
    exact ⟨rfl, below_on b02 (below_on b5 b9)⟩
  have IR := ir (by omega)
  have IS := is_ (by omega) (by omega) (by omega) (by omega)
  have kr := Lib.hid (show ∀ W' : World, Below W2.heap.size W2 W' → W'.cell? ⟨w.heap.size, 0, none⟩ = some (.int .i64 r.place) ∧ W'.cell? ⟨w.heap.size, 1, none⟩ = some (.bool r.yes) ∧ W'.cell? ⟨w.heap.size, 2, none⟩ = some (.slice aa r.ws.length ca) from fun W' hb => ⟨(Y1.far hb (by omega)).cell 0, (Y1.far hb (by omega)).cell 1, (Y1.far hb (by omega)).cell 2⟩)
  have ks := Lib.hid (fun (W' : World) (hb : Below W2.heap.size W2 W') => (X2.far hb (by omega)).st_)
  have HR := Lib.hid (fun (W' : World) (hb : Below W2.heap.size W2 W') => (hr.far (below_on b02 hb)).wide (Nat.le_refl _) (below_on b02 hb).size)
  have HS := Lib.hid (fun (W' : World) (hb : Below W2.heap.size W2 W') => (hs.far (below_on b02 hb)).wide (Nat.le_refl _) (below_on b02 hb).size)
  have HX := Lib.hid (fun (W' : World) (hb : Below W2.heap.size W2 W') => (h.far (below_on b02 hb)).wide (Nat.le_refl _) (below_on b02 hb).size)
  go_enter Try.func5, Try.ntmps5
  go_wp2_with fail
  refine n0.mono ?_
  rintro e w5 ⟨rfl, rfl⟩
  go_wp2_with fail
  refine n2.mono ?_
  rintro e w5 ⟨rfl, b5⟩
  clear n0 n2 z0 z1 z2 z3 z4 z5 z6 z7 hcell2 hr hs h Y1 X1 X2
  obtain ⟨p0, p1, p2⟩ := kr.out w5 b5
  have n1 := hB _ r w5 (HR.out w5 b5) IR
  go_upto_if 39 with (go_at_call 13; refine n1.mono ?_; rintro e w6 ⟨x, rfl, qx, b6⟩)
  clear n1 p0 p1 p2
  have b06 := below_on b5 b6
  go_cut [8] (fun e8 wx => Below W2.heap.size W2 wx)
  case first =>
    rcases outE_two' r with ⟨e1, e2, e3⟩ | ⟨e1, e2, e3⟩
    · rw [e1]
      rw [e3] at qx
      obtain ⟨i1, i2⟩ := in_of e2
      have n3 := hR x (recB r) w6 (qx.wide (Nat.zero_le _) (Nat.le_refl _)) (isBytes_recB r) (by have := recB_short e2; omega)
      rw [i1, i2] at n3
      go_wp2_with fail
      refine n3.mono ?_
      rintro e w7 ⟨o, rfl, qo, b7⟩
      obtain ⟨_, rfl, ao, co, rfl, _⟩ := id qo
      obtain ⟨W7, E7, B7, X7, S7⟩ := Blk.new w7 24 #[.int .i64 r.place, .bool r.yes, .slice ao r.ws.length co]
      have b67 := below_on b7 B7
      have b07 := below_on b06 b67
      obtain ⟨p0, p1, p2⟩ := kr.out W7 b07
      have m0 : W7.cell? ⟨w7.heap.size, 0, none⟩ = some (.int .i64 r.place) := X7.cell 0
      have m1 : W7.cell? ⟨w7.heap.size, 1, none⟩ = some (.bool r.yes) := X7.cell 1
      have m2 : W7.cell? ⟨w7.heap.size, 2, none⟩ = some (.slice ao r.ws.length co) := X7.cell 2
      have n4 := hE _ _ r r W7 ((qo.far B7).wide (Nat.zero_le _) B7.size) (HR.out W7 b07) IR IR
      rw [(sameR_iff r r).2 rfl] at n4
      obtain ⟨ax, cx, rfl, _, _⟩ := qx.le
      have hlx : ((recB r).length : Int) ≤ 600 := by have := recB_short e2; omega
      clear n3
      go_wp2_with fail
      refine n4.mono ?_
      rintro e w8 ⟨rfl, b8⟩
      go_wp2
      go_meet
      exact below_on b07 b8
    · rw [e1]
      go_wp2
      go_meet
      exact b06
  case rest =>
  have b08 := hcut
  clear hcut b06 b6 b5 qx
  obtain ⟨z0, z1, z2, z3, z4, z5, z6, z7⟩ := ks.out wc b08
  have n1 := hSB _ s wc (HS.out wc b08) IS
  go_upto_if 64 with (go_at_call 15; refine n1.mono ?_; rintro e w6 ⟨y, rfl, qy, b6⟩)
  clear n1 z0 z1 z2 z3 z4 z5 z6 z7
  have b06 := below_on b08 b6
  go_cut [8] (fun e8 wx => Below W2.heap.size W2 wx)
  case first =>
    rcases soutE_two s with ⟨e1, e2, e3⟩ | ⟨e1, e2, e3⟩
    · rw [e1]
      rw [e3] at qy
      obtain ⟨i1, i2⟩ := sin_of e2
      have n3 := hRS y (stE s) w6 (qy.wide (Nat.zero_le _) (Nat.le_refl _)) (isBytes_stE s) (by have := stE_short e2; omega)
      rw [i1, i2] at n3
      go_wp2_with fail
      refine n3.mono ?_
      rintro e w7 ⟨o, rfl, qo, b7⟩
      obtain ⟨_, _, _, _, rfl, ⟨i0, j0, rfl, _⟩, ⟨i1', j1, rfl, _⟩, ⟨i2', j2, rfl, _⟩, ⟨i3, j3, rfl, _⟩⟩ := id qo
      obtain ⟨W7, E7, B7, X7, S7⟩ := Blk.new w7 30 #[.int .i64 s.place, .slice i0 s.items.length j0, .slice i1' s.l0.length j1, .slice i2' s.l1.length j2, .slice i3 s.l2.length j3, .int .i64 s.c0, .int .i64 s.c1, .int .i64 s.c2]
      have b67 := below_on b7 B7
      have b07 := below_on b06 b67
      obtain ⟨z0, z1, z2, z3, z4, z5, z6, z7⟩ := ks.out W7 b07
      obtain ⟨m0, m1, m2, m3, m4, m5, m6, m7⟩ := X7.st_
      have n4 := hES _ _ s s W7 ((qo.far B7).wide (Nat.zero_le _) B7.size) (HS.out W7 b07) IS IS
      rw [(sameS_iff s s).2 rfl] at n4
      obtain ⟨ax, cx, rfl, _, _⟩ := qy.le
      have hlx : ((stE s).length : Int) ≤ 600 := by have := stE_short e2; omega
      clear n3
      go_wp2_with fail
      refine n4.mono ?_
      rintro e w8 ⟨rfl, b8⟩
      go_wp2
      go_meet
      exact below_on b07 b8
    · rw [e1]
      go_wp2
      go_meet
      exact b06
  case rest =>
  have b18 := hcut
  clear hcut b06 b6 b08 qy
  have n1 := hR _ xs wc (HX.out wc b18) hx (by omega)
  go_upto_if 89 with (go_at_call 27; refine n1.mono ?_; rintro e w6 ⟨o, rfl, qo, b6⟩; obtain ⟨_, rfl, ao, co, rfl, _⟩ := id qo; obtain ⟨W7, E7, B7, X7, S7⟩ := Blk.new w6 24 #[.int .i64 (inR xs).place, .bool (inR xs).yes, .slice ao (inR xs).ws.length co])
  clear n1
  have b67 := below_on b6 B7
  have b07 := below_on b18 b67
  go_cut [8] (fun e8 wx => Below W2.heap.size W2 wx)
  case first =>
    rcases in_cases hx with ⟨g, e1, e2, e3, e4⟩ | ⟨e1, _, _⟩
    · rw [e1]
      rw [e2] at qo X7
      have m0 : W7.cell? ⟨w6.heap.size, 0, none⟩ = some (.int .i64 g.place) := X7.cell 0
      have m1 : W7.cell? ⟨w6.heap.size, 1, none⟩ = some (.bool g.yes) := X7.cell 1
      have m2 : W7.cell? ⟨w6.heap.size, 2, none⟩ = some (.slice ao g.ws.length co) := X7.cell 2
      have n4 := hB _ g W7 ((qo.far B7).wide (Nat.zero_le _) B7.size) (may_in e3)
      rw [show outE g = 0 by unfold outE; rw [e3]; rfl, show outB g = xs by unfold outB; rw [e3, ← e4]; rfl] at n4
      go_wp2_with fail
      refine n4.mono ?_
      rintro e w8 ⟨z, rfl, qz, b8⟩
      have c1 := str_of qz
      have b08 := below_on b07 b8
      have c2 := str_of (HX.out w8 b08)
      have zF : ((strOfNums xs).toList == (strOfNums xs).toList) = true := by simp
      generalize strOfNums xs = sF at c1 c2 zF
      go_wp2
      go_meet
      exact b08
    · rw [e1]
      go_wp2
      go_meet
      exact b07
  case rest =>
  have b28 := hcut
  clear hcut b67 b07 b18 b6 B7 X7 S7 E7 qo
  have n1 := hRS _ xs wc (HX.out wc b28) hx (by omega)
  go_upto_if 110 with (go_at_call 29; refine n1.mono ?_; rintro e w6' ⟨o, rfl, qo, b6⟩; obtain ⟨_, _, _, _, rfl, ⟨i0, j0, rfl, _⟩, ⟨i1, j1, rfl, _⟩, ⟨i2, j2, rfl, _⟩, ⟨i3, j3, rfl, _⟩⟩ := id qo; obtain ⟨W7, E7, B7, X7, S7⟩ := Blk.new w6' 30 #[.int .i64 (sinS xs).place, .slice i0 (sinS xs).items.length j0, .slice i1 (sinS xs).l0.length j1, .slice i2 (sinS xs).l1.length j2, .slice i3 (sinS xs).l2.length j3, .int .i64 (sinS xs).c0, .int .i64 (sinS xs).c1, .int .i64 (sinS xs).c2])
  clear n1
  have b67 := below_on b6 B7
  have b07 := below_on b28 b67
  go_cut [8] (fun e8 wx => Below W2.heap.size W2 wx)
  case first =>
    rcases sin_cases hx with ⟨g, e1, e2, e3, e4⟩ | ⟨e1, _, _⟩
    · rw [e1]
      rw [e2] at qo X7
      obtain ⟨m0, m1, m2, m3, m4, m5, m6, m7⟩ := X7.st_
      have n4 := hSB _ g W7 ((qo.far B7).wide (Nat.zero_le _) B7.size) (st_in e3)
      rw [show souE g = 0 by unfold souE; rw [e3]; rfl, show souB g = xs by unfold souB; rw [e3, ← e4]; rfl] at n4
      go_wp2_with fail
      refine n4.mono ?_
      rintro e w8 ⟨z, rfl, qz, b8⟩
      have c1 := str_of qz
      have b08 := below_on b07 b8
      have c2 := str_of (HX.out w8 b08)
      have zF : ((strOfNums xs).toList == (strOfNums xs).toList) = true := by simp
      generalize strOfNums xs = sF at c1 c2 zF
      go_wp2
      go_meet
      exact b08
    · rw [e1]
      go_wp2
      go_meet
      exact b07
  case rest =>
  have b38 := hcut
  have n9 := wakes_any hB hR hS wc
  go_wp2_with fail
  refine n9.mono ?_
  rintro e w9 ⟨rfl, b9⟩
  go_wp2
  go_ret
  exact ⟨rfl, below_on b02 (below_on b38 b9)⟩
end Go.Proofs.Ytfnoaagnemccmaa
