/- What is proved: the statement RecordFar walked over any functions that answer as the specs say. -/
import Derived.Test.YtmbphhcgmdaoeaaRcX
import Derived.Deep.DeepCutAuto
namespace Go.Proofs.Ytmbphhcgmdaoeaa
open Go.RowKit

theorem it_cells {w : World} {lo hi g o n : Nat} {l : List It} (h : Rg 3 w lo hi (some ⟨g, o, none⟩) n (itC l)) {k : Nat} (hk : k < l.length) :
    w.cell? ⟨g, o + k * 3, none⟩ = some (.int .i64 (l.getD k itD).key) ∧ w.cell? ⟨g, o + k * 3 + 1, none⟩ = some (.int .i64 (l.getD k itD).place) ∧ w.cell? ⟨g, o + k * 3 + 2, none⟩ = some (.int .i64 (l.getD k itD).val) := by
  obtain ⟨h1, h2⟩ := h
  rw [itC_len] at h1
  rcases h2 with h0 | ⟨g', o', e, _, _, hc⟩
  · omega
  cases e
  have hx : l.getD k itD = l[k] := getD_at (List.getElem?_eq_getElem hk)
  rw [hx]
  have h3 := fun j (hj : j < 3) => flat_at It.cells 3 (fun _ => rfl) l k j hk hj
  exact ⟨hc (k * 3) _ (h3 0 (by decide)), by rw [Nat.add_assoc]; exact hc (k * 3 + 1) _ (h3 1 (by decide)), by rw [Nat.add_assoc]; exact hc (k * 3 + 2) _ (h3 2 (by decide))⟩
theorem ln_cells {w : World} {lo hi g o n : Nat} {l : List Ln} (h : Rg 5 w lo hi (some ⟨g, o, none⟩) n (lnC l)) {k : Nat} (hk : k < l.length) :
    w.cell? ⟨g, o + k * 5, none⟩ = some (.int .i64 (l.getD k lnD).off) ∧ w.cell? ⟨g, o + k * 5 + 1, none⟩ = some (.int .i64 (l.getD k lnD).place) ∧ w.cell? ⟨g, o + k * 5 + 2, none⟩ = some (.int .i64 (l.getD k lnD).j) ∧ w.cell? ⟨g, o + k * 5 + 3, none⟩ = some (.int .i64 (l.getD k lnD).key) ∧ w.cell? ⟨g, o + k * 5 + 4, none⟩ = some (.int .i64 (l.getD k lnD).val) := by
  obtain ⟨h1, h2⟩ := h
  rw [lnC_len] at h1
  rcases h2 with h0 | ⟨g', o', e, _, _, hc⟩
  · omega
  cases e
  have hx : l.getD k lnD = l[k] := getD_at (List.getElem?_eq_getElem hk)
  rw [hx]
  have h3 := fun j (hj : j < 5) => flat_at Ln.cells 5 (fun _ => rfl) l k j hk hj
  exact ⟨hc (k * 5) _ (h3 0 (by decide)), by rw [Nat.add_assoc]; exact hc (k * 5 + 1) _ (h3 1 (by decide)), by rw [Nat.add_assoc]; exact hc (k * 5 + 2) _ (h3 2 (by decide)), by rw [Nat.add_assoc]; exact hc (k * 5 + 3) _ (h3 3 (by decide)), by rw [Nat.add_assoc]; exact hc (k * 5 + 4) _ (h3 4 (by decide))⟩
theorem Sl.addr {size : Nat} {w : World} {lo hi : Nat} {a : Option Addr} {n c m : Nat} {xs : List Value} (h : Sl size w lo hi (.slice a n c) m xs) (hm : 0 < m) : n = m ∧ m ≤ c ∧ ∃ g o, a = some ⟨g, o, none⟩ ∧ g < hi ∧ Rg size w lo hi (some ⟨g, o, none⟩) m xs := by
  obtain ⟨a', c', e, h1, h2, h3⟩ := h
  cases e
  obtain ⟨g, o, rfl, _, h5, _⟩ := h3.addr hm
  exact ⟨rfl, h1, g, o, rfl, h5, h3⟩
theorem max_if (a b : Int) : (if a < b then b else a) = max a b := by
  by_cases h : a < b
  · rw [if_pos h]; omega
  · rw [if_neg h]; omega
set_option maxRecDepth 100000 in
set_option maxHeartbeats 3200000 in
theorem walkRecordFar (hB : BytesSpec 13) (hR : ReadSpec 27) (hS : StandsSpec 21)
    (vs : Value) (s : St) (n : Int) (w : World) (hs : StV w 0 w.heap.size vs s) (is_ : s.items.length ≤ 1000 → s.l0.length ≤ 1000 → s.l1.length ≤ 1000 → s.l2.length ≤ 1000 → s.In) (_ : I64 n) :
    Calls Try.prog 8 #[vs, .int .i64 n] w fun e w' => e = .returned (.bool true) ∧ Below w.heap.size w w' := by
  obtain ⟨_, _, _, _, rfl, ⟨s0, d0, rfl, _⟩, ⟨s1, d1, rfl, _⟩, ⟨s2, d2, rfl, _⟩, ⟨s3, d3, rfl, _⟩⟩ := id hs
  obtain ⟨W1, E1, B1, X1, S1⟩ := Blk.new w 30 #[.int .i64 s.place, .slice s0 s.items.length d0, .slice s1 s.l0.length d1, .slice s2 s.l1.length d2, .slice s3 s.l2.length d3, .int .i64 s.c0, .int .i64 s.c1, .int .i64 s.c2]
  obtain ⟨z0, z1, z2, z3, z4, z5, z6, z7⟩ := X1.st_
  have n0 := great_any s.place s0 s1 s2 s3 s.items.length s.l0.length s.l1.length s.l2.length d0 d1 d2 d3 s.c0 s.c1 s.c2 W1
  by_cases g3 : (60 < (s.items.length : Int) ∨ 40 < (s.l0.length : Int) ∨ 40 < (s.l1.length : Int) ∨ 40 < (s.l2.length : Int))
  · rw [decide_eq_true g3] at n0
    go_enter Try.func8, Try.ntmps8
    go_wp2_with fail
    refine n0.mono ?_
    rintro e w5 ⟨rfl, b5⟩
    have n9 := wakes_any hB hR hS w5
    go_wp2_with fail
    refine n9.mono ?_
    rintro e w9 ⟨rfl, b9⟩
    go_wp2
    go_ret
    exact ⟨rfl, below_on B1 (below_on b5 b9)⟩
  rw [decide_eq_false g3] at n0
  have IS := is_ (by omega) (by omega) (by omega) (by omega)
  have ks := Lib.hid (fun (W' : World) (hb : Below W1.heap.size W1 W') => (X1.far hb (by omega)).st_)
  have HS := Lib.hid (fun (W' : World) (hb : Below W1.heap.size W1 W') => (hs.far (below_on B1 hb)).wide (Nat.le_refl _) (below_on B1 hb).size)
  go_enter Try.func8, Try.ntmps8
  go_wp2_with fail
  refine n0.mono ?_
  rintro e w2 ⟨rfl, b2⟩
  clear n0 z0 z1 z2 z3 z4 z5 z6 z7
  obtain ⟨z0, z1, z2, z3, z4, z5, z6, z7⟩ := ks.out w2 b2
  have n1 := hS _ s w2 (HS.out w2 b2) IS
  rcases hst : stands s with _ | _
  · rw [hst] at n1
    go_wp2_with fail
    refine n1.mono ?_
    rintro e w5 ⟨rfl, b5⟩
    have n9 := wakes_any hB hR hS w5
    go_wp2_with fail
    refine n9.mono ?_
    rintro e w9 ⟨rfl, b9⟩
    go_wp2
    go_ret
    exact ⟨rfl, below_on B1 (below_on b2 (below_on b5 b9))⟩
  rw [hst] at n1
  go_wp2_with fail
  refine n1.mono ?_
  rintro e w3 ⟨rfl, b3⟩
  have b13 := below_on b2 b3
  clear n1 z0 z1 z2 z3 z4 z5 z6 z7
  obtain ⟨z0, z1, z2, z3, z4, z5, z6, z7⟩ := ks.out w3 b13
  obtain ⟨W4, E4, B4, X4, S4⟩ := Blk.new w3 30 #[.int .i64 s.place, .slice s0 s.items.length d0, .slice s1 s.l0.length d1, .slice s2 s.l1.length d2, .slice s3 s.l2.length d3, .int .i64 s.c0, .int .i64 s.c1, .int .i64 s.c2]
  have b14 := below_on b13 B4
  obtain ⟨y0, y1, y2, y3, y4, y5, y6, y7⟩ := ks.out W4 b14
  have f4 := X4.free 0
  have m4 : W4.cell? ⟨w3.heap.size, 0, none⟩ = some (.int .i64 s.place) := X4.cell 0
  go_upto_region 4 with (fail)
  clear z0 z1 z2 z3 z4 z5 z6 z7
  go_cut [] (fun wx => Below w3.heap.size w3 wx ∧ Blk wx w3.heap.size #[.int .i64 (max (min n 1048575) s.place), .slice s0 s.items.length d0, .slice s1 s.l0.length d1, .slice s2 s.l1.length d2, .slice s3 s.l2.length d3, .int .i64 s.c0, .int .i64 s.c1, .int .i64 s.c2])
  case first =>
    have hx := X4.set 0 (.int .i64 (max (min n 1048575) s.place))
    have hp0 := (stands_parts hst).1
    have hp1 := (stands_parts hst).2.1
    have c3 : ¬ (1048575 : Int) < s.place := by omega
    by_cases c1 : (1048575 : Int) < n
    · have hm : max (min n 1048575) s.place = 1048575 := by omega
      rw [hm] at hx
      go_wp2
      go_meet
      rw [hm]
      exact ⟨B4.setCell (Nat.le_refl _) _, hx⟩
    · by_cases c2 : n < s.place
      · have hm : max (min n 1048575) s.place = s.place := by omega
        rw [hm] at hx
        go_wp2
        go_meet
        rw [hm]
        exact ⟨B4.setCell (Nat.le_refl _) _, hx⟩
      · have hm : max (min n 1048575) s.place = n := by omega
        rw [hm] at hx
        go_wp2
        go_meet
        rw [hm]
        exact ⟨B4.setCell (Nat.le_refl _) _, hx⟩
  case rest =>
  obtain ⟨b3c, Xc⟩ := hcut
  generalize hm : max (min n 1048575) s.place = m at Xc
  have hst1 := far_1 hst n
  rw [hm] at hst1
  have b1c : Below W1.heap.size W1 wc := below_on b13 b3c
  have st := Lib.hid (show ∀ (W' : World) (k : Int), Below W1.heap.size W1 W' → StV W' 0 W'.heap.size (.agg #[.int .i64 k, .slice s0 s.items.length d0, .slice s1 s.l0.length d1, .slice s2 s.l1.length d2, .slice s3 s.l2.length d3, .int .i64 s.c0, .int .i64 s.c1, .int .i64 s.c2]) (s.to k) from fun W' k hb => by
    obtain ⟨_, _, _, _, e, h1, h2, h3, h4⟩ := HS.out W' hb
    cases e
    exact ⟨_, _, _, _, rfl, h1, h2, h3, h4⟩)
  clear y0 y1 y2 y3 y4 y5 y6 y7 f4 m4 X4 b14 B4 E4 S4
  obtain ⟨t0, t1, t2, t3, t4, t5, t6, t7⟩ := Xc.st_
  have n1 := hS _ (s.to m) wc (st.out wc m b1c) (st_in hst1)
  rw [hst1] at n1
  go_wp2_with fail
  refine n1.mono ?_
  rintro e w5 ⟨rfl, b5⟩
  have b15 := below_on b1c b5
  have Xt := Xc.far b5 (by have := b3c.size; have := Xc.lt; omega)
  have hW := Xc.lt
  clear n1 t0 t1 t2 t3 t4 t5 t6 t7 Xc
  have hP5 : w3.heap.size < w5.heap.size := Nat.lt_of_lt_of_le hW b5.size
  have ks5 := Lib.hid (fun (W' : World) (hb : Below w5.heap.size w5 W') => ks.out W' (below_on b15 hb))
  obtain ⟨z0, z1, z2, z3, z4, z5, z6, z7⟩ := ks5.out w5 (Below.refl _ _)
  go_wp2_with fail
  go_loopw [6, 33] (fun v i wr => ∃ k : Nat, k ≤ s.items.length ∧ i = .int .i64 k ∧ v = .int .i64 (mxI s.items k) ∧ Below w5.heap.size w5 wr) (fun _ i _ => s.items.length - (intOf i).toNat)
  case atStart => exact ⟨0, Nat.zero_le _, rfl, rfl, Below.refl _ _⟩
  case round =>
    obtain ⟨k, hk, rfl, rfl, hb⟩ := hrel
    by_cases hlt : k < s.items.length
    · obtain ⟨_, _, _, _, e, h1, _, _, _⟩ := HS.out wr (below_on b15 hb)
      cases e
      obtain ⟨_, _, g, o, rfl, hg, hr⟩ := h1.addr (by omega)
      obtain ⟨q0, q1, q2⟩ := it_cells hr hlt
      have hk2 : ((k : Int) * 3).toNat = k * 3 := by omega
      obtain ⟨W6, E6, B6, X6, S6⟩ := Blk.new wr 51 #[.int .i64 (s.items.getD k itD).key, .int .i64 (s.items.getD k itD).place, .int .i64 (s.items.getD k itD).val]
      have x0 : W6.cell? ⟨wr.heap.size, 0, none⟩ = some (.int .i64 (s.items.getD k itD).key) := X6.cell 0
      have x1 : W6.cell? ⟨wr.heap.size, 1, none⟩ = some (.int .i64 (s.items.getD k itD).place) := X6.cell 1
      have x2 : W6.cell? ⟨wr.heap.size, 2, none⟩ = some (.int .i64 (s.items.getD k itD).val) := X6.cell 2
      have hb6 := below_on hb B6
      have hmx : mxI s.items (k + 1) = max (mxI s.items k) (s.items.getD k itD).place := rfl
      generalize s.items.getD k itD = it at q0 q1 q2 E6 X6 x0 x1 x2 hmx
      go_wp2
      go_roundw
      case rel => exact ⟨k + 1, by omega, by go_num, by rw [hmx, max_if], hb6⟩
      case measure => simp [intOf]; omega
    · obtain rfl : k = s.items.length := by omega
      go_wp2_with fail
      rw [show mxI s.items s.items.length = farK s 0 from rfl]
      go_loopw [6, 42] (fun v i wr => ∃ k : Nat, k ≤ 3 ∧ i = .int .i64 k ∧ v = .int .i64 (farK s k) ∧ Below w5.heap.size w5 wr) (fun _ i _ => 3 - (intOf i).toNat)
      case atStart => exact ⟨0, Nat.zero_le _, rfl, rfl, hb⟩
      case round =>
        obtain ⟨k, hk, rfl, rfl, hbq⟩ := hrel
        rename World => wq
        obtain rfl | rfl | rfl | rfl : k = 0 ∨ k = 1 ∨ k = 2 ∨ k = 3 := by omega
        · obtain ⟨z0, z1, z2, z3, z4, z5, z6, z7⟩ := ks5.out wq hbq
          go_wp2_with fail
          go_loopw [6, 50] (fun v i wr => ∃ j : Nat, j ≤ s.l0.length ∧ i = .int .i64 j ∧ v = .int .i64 (mxL (farK s 0) s.l0 j) ∧ Below w5.heap.size w5 wr) (fun _ i _ => s.l0.length - (intOf i).toNat)
          case atStart => exact ⟨0, Nat.zero_le _, rfl, rfl, hbq⟩
          case round =>
            obtain ⟨j, hj, rfl, rfl, hb⟩ := hrel
            by_cases hlt : j < s.l0.length
            · obtain ⟨_, _, _, _, e, _, h1, _, _⟩ := HS.out wr (below_on b15 hb)
              cases e
              obtain ⟨_, _, g, o, rfl, hg, hr⟩ := h1.addr (by omega)
              obtain ⟨q0, q1, q2, q3, q4⟩ := ln_cells hr hlt
              have hk2 : ((j : Int) * 5).toNat = j * 5 := by omega
              obtain ⟨W6, E6, B6, X6, S6⟩ := Blk.new wr 53 #[.int .i64 (s.l0.getD j lnD).off, .int .i64 (s.l0.getD j lnD).place, .int .i64 (s.l0.getD j lnD).j, .int .i64 (s.l0.getD j lnD).key, .int .i64 (s.l0.getD j lnD).val]
              have x1 : W6.cell? ⟨wr.heap.size, 1, none⟩ = some (.int .i64 (s.l0.getD j lnD).place) := X6.cell 1
              have hb6 := below_on hb B6
              have hmx : mxL (farK s 0) s.l0 (j + 1) = max (mxL (farK s 0) s.l0 j) (s.l0.getD j lnD).place := rfl
              generalize s.l0.getD j lnD = ln at q0 q1 q2 q3 q4 E6 X6 x1 hmx
              go_wp2
              go_roundw
              case rel => exact ⟨j + 1, by omega, by go_num, by rw [hmx, max_if], hb6⟩
              case measure => simp [intOf]; omega
            · obtain rfl : j = s.l0.length := by omega
              obtain ⟨z0, z1, z2, z3, z4, z5, z6, z7⟩ := ks5.out wr hb
              go_wp2
              go_roundw
              case rel => exact ⟨1, by omega, by go_num, by rw [show farK s 1 = max (mxL (farK s 0) s.l0 s.l0.length) s.c0 from rfl, max_if], hb⟩
              case measure => simp [intOf]
        · obtain ⟨z0, z1, z2, z3, z4, z5, z6, z7⟩ := ks5.out wq hbq
          go_wp2_with fail
          go_loopw [6, 50] (fun v i wr => ∃ j : Nat, j ≤ s.l1.length ∧ i = .int .i64 j ∧ v = .int .i64 (mxL (farK s 1) s.l1 j) ∧ Below w5.heap.size w5 wr) (fun _ i _ => s.l1.length - (intOf i).toNat)
          case atStart => exact ⟨0, Nat.zero_le _, rfl, rfl, hbq⟩
          case round =>
            obtain ⟨j, hj, rfl, rfl, hb⟩ := hrel
            by_cases hlt : j < s.l1.length
            · obtain ⟨_, _, _, _, e, _, _, h1, _⟩ := HS.out wr (below_on b15 hb)
              cases e
              obtain ⟨_, _, g, o, rfl, hg, hr⟩ := h1.addr (by omega)
              obtain ⟨q0, q1, q2, q3, q4⟩ := ln_cells hr hlt
              have hk2 : ((j : Int) * 5).toNat = j * 5 := by omega
              obtain ⟨W6, E6, B6, X6, S6⟩ := Blk.new wr 53 #[.int .i64 (s.l1.getD j lnD).off, .int .i64 (s.l1.getD j lnD).place, .int .i64 (s.l1.getD j lnD).j, .int .i64 (s.l1.getD j lnD).key, .int .i64 (s.l1.getD j lnD).val]
              have x1 : W6.cell? ⟨wr.heap.size, 1, none⟩ = some (.int .i64 (s.l1.getD j lnD).place) := X6.cell 1
              have hb6 := below_on hb B6
              have hmx : mxL (farK s 1) s.l1 (j + 1) = max (mxL (farK s 1) s.l1 j) (s.l1.getD j lnD).place := rfl
              generalize s.l1.getD j lnD = ln at q0 q1 q2 q3 q4 E6 X6 x1 hmx
              go_wp2
              go_roundw
              case rel => exact ⟨j + 1, by omega, by go_num, by rw [hmx, max_if], hb6⟩
              case measure => simp [intOf]; omega
            · obtain rfl : j = s.l1.length := by omega
              obtain ⟨z0, z1, z2, z3, z4, z5, z6, z7⟩ := ks5.out wr hb
              go_wp2
              go_roundw
              case rel => exact ⟨2, by omega, by go_num, by rw [show farK s 2 = max (mxL (farK s 1) s.l1 s.l1.length) s.c1 from rfl, max_if], hb⟩
              case measure => simp [intOf]
        · obtain ⟨z0, z1, z2, z3, z4, z5, z6, z7⟩ := ks5.out wq hbq
          go_wp2_with fail
          go_loopw [6, 50] (fun v i wr => ∃ j : Nat, j ≤ s.l2.length ∧ i = .int .i64 j ∧ v = .int .i64 (mxL (farK s 2) s.l2 j) ∧ Below w5.heap.size w5 wr) (fun _ i _ => s.l2.length - (intOf i).toNat)
          case atStart => exact ⟨0, Nat.zero_le _, rfl, rfl, hbq⟩
          case round =>
            obtain ⟨j, hj, rfl, rfl, hb⟩ := hrel
            by_cases hlt : j < s.l2.length
            · obtain ⟨_, _, _, _, e, _, _, _, h1⟩ := HS.out wr (below_on b15 hb)
              cases e
              obtain ⟨_, _, g, o, rfl, hg, hr⟩ := h1.addr (by omega)
              obtain ⟨q0, q1, q2, q3, q4⟩ := ln_cells hr hlt
              have hk2 : ((j : Int) * 5).toNat = j * 5 := by omega
              obtain ⟨W6, E6, B6, X6, S6⟩ := Blk.new wr 53 #[.int .i64 (s.l2.getD j lnD).off, .int .i64 (s.l2.getD j lnD).place, .int .i64 (s.l2.getD j lnD).j, .int .i64 (s.l2.getD j lnD).key, .int .i64 (s.l2.getD j lnD).val]
              have x1 : W6.cell? ⟨wr.heap.size, 1, none⟩ = some (.int .i64 (s.l2.getD j lnD).place) := X6.cell 1
              have hb6 := below_on hb B6
              have hmx : mxL (farK s 2) s.l2 (j + 1) = max (mxL (farK s 2) s.l2 j) (s.l2.getD j lnD).place := rfl
              generalize s.l2.getD j lnD = ln at q0 q1 q2 q3 q4 E6 X6 x1 hmx
              go_wp2
              go_roundw
              case rel => exact ⟨j + 1, by omega, by go_num, by rw [hmx, max_if], hb6⟩
              case measure => simp [intOf]; omega
            · obtain rfl : j = s.l2.length := by omega
              obtain ⟨z0, z1, z2, z3, z4, z5, z6, z7⟩ := ks5.out wr hb
              go_wp2
              go_roundw
              case rel => exact ⟨3, by omega, by go_num, by rw [show farK s 3 = max (mxL (farK s 2) s.l2 s.l2.length) s.c2 from rfl, max_if], hb⟩
              case measure => simp [intOf]
        · have Xr := Xt.far hbq hP5
          obtain ⟨t0, t1, t2, t3, t4, t5, t6, t7⟩ := Xr.st_
          have f5 := Xr.free 0
          have h0 := (far_under s).1
          have h1 := far_le (stands_under hst).1 (stands_under hst).2
          have h2 := (stands_parts hst).2.1
          have b16 := below_on b15 hbq
          have X7 := Xr.set 0 (.int .i64 (farK s 3))
          have b7 : Below W1.heap.size W1 (wq.setCell ⟨w3.heap.size, 0, none⟩ (.int .i64 (farK s 3))) := b16.setCell b13.size _
          generalize e7 : wq.setCell ⟨w3.heap.size, 0, none⟩ (.int .i64 (farK s 3)) = W7 at X7 b7
          have X7' : Blk W7 w3.heap.size #[.int .i64 (farK s 3), .slice s0 s.items.length d0, .slice s1 s.l0.length d1, .slice s2 s.l1.length d2, .slice s3 s.l2.length d3, .int .i64 s.c0, .int .i64 s.c1, .int .i64 s.c2] := X7
          obtain ⟨v0, v1, v2, v3, v4, v5, v6, v7⟩ := X7'.st_
          have n2 := hS _ (s.to (farK s 3)) W7 (st.out W7 _ b7) (st_in (far_2 hst))
          rw [far_2 hst] at n2
          go_wp2_with fail
          refine n2.mono ?_
          rintro e w8 ⟨rfl, b8⟩
          have X8 := X7'.far b8 X7'.lt
          have f8 := X8.free 0
          have c8 : w8.cell? ⟨w3.heap.size, 0, none⟩ = some (.int .i64 (farK s 3)) := X8.cell 0
          have b18 := below_on b7 b8
          have X9 := X8.set 0 (.int .i64 (farK s 3 - 1))
          have b9 : Below W1.heap.size W1 (w8.setCell ⟨w3.heap.size, 0, none⟩ (.int .i64 (farK s 3 - 1))) := b18.setCell b13.size _
          generalize e9 : w8.setCell ⟨w3.heap.size, 0, none⟩ (.int .i64 (farK s 3 - 1)) = W9 at X9 b9
          have X9' : Blk W9 w3.heap.size #[.int .i64 (farK s 3 - 1), .slice s0 s.items.length d0, .slice s1 s.l0.length d1, .slice s2 s.l1.length d2, .slice s3 s.l2.length d3, .int .i64 s.c0, .int .i64 s.c1, .int .i64 s.c2] := X9
          obtain ⟨u0, u1, u2, u3, u4, u5, u6, u7⟩ := X9'.st_
          have n3 := hS _ (s.to (farK s 3 - 1)) W9 (st.out W9 _ b9) ⟨⟨by show (-9223372036854775808 : Int) ≤ farK s 3 - 1; omega, by show farK s 3 - 1 ≤ (9223372036854775807 : Int); omega⟩, (st_in hst).2⟩
          rw [far_3] at n3
          clear n2 t0 t1 t2 t3 t4 t5 t6 t7 v0 v1 v2 v3 v4 v5 v6 v7
          generalize farK s 3 = fk at *
          go_wp2_with fail
          refine n3.mono ?_
          rintro e w10 ⟨rfl, b10⟩
          have n9 := wakes_any hB hR hS w10
          go_wp2_with fail
          refine n9.mono ?_
          rintro e w11 ⟨rfl, b11⟩
          go_wp2
          go_ret
          exact ⟨rfl, below_on B1 (below_on b9 (below_on b10 b11))⟩
end Go.Proofs.Ytmbphhcgmdaoeaa
