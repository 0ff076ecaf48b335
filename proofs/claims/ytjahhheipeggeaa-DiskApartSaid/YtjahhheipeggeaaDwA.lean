/- What is proved: the walk of DiskApart: it returns true at every input. -/
import Derived.Test.YtjahhheipeggeaaDskY
import Derived.Test.YtjahhheipeggeaaDwB
import Derived.Deep.DeepCutAuto
import Derived.Deep.RegionHeld3
namespace Go.Proofs.Ytjahhheipeggeaa
open Go.RowKit

theorem do_any (v : Value) (d : Dsk) (x : DAct) (w : World) (Dd : Dk w 0 w.heap.size v d) (sd : smallD d = true) (hi : x.In) (hb : x.b.size ≤ 3000) :
    Calls Try.prog 29 #[v, x.val] w (DoPost w v (doD d x)) := do_walk dput_spec dsync_spec dcrash_spec v d x w Dd sd hi hb
theorem wakes_any (w : World) : Calls Try.prog 11 #[] w fun e w' => e = .returned (.bool true) ∧ Below w.heap.size w w' := wakes_walk dnew_spec dput_spec dget_spec dcrash_spec w
theorem do_from {W w : World} {v : Value} {d : Dsk} (x : DAct) (Dd : Dk W 0 W.heap.size v d) (hb : Below W.heap.size W w) (sd : smallD d = true) (hi : x.In) (hx : x.b.size ≤ 3000) :
    Calls Try.prog 29 #[v, .agg #[.int .i64 x.k, .int .i64 x.s, .int .i64 x.n, .string x.b, .int .u64 x.lost]] w fun e w' => ∃ a l c a' l' c', e = .returned (.agg #[.slice a l c, .slice a' l' c']) ∧ Dk w' 0 w'.heap.size (.agg #[.slice a l c, .slice a' l' c']) (doD d x) ∧ Below W.heap.size W w' ∧ Below w.heap.size w w' := by
  refine (do_any v d x w (Dd.on hb) sd hi hx).mono ?_
  rintro e w' ⟨v', rfl, h, h2, _⟩
  obtain ⟨a, l, c, a', l', c', rfl, _⟩ := id h
  exact ⟨a, l, c, a', l', c', rfl, h, hb.trans (h2.mono hb.size), h2⟩
theorem do_here {w : World} {v : Value} {d : Dsk} (x : DAct) (Dd : Dk w 0 w.heap.size v d) (sd : smallD d = true) (hi : x.In) (hx : x.b.size ≤ 3000) :
    Calls Try.prog 29 #[v, .agg #[.int .i64 x.k, .int .i64 x.s, .int .i64 x.n, .string x.b, .int .u64 x.lost]] w fun e w' => ∃ a l c a' l' c', e = .returned (.agg #[.slice a l c, .slice a' l' c']) ∧ Dk w' 0 w'.heap.size (.agg #[.slice a l c, .slice a' l' c']) (doD d x) ∧ Below w.heap.size w w' := by
  refine (do_any v d x w Dd sd hi hx).mono ?_
  rintro e w' ⟨v', rfl, h, h2, _⟩
  obtain ⟨a, l, c, a', l', c', rfl, _⟩ := id h
  exact ⟨a, l, c, a', l', c', rfl, h, h2⟩
/-- A box of five cells that may be written. -/
def BoxF (w : World) (g : Nat) (u0 u1 u2 u3 u4 : Value) : Prop := Box5 w g u0 u1 u2 u3 u4 ∧ ∀ n, w.frozen? ⟨g, n, none⟩ = false
theorem BoxF.far {w w' : World} {g : Nat} {u0 u1 u2 u3 u4 : Value} (h : BoxF w g u0 u1 u2 u3 u4) (hb : Below w.heap.size w w') : BoxF w' g u0 u1 u2 u3 u4 :=
  ⟨h.1.far hb, fun n => (hb.frozen (p := ⟨g, n, none⟩) h.1.1).trans (h.2 n)⟩
theorem boxF_new (w : World) (e : TypeId) (u0 u1 u2 u3 u4 : Value) : ∃ W, w.alloc (.cells #[u0, u1, u2, u3, u4] e) = W ∧ Below w.heap.size w W ∧ BoxF W w.heap.size u0 u1 u2 u3 u4 := by
  obtain ⟨W, e1, h1, h2⟩ := box5_new w e u0 u1 u2 u3 u4
  exact ⟨W, e1, h1, h2, fun n => by rw [← e1]; exact blk_frozen (heap_alloc_new w _) n⟩
theorem BoxF.other {w : World} {g g' : Nat} {u0 u1 u2 u3 u4 : Value} (h : BoxF w g u0 u1 u2 u3 u4) (n : g' ≠ g) (o : Nat) (x : Value) : BoxF (w.setCell ⟨g', o, none⟩ x) g u0 u1 u2 u3 u4 :=
  ⟨h.1.other n o x, fun m => by rw [World.frozen?_setCell]; exact h.2 m⟩
theorem BoxF.zero {w : World} {g : Nat} {u0 u1 u2 u3 u4 : Value} (h : BoxF w g u0 u1 u2 u3 u4) (x : Value) : BoxF (w.setCell ⟨g, 0, none⟩ x) g x u1 u2 u3 u4 := by
  obtain ⟨⟨h0, h1, h2, h3, h4, h5⟩, hf⟩ := h
  have ne : ∀ k, k ≠ 0 → (⟨g, 0, none⟩ : Addr) ≠ ⟨g, k, none⟩ := fun k hk e => hk (congrArg Addr.off e).symm
  exact ⟨⟨by simpa using h0, World.cell?_setCell_same _ _ _ h1, (World.cell?_setCell_other _ _ _ _ (ne 1 (by decide))).trans h2, (World.cell?_setCell_other _ _ _ _ (ne 2 (by decide))).trans h3, (World.cell?_setCell_other _ _ _ _ (ne 3 (by decide))).trans h4, (World.cell?_setCell_other _ _ _ _ (ne 4 (by decide))).trans h5⟩,
    fun m => by rw [World.frozen?_setCell]; exact hf m⟩

set_option maxRecDepth 100000 in
set_option maxHeartbeats 16000000 in
theorem apart_in (a : Option Addr) (l c : Nat) (a' : Option Addr) (l' c' : Nat) (d : Dsk) (x y : DAct) (w : World)
    (Dd : Dk w 0 w.heap.size (.agg #[.slice a l c, .slice a' l' c']) d) (hk : chkB d = true) (hx : x.In) (hy : y.In) (hxb : x.b.size ≤ 1000) (hyb : y.b.size ≤ 1000) :
    Calls Try.prog 6 #[.agg #[.slice a l c, .slice a' l' c'], x.val, y.val] w fun e w' => e = .returned (.bool true) ∧ Below w.heap.size w w' := by
  have HB := Below.refl w.heap.size w
  have D0 := Lib.hid Dd
  have HK := Lib.hid hk
  have SD := Lib.hid (chk_small hk)
  have CK := Lib.hid (chk_yes hk)
  have IX := Lib.hid (show x.zero.In from ⟨(show I64 0 from ⟨by decide, by decide⟩), hx.2.1, hx.2.2.1, hx.2.2.2⟩)
  have IY := Lib.hid (show y.zero.In from ⟨(show I64 0 from ⟨by decide, by decide⟩), hy.2.1, hy.2.2.1, hy.2.2.2⟩)
  have SX := Lib.hid (show x.zero.b.size ≤ 3000 from Nat.le_trans hxb (by decide))
  have SY := Lib.hid (show y.zero.b.size ≤ 3000 from Nat.le_trans hyb (by decide))
  have sx : ((1000 : Int) < (x.b.size : Int)) = False := by simp; omega
  have sy : ((1000 : Int) < (y.b.size : Int)) = False := by simp; omega
  clear hk hx hy hxb hyb Dd
  simp only [DAct.val]
  obtain ⟨w1, ee, hbx, Bx1, hzz⟩ := box_new w 24 (.slice a l c) (.slice a' l' c')
  have l_x1 := HB.size
  replace hzz := Lib.hid hzz
  replace HB := HB.trans (hbx.mono HB.size)
  clear hbx hzz
  have ne12 : w.heap.size ≠ w1.heap.size := Nat.ne_of_lt Bx1.1
  obtain ⟨w2, ee2, hbx, Bx2⟩ := boxF_new w1 47 (.int .i64 x.k) (.int .i64 x.s) (.int .i64 x.n) (.string x.b) (.int .u64 x.lost)
  replace Bx1 := Bx1.far hbx
  have l_x2 := HB.size
  replace HB := HB.trans (hbx.mono HB.size)
  clear hbx
  obtain ⟨w3, ee3, hbx, Bx3⟩ := boxF_new w2 47 (.int .i64 y.k) (.int .i64 y.s) (.int .i64 y.n) (.string y.b) (.int .u64 y.lost)
  have ne23 : w1.heap.size ≠ w2.heap.size := Nat.ne_of_lt Bx2.1.1
  have ne13 : w.heap.size ≠ w2.heap.size := Nat.ne_of_lt Bx1.1
  replace Bx1 := Bx1.far hbx
  replace Bx2 := Bx2.far hbx
  have l_x3 := HB.size
  replace HB := HB.trans (hbx.mono HB.size)
  clear hbx
  go_enter Try.func6, Try.ntmps6
  have Dd := (D0.out.far HB).wide (Nat.le_refl 0) HB.size
  have nn := great_walk 0 w3.heap.size _ d w3 Dd (Nat.le_refl _)
  obtain ⟨_, x1_0, x1_1, x1_2, x1_3⟩ := id Bx1
  obtain ⟨⟨_, x2_0, x2_1, x2_2, x2_3, x2_4⟩, x2_f⟩ := id Bx2
  obtain ⟨⟨_, x3_0, x3_1, x3_2, x3_3, x3_4⟩, x3_f⟩ := id Bx3
  go_wp2_with fail
  refine nn.mono ?_
  rintro e w4 ⟨rfl, hbx⟩
  clear x1_0 x1_1 x1_2 x1_3 x2_0 x2_1 x2_2 x2_3 x2_4 x2_f x3_0 x3_1 x3_2 x3_3 x3_4 x3_f nn
  replace Bx1 := Bx1.far hbx
  replace Bx2 := Bx2.far hbx
  replace Bx3 := Bx3.far hbx
  replace HB := HB.trans (hbx.mono HB.size)
  clear hbx
  rw [SD.out]
  replace Dd := (D0.out.far HB).wide (Nat.le_refl 0) HB.size
  have nn := rcheck_spec w4.heap.size _ d w4 Dd (Nat.le_refl _) SD.out
  obtain ⟨_, x1_0, x1_1, x1_2, x1_3⟩ := id Bx1
  obtain ⟨⟨_, x2_0, x2_1, x2_2, x2_3, x2_4⟩, x2_f⟩ := id Bx2
  obtain ⟨⟨_, x3_0, x3_1, x3_2, x3_3, x3_4⟩, x3_f⟩ := id Bx3
  go_wp2_with fail
  refine nn.mono ?_
  rintro e w5 ⟨rfl, hbx⟩
  clear x1_0 x1_1 x1_2 x1_3 x2_0 x2_1 x2_2 x2_3 x2_4 x2_f x3_0 x3_1 x3_2 x3_3 x3_4 x3_f nn
  replace Bx1 := Bx1.far hbx
  replace Bx2 := Bx2.far hbx
  replace Bx3 := Bx3.far hbx
  replace HB := HB.trans (hbx.mono HB.size)
  clear hbx
  rw [CK.out]
  obtain ⟨w6, e6, hs6, HB6, Bx16, Bx26, Bx36⟩ : ∃ W, (w5.setCell ⟨w1.heap.size, 0, none⟩ (.int .i64 0)).setCell ⟨w2.heap.size, 0, none⟩ (.int .i64 0) = W ∧ W.heap.size = w5.heap.size ∧ Below w.heap.size w W ∧ Box W w.heap.size (.slice a l c) (.slice a' l' c') ∧
      BoxF W w1.heap.size (.int .i64 0) (.int .i64 x.s) (.int .i64 x.n) (.string x.b) (.int .u64 x.lost) ∧ BoxF W w2.heap.size (.int .i64 0) (.int .i64 y.s) (.int .i64 y.n) (.string y.b) (.int .u64 y.lost) :=
    ⟨_, rfl, by simp, (HB.setCell l_x2 _).setCell l_x3 _, (Bx1.other ne12.symm 0 _).other ne13.symm 0 _, (Bx2.zero _).other ne23.symm 0 _, (Bx3.other ne23 0 _).zero _⟩
  obtain ⟨_, x1_0, x1_1, x1_2, x1_3⟩ := id Bx1
  obtain ⟨⟨_, x2_0, x2_1, x2_2, x2_3, x2_4⟩, x2_f⟩ := id Bx2
  obtain ⟨⟨_, x3_0, x3_1, x3_2, x3_3, x3_4⟩, x3_f⟩ := id Bx3
  have z5 := x2_f 0
  have z6 := x3_f 0
  clear x2_f x3_f
  go_wp2
  clear x1_0 x1_1 x1_2 x1_3 x2_0 x2_1 x2_2 x2_3 x2_4 x3_0 x3_1 x3_2 x3_3 x3_4 z5 z6 e6 Bx1 Bx2 Bx3 HB hs6 Dd ee ee2 ee3
  have OX := Lib.hid (chk_small (do_ok x.zero HK.out))
  have OY := Lib.hid (chk_small (do_ok y.zero HK.out))
  have D6 : Dk w6 0 w6.heap.size (.agg #[.slice a l c, .slice a' l' c']) d := (D0.out.far HB6).wide (Nat.le_refl 0) HB6.size
  have kW := Lib.hid (show ∀ w' : World, Below w6.heap.size w6 w' → w'.cell? ⟨w.heap.size, 0, none⟩ = some (.slice a l c) ∧ w'.cell? ⟨w.heap.size, 1, none⟩ = some (.slice a' l' c') ∧ w'.cell? ⟨w1.heap.size, 0, none⟩ = some (.int .i64 0) ∧ w'.cell? ⟨w1.heap.size, 1, none⟩ = some (.int .i64 x.s) ∧ w'.cell? ⟨w1.heap.size, 2, none⟩ = some (.int .i64 x.n) ∧ w'.cell? ⟨w1.heap.size, 3, none⟩ = some (.string x.b) ∧ w'.cell? ⟨w1.heap.size, 4, none⟩ = some (.int .u64 x.lost) ∧ w'.cell? ⟨w2.heap.size, 0, none⟩ = some (.int .i64 0) ∧ w'.cell? ⟨w2.heap.size, 1, none⟩ = some (.int .i64 y.s) ∧ w'.cell? ⟨w2.heap.size, 2, none⟩ = some (.int .i64 y.n) ∧ w'.cell? ⟨w2.heap.size, 3, none⟩ = some (.string y.b) ∧ w'.cell? ⟨w2.heap.size, 4, none⟩ = some (.int .u64 y.lost) from fun w' h => by
    obtain ⟨_, a0, a1, _⟩ := Bx16.far h
    obtain ⟨⟨_, b0, b1, b2, b3, b4⟩, _⟩ := Bx26.far h
    obtain ⟨⟨_, c0, c1, c2, c3, c4⟩, _⟩ := Bx36.far h
    exact ⟨a0, a1, b0, b1, b2, b3, b4, c0, c1, c2, c3, c4⟩)
  go_cut [7, 8] (fun p q wx => TwoD w6 (doD (doD d x.zero) y.zero) (doD (doD d y.zero) x.zero) p q wx)
  case first =>
    have HC : Below w6.heap.size w6 w6 := Below.refl _ _
    have DC := D6
    obtain ⟨_, x1_0, x1_1, _⟩ := id Bx16
    obtain ⟨⟨_, x2_0, x2_1, x2_2, x2_3, x2_4⟩, _⟩ := id Bx26
    obtain ⟨⟨_, x3_0, x3_1, x3_2, x3_3, x3_4⟩, _⟩ := id Bx36
    go_region_held3 (fun w' => w'.cell? ⟨w.heap.size, 0, none⟩ = some (.slice a l c) ∧ w'.cell? ⟨w.heap.size, 1, none⟩ = some (.slice a' l' c') ∧ w'.cell? ⟨w1.heap.size, 0, none⟩ = some (.int .i64 0) ∧ w'.cell? ⟨w1.heap.size, 1, none⟩ = some (.int .i64 x.s) ∧ w'.cell? ⟨w1.heap.size, 2, none⟩ = some (.int .i64 x.n) ∧ w'.cell? ⟨w1.heap.size, 3, none⟩ = some (.string x.b) ∧ w'.cell? ⟨w1.heap.size, 4, none⟩ = some (.int .u64 x.lost) ∧ w'.cell? ⟨w2.heap.size, 0, none⟩ = some (.int .i64 0) ∧ w'.cell? ⟨w2.heap.size, 1, none⟩ = some (.int .i64 y.s) ∧ w'.cell? ⟨w2.heap.size, 2, none⟩ = some (.int .i64 y.n) ∧ w'.cell? ⟨w2.heap.size, 3, none⟩ = some (.string y.b) ∧ w'.cell? ⟨w2.heap.size, 4, none⟩ = some (.int .u64 y.lost))
      (first | with_reducible exact kW.out _ HC | (with_reducible refine kW.out _ ?_; repeat' (first | with_reducible exact HC | with_reducible refine below_made ?_ _ | with_reducible refine Below.setCell ?_ ?_ _ | with_reducible refine Below.drew ?_ | with_reducible assumption | (dsimp only; omega) | (simp; done) | (simp; omega))))
      (first
        | (go_at_call_of 29 (Value.slice a l c); go_at_call_of 29 (Value.string x.b); go_split_ands; refine (do_from x.zero DC (by repeat (first | with_reducible assumption | with_reducible exact Below.refl _ _ | with_reducible refine below_made ?_ _ | with_reducible refine Below.drew ?_)) SD.out IX.out SX.out).mono ?_; rintro e wv1 ⟨r1, n1, c1, r1', n1', c1', rfl, hd1, hbB, hq⟩; have sz1 := hbB.size; have lw1 := HC.size; (try (have hne := kne Fa3; obtain ⟨_, _, _, _⟩ := hne)); (try (have hne := kne Fb3; obtain ⟨_, _, _, _⟩ := hne)); (try (have hne := kne Fa2; obtain ⟨_, _, _, _⟩ := hne)); (try (have hne := kne Fb2; obtain ⟨_, _, _, _⟩ := hne)); (try (have hne := kne Fa4; obtain ⟨_, _, _, _⟩ := hne)); (try (have hne := kne Fb4; obtain ⟨_, _, _, _⟩ := hne)); (first | (rw [kpt4_eq] at hq; obtain ⟨Fa1, Fb1⟩ := hq.get) | (rw [kpt3_eq] at hq; have Fa1 := hq.get) | (rw [kpt2_eq] at hq; obtain ⟨Fa1, Fb1⟩ := hq.get) | (rw [kpt1_eq] at hq; have Fa1 := hq.get) | skip); (try have ta1 := Fa1.1); (try have tb1 := Fb1.1); replace HC := HC.trans (hbB.mono HC.size); replace DC := DC.on hbB; (try replace hd3 := hd3.on hbB); (try replace hd2 := hd2.on hbB); (try replace hd4 := hd4.on hbB); (try replace Fa3 := Fa3.far hbB); (try replace Fb3 := Fb3.far hbB); (try replace Fa2 := Fa2.far hbB); (try replace Fb2 := Fb2.far hbB); (try replace Fa4 := Fa4.far hbB); (try replace Fb4 := Fb4.far hbB); clear hbB hq)
        | (go_at_call_of 29 (Value.slice a l c); go_at_call_of 29 (Value.string y.b); go_split_ands; refine (do_from y.zero DC (by repeat (first | with_reducible assumption | with_reducible exact Below.refl _ _ | with_reducible refine below_made ?_ _ | with_reducible refine Below.drew ?_)) SD.out IY.out SY.out).mono ?_; rintro e wv3 ⟨r3, n3, c3, r3', n3', c3', rfl, hd3, hbB, hq⟩; have sz3 := hbB.size; have lw3 := HC.size; (try (have hne := kne Fa1; obtain ⟨_, _, _, _⟩ := hne)); (try (have hne := kne Fb1; obtain ⟨_, _, _, _⟩ := hne)); (try (have hne := kne Fa2; obtain ⟨_, _, _, _⟩ := hne)); (try (have hne := kne Fb2; obtain ⟨_, _, _, _⟩ := hne)); (try (have hne := kne Fa4; obtain ⟨_, _, _, _⟩ := hne)); (try (have hne := kne Fb4; obtain ⟨_, _, _, _⟩ := hne)); (first | (rw [kpt4_eq] at hq; obtain ⟨Fa3, Fb3⟩ := hq.get) | (rw [kpt3_eq] at hq; have Fa3 := hq.get) | (rw [kpt2_eq] at hq; obtain ⟨Fa3, Fb3⟩ := hq.get) | (rw [kpt1_eq] at hq; have Fa3 := hq.get) | skip); (try have ta3 := Fa3.1); (try have tb3 := Fb3.1); replace HC := HC.trans (hbB.mono HC.size); replace DC := DC.on hbB; (try replace hd1 := hd1.on hbB); (try replace hd2 := hd2.on hbB); (try replace hd4 := hd4.on hbB); (try replace Fa1 := Fa1.far hbB); (try replace Fb1 := Fb1.far hbB); (try replace Fa2 := Fa2.far hbB); (try replace Fb2 := Fb2.far hbB); (try replace Fa4 := Fa4.far hbB); (try replace Fb4 := Fb4.far hbB); clear hbB hq)
        | (go_at_call_of 29 (Value.slice r1 n1 c1); go_split_ands; refine (do_from y.zero hd1 (by repeat (first | with_reducible assumption | with_reducible exact Below.refl _ _ | with_reducible refine below_made ?_ _ | with_reducible refine Below.drew ?_)) OX.out IY.out SY.out).mono ?_; rintro e wv2 ⟨r2, n2, c2, r2', n2', c2', rfl, hd2, hbB, hq⟩; have sz2 := hbB.size; have lw2 := HC.size; (try (have hne := kne Fa1; obtain ⟨_, _, _, _⟩ := hne)); (try (have hne := kne Fb1; obtain ⟨_, _, _, _⟩ := hne)); (try (have hne := kne Fa3; obtain ⟨_, _, _, _⟩ := hne)); (try (have hne := kne Fb3; obtain ⟨_, _, _, _⟩ := hne)); (try (have hne := kne Fa4; obtain ⟨_, _, _, _⟩ := hne)); (try (have hne := kne Fb4; obtain ⟨_, _, _, _⟩ := hne)); (first | (rw [kpt4_eq] at hq; obtain ⟨Fa2, Fb2⟩ := hq.get) | (rw [kpt3_eq] at hq; have Fa2 := hq.get) | (rw [kpt2_eq] at hq; obtain ⟨Fa2, Fb2⟩ := hq.get) | (rw [kpt1_eq] at hq; have Fa2 := hq.get) | skip); (try have ta2 := Fa2.1); (try have tb2 := Fb2.1); replace HC := HC.trans (hbB.mono HC.size); replace DC := DC.on hbB; (try replace hd1 := hd1.on hbB); (try replace hd3 := hd3.on hbB); (try replace hd4 := hd4.on hbB); (try replace Fa1 := Fa1.far hbB); (try replace Fb1 := Fb1.far hbB); (try replace Fa3 := Fa3.far hbB); (try replace Fb3 := Fb3.far hbB); (try replace Fa4 := Fa4.far hbB); (try replace Fb4 := Fb4.far hbB); clear hbB hq)
        | (go_at_call_of 29 (Value.slice r3 n3 c3); go_split_ands; refine (do_from x.zero hd3 (by repeat (first | with_reducible assumption | with_reducible exact Below.refl _ _ | with_reducible refine below_made ?_ _ | with_reducible refine Below.drew ?_)) OY.out IX.out SX.out).mono ?_; rintro e wv4 ⟨r4, n4, c4, r4', n4', c4', rfl, hd4, hbB, hq⟩; have sz4 := hbB.size; have lw4 := HC.size; (try (have hne := kne Fa1; obtain ⟨_, _, _, _⟩ := hne)); (try (have hne := kne Fb1; obtain ⟨_, _, _, _⟩ := hne)); (try (have hne := kne Fa3; obtain ⟨_, _, _, _⟩ := hne)); (try (have hne := kne Fb3; obtain ⟨_, _, _, _⟩ := hne)); (try (have hne := kne Fa2; obtain ⟨_, _, _, _⟩ := hne)); (try (have hne := kne Fb2; obtain ⟨_, _, _, _⟩ := hne)); (first | (rw [kpt4_eq] at hq; obtain ⟨Fa4, Fb4⟩ := hq.get) | (rw [kpt3_eq] at hq; have Fa4 := hq.get) | (rw [kpt2_eq] at hq; obtain ⟨Fa4, Fb4⟩ := hq.get) | (rw [kpt1_eq] at hq; have Fa4 := hq.get) | skip); (try have ta4 := Fa4.1); (try have tb4 := Fb4.1); replace HC := HC.trans (hbB.mono HC.size); replace DC := DC.on hbB; (try replace hd1 := hd1.on hbB); (try replace hd3 := hd3.on hbB); (try replace hd2 := hd2.on hbB); (try replace Fa1 := Fa1.far hbB); (try replace Fb1 := Fb1.far hbB); (try replace Fa3 := Fa3.far hbB); (try replace Fb3 := Fb3.far hbB); (try replace Fa2 := Fa2.far hbB); (try replace Fb2 := Fb2.far hbB); clear hbB hq; (try (have hne := kne Fa1; obtain ⟨_, _, _, _⟩ := hne)); (try (have hun := Fa1; obtain ⟨_, _, _, _, _⟩ := hun)); (try (have hne := kne Fb1; obtain ⟨_, _, _, _⟩ := hne)); (try (have hun := Fb1; obtain ⟨_, _, _, _, _⟩ := hun)); (try (have hne := kne Fa3; obtain ⟨_, _, _, _⟩ := hne)); (try (have hun := Fa3; obtain ⟨_, _, _, _, _⟩ := hun)); (try (have hne := kne Fb3; obtain ⟨_, _, _, _⟩ := hne)); (try (have hun := Fb3; obtain ⟨_, _, _, _, _⟩ := hun)); (try (have hne := kne Fa2; obtain ⟨_, _, _, _⟩ := hne)); (try (have hun := Fa2; obtain ⟨_, _, _, _, _⟩ := hun)); (try (have hne := kne Fb2; obtain ⟨_, _, _, _⟩ := hne)); (try (have hun := Fb2; obtain ⟨_, _, _, _, _⟩ := hun)); (try (have hne := kne Fa4; obtain ⟨_, _, _, _⟩ := hne)); (try (have hun := Fa4; obtain ⟨_, _, _, _, _⟩ := hun)); (try (have hne := kne Fb4; obtain ⟨_, _, _, _⟩ := hne)); (try (have hun := Fb4; obtain ⟨_, _, _, _, _⟩ := hun))))
    all_goals
      go_wp2_with fail
      go_meet
      first
        | with_reducible exact fin1 HC hd2 hd4
        | with_reducible exact fin2 HC hd2 hd4
        | (with_reducible refine fin3 (isSl _ _ _) (isSl _ _ _) Fa1 ?_ HC hd2 hd4; first | assumption | omega)
        | (with_reducible refine fin4 (isSl _ _ _) (isSl _ _ _) Fa1 ?_ HC hd2 hd4; first | assumption | omega)
        | (with_reducible refine fin3 (isSl _ _ _) (isSl _ _ _) Fb1 ?_ HC hd2 hd4; first | assumption | omega)
        | (with_reducible refine fin4 (isSl _ _ _) (isSl _ _ _) Fb1 ?_ HC hd2 hd4; first | assumption | omega)
        | (with_reducible refine fin3 (isSl _ _ _) (isSl _ _ _) Fa3 ?_ HC hd2 hd4; first | assumption | omega)
        | (with_reducible refine fin4 (isSl _ _ _) (isSl _ _ _) Fa3 ?_ HC hd2 hd4; first | assumption | omega)
        | (with_reducible refine fin3 (isSl _ _ _) (isSl _ _ _) Fb3 ?_ HC hd2 hd4; first | assumption | omega)
        | (with_reducible refine fin4 (isSl _ _ _) (isSl _ _ _) Fb3 ?_ HC hd2 hd4; first | assumption | omega)
        | (with_reducible refine fin3 (isSl _ _ _) (isSl _ _ _) Fa2 ?_ HC hd2 hd4; first | assumption | omega)
        | (with_reducible refine fin4 (isSl _ _ _) (isSl _ _ _) Fa2 ?_ HC hd2 hd4; first | assumption | omega)
        | (with_reducible refine fin3 (isSl _ _ _) (isSl _ _ _) Fb2 ?_ HC hd2 hd4; first | assumption | omega)
        | (with_reducible refine fin4 (isSl _ _ _) (isSl _ _ _) Fb2 ?_ HC hd2 hd4; first | assumption | omega)
        | (with_reducible refine fin3 (isSl _ _ _) (isSl _ _ _) Fa4 ?_ HC hd2 hd4; first | assumption | omega)
        | (with_reducible refine fin4 (isSl _ _ _) (isSl _ _ _) Fa4 ?_ HC hd2 hd4; first | assumption | omega)
        | (with_reducible refine fin3 (isSl _ _ _) (isSl _ _ _) Fb4 ?_ HC hd2 hd4; first | assumption | omega)
        | (with_reducible refine fin4 (isSl _ _ _) (isSl _ _ _) Fb4 ?_ HC hd2 hd4; first | assumption | omega)
        | (with_reducible refine fin5 (isSl _ _ _) (isSl _ _ _) (isSl _ _ _) (isSl _ _ _) Fa1 Fb1 ?_ ?_ ?_ HC hd2 hd4 <;> first | assumption | omega)
        | (with_reducible refine fin5 (isSl _ _ _) (isSl _ _ _) (isSl _ _ _) (isSl _ _ _) Fa1 Fa3 ?_ ?_ ?_ HC hd2 hd4 <;> first | assumption | omega)
        | (with_reducible refine fin5 (isSl _ _ _) (isSl _ _ _) (isSl _ _ _) (isSl _ _ _) Fa1 Fb3 ?_ ?_ ?_ HC hd2 hd4 <;> first | assumption | omega)
        | (with_reducible refine fin5 (isSl _ _ _) (isSl _ _ _) (isSl _ _ _) (isSl _ _ _) Fa1 Fa2 ?_ ?_ ?_ HC hd2 hd4 <;> first | assumption | omega)
        | (with_reducible refine fin5 (isSl _ _ _) (isSl _ _ _) (isSl _ _ _) (isSl _ _ _) Fa1 Fb2 ?_ ?_ ?_ HC hd2 hd4 <;> first | assumption | omega)
        | (with_reducible refine fin5 (isSl _ _ _) (isSl _ _ _) (isSl _ _ _) (isSl _ _ _) Fa1 Fa4 ?_ ?_ ?_ HC hd2 hd4 <;> first | assumption | omega)
        | (with_reducible refine fin5 (isSl _ _ _) (isSl _ _ _) (isSl _ _ _) (isSl _ _ _) Fa1 Fb4 ?_ ?_ ?_ HC hd2 hd4 <;> first | assumption | omega)
        | (with_reducible refine fin5 (isSl _ _ _) (isSl _ _ _) (isSl _ _ _) (isSl _ _ _) Fb1 Fa1 ?_ ?_ ?_ HC hd2 hd4 <;> first | assumption | omega)
        | (with_reducible refine fin5 (isSl _ _ _) (isSl _ _ _) (isSl _ _ _) (isSl _ _ _) Fb1 Fa3 ?_ ?_ ?_ HC hd2 hd4 <;> first | assumption | omega)
        | (with_reducible refine fin5 (isSl _ _ _) (isSl _ _ _) (isSl _ _ _) (isSl _ _ _) Fb1 Fb3 ?_ ?_ ?_ HC hd2 hd4 <;> first | assumption | omega)
        | (with_reducible refine fin5 (isSl _ _ _) (isSl _ _ _) (isSl _ _ _) (isSl _ _ _) Fb1 Fa2 ?_ ?_ ?_ HC hd2 hd4 <;> first | assumption | omega)
        | (with_reducible refine fin5 (isSl _ _ _) (isSl _ _ _) (isSl _ _ _) (isSl _ _ _) Fb1 Fb2 ?_ ?_ ?_ HC hd2 hd4 <;> first | assumption | omega)
        | (with_reducible refine fin5 (isSl _ _ _) (isSl _ _ _) (isSl _ _ _) (isSl _ _ _) Fb1 Fa4 ?_ ?_ ?_ HC hd2 hd4 <;> first | assumption | omega)
        | (with_reducible refine fin5 (isSl _ _ _) (isSl _ _ _) (isSl _ _ _) (isSl _ _ _) Fb1 Fb4 ?_ ?_ ?_ HC hd2 hd4 <;> first | assumption | omega)
        | (with_reducible refine fin5 (isSl _ _ _) (isSl _ _ _) (isSl _ _ _) (isSl _ _ _) Fa3 Fa1 ?_ ?_ ?_ HC hd2 hd4 <;> first | assumption | omega)
        | (with_reducible refine fin5 (isSl _ _ _) (isSl _ _ _) (isSl _ _ _) (isSl _ _ _) Fa3 Fb1 ?_ ?_ ?_ HC hd2 hd4 <;> first | assumption | omega)
        | (with_reducible refine fin5 (isSl _ _ _) (isSl _ _ _) (isSl _ _ _) (isSl _ _ _) Fa3 Fb3 ?_ ?_ ?_ HC hd2 hd4 <;> first | assumption | omega)
        | (with_reducible refine fin5 (isSl _ _ _) (isSl _ _ _) (isSl _ _ _) (isSl _ _ _) Fa3 Fa2 ?_ ?_ ?_ HC hd2 hd4 <;> first | assumption | omega)
        | (with_reducible refine fin5 (isSl _ _ _) (isSl _ _ _) (isSl _ _ _) (isSl _ _ _) Fa3 Fb2 ?_ ?_ ?_ HC hd2 hd4 <;> first | assumption | omega)
        | (with_reducible refine fin5 (isSl _ _ _) (isSl _ _ _) (isSl _ _ _) (isSl _ _ _) Fa3 Fa4 ?_ ?_ ?_ HC hd2 hd4 <;> first | assumption | omega)
        | (with_reducible refine fin5 (isSl _ _ _) (isSl _ _ _) (isSl _ _ _) (isSl _ _ _) Fa3 Fb4 ?_ ?_ ?_ HC hd2 hd4 <;> first | assumption | omega)
        | (with_reducible refine fin5 (isSl _ _ _) (isSl _ _ _) (isSl _ _ _) (isSl _ _ _) Fb3 Fa1 ?_ ?_ ?_ HC hd2 hd4 <;> first | assumption | omega)
        | (with_reducible refine fin5 (isSl _ _ _) (isSl _ _ _) (isSl _ _ _) (isSl _ _ _) Fb3 Fb1 ?_ ?_ ?_ HC hd2 hd4 <;> first | assumption | omega)
        | (with_reducible refine fin5 (isSl _ _ _) (isSl _ _ _) (isSl _ _ _) (isSl _ _ _) Fb3 Fa3 ?_ ?_ ?_ HC hd2 hd4 <;> first | assumption | omega)
        | (with_reducible refine fin5 (isSl _ _ _) (isSl _ _ _) (isSl _ _ _) (isSl _ _ _) Fb3 Fa2 ?_ ?_ ?_ HC hd2 hd4 <;> first | assumption | omega)
        | (with_reducible refine fin5 (isSl _ _ _) (isSl _ _ _) (isSl _ _ _) (isSl _ _ _) Fb3 Fb2 ?_ ?_ ?_ HC hd2 hd4 <;> first | assumption | omega)
        | (with_reducible refine fin5 (isSl _ _ _) (isSl _ _ _) (isSl _ _ _) (isSl _ _ _) Fb3 Fa4 ?_ ?_ ?_ HC hd2 hd4 <;> first | assumption | omega)
        | (with_reducible refine fin5 (isSl _ _ _) (isSl _ _ _) (isSl _ _ _) (isSl _ _ _) Fb3 Fb4 ?_ ?_ ?_ HC hd2 hd4 <;> first | assumption | omega)
        | (with_reducible refine fin5 (isSl _ _ _) (isSl _ _ _) (isSl _ _ _) (isSl _ _ _) Fa2 Fa1 ?_ ?_ ?_ HC hd2 hd4 <;> first | assumption | omega)
        | (with_reducible refine fin5 (isSl _ _ _) (isSl _ _ _) (isSl _ _ _) (isSl _ _ _) Fa2 Fb1 ?_ ?_ ?_ HC hd2 hd4 <;> first | assumption | omega)
        | (with_reducible refine fin5 (isSl _ _ _) (isSl _ _ _) (isSl _ _ _) (isSl _ _ _) Fa2 Fa3 ?_ ?_ ?_ HC hd2 hd4 <;> first | assumption | omega)
        | (with_reducible refine fin5 (isSl _ _ _) (isSl _ _ _) (isSl _ _ _) (isSl _ _ _) Fa2 Fb3 ?_ ?_ ?_ HC hd2 hd4 <;> first | assumption | omega)
        | (with_reducible refine fin5 (isSl _ _ _) (isSl _ _ _) (isSl _ _ _) (isSl _ _ _) Fa2 Fb2 ?_ ?_ ?_ HC hd2 hd4 <;> first | assumption | omega)
        | (with_reducible refine fin5 (isSl _ _ _) (isSl _ _ _) (isSl _ _ _) (isSl _ _ _) Fa2 Fa4 ?_ ?_ ?_ HC hd2 hd4 <;> first | assumption | omega)
        | (with_reducible refine fin5 (isSl _ _ _) (isSl _ _ _) (isSl _ _ _) (isSl _ _ _) Fa2 Fb4 ?_ ?_ ?_ HC hd2 hd4 <;> first | assumption | omega)
        | (with_reducible refine fin5 (isSl _ _ _) (isSl _ _ _) (isSl _ _ _) (isSl _ _ _) Fb2 Fa1 ?_ ?_ ?_ HC hd2 hd4 <;> first | assumption | omega)
        | (with_reducible refine fin5 (isSl _ _ _) (isSl _ _ _) (isSl _ _ _) (isSl _ _ _) Fb2 Fb1 ?_ ?_ ?_ HC hd2 hd4 <;> first | assumption | omega)
        | (with_reducible refine fin5 (isSl _ _ _) (isSl _ _ _) (isSl _ _ _) (isSl _ _ _) Fb2 Fa3 ?_ ?_ ?_ HC hd2 hd4 <;> first | assumption | omega)
        | (with_reducible refine fin5 (isSl _ _ _) (isSl _ _ _) (isSl _ _ _) (isSl _ _ _) Fb2 Fb3 ?_ ?_ ?_ HC hd2 hd4 <;> first | assumption | omega)
        | (with_reducible refine fin5 (isSl _ _ _) (isSl _ _ _) (isSl _ _ _) (isSl _ _ _) Fb2 Fa2 ?_ ?_ ?_ HC hd2 hd4 <;> first | assumption | omega)
        | (with_reducible refine fin5 (isSl _ _ _) (isSl _ _ _) (isSl _ _ _) (isSl _ _ _) Fb2 Fa4 ?_ ?_ ?_ HC hd2 hd4 <;> first | assumption | omega)
        | (with_reducible refine fin5 (isSl _ _ _) (isSl _ _ _) (isSl _ _ _) (isSl _ _ _) Fb2 Fb4 ?_ ?_ ?_ HC hd2 hd4 <;> first | assumption | omega)
        | (with_reducible refine fin5 (isSl _ _ _) (isSl _ _ _) (isSl _ _ _) (isSl _ _ _) Fa4 Fa1 ?_ ?_ ?_ HC hd2 hd4 <;> first | assumption | omega)
        | (with_reducible refine fin5 (isSl _ _ _) (isSl _ _ _) (isSl _ _ _) (isSl _ _ _) Fa4 Fb1 ?_ ?_ ?_ HC hd2 hd4 <;> first | assumption | omega)
        | (with_reducible refine fin5 (isSl _ _ _) (isSl _ _ _) (isSl _ _ _) (isSl _ _ _) Fa4 Fa3 ?_ ?_ ?_ HC hd2 hd4 <;> first | assumption | omega)
        | (with_reducible refine fin5 (isSl _ _ _) (isSl _ _ _) (isSl _ _ _) (isSl _ _ _) Fa4 Fb3 ?_ ?_ ?_ HC hd2 hd4 <;> first | assumption | omega)
        | (with_reducible refine fin5 (isSl _ _ _) (isSl _ _ _) (isSl _ _ _) (isSl _ _ _) Fa4 Fa2 ?_ ?_ ?_ HC hd2 hd4 <;> first | assumption | omega)
        | (with_reducible refine fin5 (isSl _ _ _) (isSl _ _ _) (isSl _ _ _) (isSl _ _ _) Fa4 Fb2 ?_ ?_ ?_ HC hd2 hd4 <;> first | assumption | omega)
        | (with_reducible refine fin5 (isSl _ _ _) (isSl _ _ _) (isSl _ _ _) (isSl _ _ _) Fa4 Fb4 ?_ ?_ ?_ HC hd2 hd4 <;> first | assumption | omega)
        | (with_reducible refine fin5 (isSl _ _ _) (isSl _ _ _) (isSl _ _ _) (isSl _ _ _) Fb4 Fa1 ?_ ?_ ?_ HC hd2 hd4 <;> first | assumption | omega)
        | (with_reducible refine fin5 (isSl _ _ _) (isSl _ _ _) (isSl _ _ _) (isSl _ _ _) Fb4 Fb1 ?_ ?_ ?_ HC hd2 hd4 <;> first | assumption | omega)
        | (with_reducible refine fin5 (isSl _ _ _) (isSl _ _ _) (isSl _ _ _) (isSl _ _ _) Fb4 Fa3 ?_ ?_ ?_ HC hd2 hd4 <;> first | assumption | omega)
        | (with_reducible refine fin5 (isSl _ _ _) (isSl _ _ _) (isSl _ _ _) (isSl _ _ _) Fb4 Fb3 ?_ ?_ ?_ HC hd2 hd4 <;> first | assumption | omega)
        | (with_reducible refine fin5 (isSl _ _ _) (isSl _ _ _) (isSl _ _ _) (isSl _ _ _) Fb4 Fa2 ?_ ?_ ?_ HC hd2 hd4 <;> first | assumption | omega)
        | (with_reducible refine fin5 (isSl _ _ _) (isSl _ _ _) (isSl _ _ _) (isSl _ _ _) Fb4 Fb2 ?_ ?_ ?_ HC hd2 hd4 <;> first | assumption | omega)
        | (with_reducible refine fin5 (isSl _ _ _) (isSl _ _ _) (isSl _ _ _) (isSl _ _ _) Fb4 Fa4 ?_ ?_ ?_ HC hd2 hd4 <;> first | assumption | omega)
  case rest =>
  obtain ⟨gX, gY, rX, nX, cX, rX', nX', cX', rY, nY, cY, rY', nY', cY', rfl, rfl, BxX, BxY, DX, DY, hb6c⟩ := hcut
  clear kW
  replace Bx16 := Bx16.far hb6c
  replace Bx26 := Bx26.far hb6c
  replace Bx36 := Bx36.far hb6c
  replace D6 := D6.on hb6c
  replace HB6 := HB6.trans (hb6c.mono HB6.size)
  clear hb6c
  go_wp2_with fail
  have kW := Lib.hid (show ∀ w' : World, Below wc.heap.size wc w' → w'.cell? ⟨w.heap.size, 0, none⟩ = some (.slice a l c) ∧ w'.cell? ⟨w.heap.size, 1, none⟩ = some (.slice a' l' c') ∧ w'.cell? ⟨w1.heap.size, 0, none⟩ = some (.int .i64 0) ∧ w'.cell? ⟨w1.heap.size, 1, none⟩ = some (.int .i64 x.s) ∧ w'.cell? ⟨w1.heap.size, 2, none⟩ = some (.int .i64 x.n) ∧ w'.cell? ⟨w1.heap.size, 3, none⟩ = some (.string x.b) ∧ w'.cell? ⟨w1.heap.size, 4, none⟩ = some (.int .u64 x.lost) ∧ w'.cell? ⟨w2.heap.size, 0, none⟩ = some (.int .i64 0) ∧ w'.cell? ⟨w2.heap.size, 1, none⟩ = some (.int .i64 y.s) ∧ w'.cell? ⟨w2.heap.size, 2, none⟩ = some (.int .i64 y.n) ∧ w'.cell? ⟨w2.heap.size, 3, none⟩ = some (.string y.b) ∧ w'.cell? ⟨w2.heap.size, 4, none⟩ = some (.int .u64 y.lost) from fun w' h => by
    obtain ⟨_, a0, a1, _⟩ := Bx16.far h
    obtain ⟨⟨_, b0, b1, b2, b3, b4⟩, _⟩ := Bx26.far h
    obtain ⟨⟨_, c0, c1, c2, c3, c4⟩, _⟩ := Bx36.far h
    exact ⟨a0, a1, b0, b1, b2, b3, b4, c0, c1, c2, c3, c4⟩)
  go_cut [9, 10] (fun p q wx => TwoD wc (doD d x.zero) (doD (doD d x.zero) x.zero) p q wx)
  case first =>
    have HC : Below wc.heap.size wc wc := Below.refl _ _
    have DC := D6
    obtain ⟨_, x1_0, x1_1, _⟩ := id Bx16
    obtain ⟨⟨_, x2_0, x2_1, x2_2, x2_3, x2_4⟩, _⟩ := id Bx26
    obtain ⟨⟨_, x3_0, x3_1, x3_2, x3_3, x3_4⟩, _⟩ := id Bx36
    go_region_held3 (fun w' => w'.cell? ⟨w.heap.size, 0, none⟩ = some (.slice a l c) ∧ w'.cell? ⟨w.heap.size, 1, none⟩ = some (.slice a' l' c') ∧ w'.cell? ⟨w1.heap.size, 0, none⟩ = some (.int .i64 0) ∧ w'.cell? ⟨w1.heap.size, 1, none⟩ = some (.int .i64 x.s) ∧ w'.cell? ⟨w1.heap.size, 2, none⟩ = some (.int .i64 x.n) ∧ w'.cell? ⟨w1.heap.size, 3, none⟩ = some (.string x.b) ∧ w'.cell? ⟨w1.heap.size, 4, none⟩ = some (.int .u64 x.lost) ∧ w'.cell? ⟨w2.heap.size, 0, none⟩ = some (.int .i64 0) ∧ w'.cell? ⟨w2.heap.size, 1, none⟩ = some (.int .i64 y.s) ∧ w'.cell? ⟨w2.heap.size, 2, none⟩ = some (.int .i64 y.n) ∧ w'.cell? ⟨w2.heap.size, 3, none⟩ = some (.string y.b) ∧ w'.cell? ⟨w2.heap.size, 4, none⟩ = some (.int .u64 y.lost))
      (first | with_reducible exact kW.out _ HC | (with_reducible refine kW.out _ ?_; repeat' (first | with_reducible exact HC | with_reducible refine below_made ?_ _ | with_reducible refine Below.setCell ?_ ?_ _ | with_reducible refine Below.drew ?_ | with_reducible assumption | (dsimp only; omega) | (simp; done) | (simp; omega))))
      (first
        | ((fail_if_success (have _q := hd1)); go_at_call_of 29 (Value.slice a l c); go_split_ands; refine (do_from x.zero DC (by repeat (first | with_reducible assumption | with_reducible exact Below.refl _ _ | with_reducible refine below_made ?_ _ | with_reducible refine Below.drew ?_)) SD.out IX.out SX.out).mono ?_; rintro e wv1 ⟨r1, n1, c1, r1', n1', c1', rfl, hd1, hbB, hq⟩; have sz1 := hbB.size; have lw1 := HC.size; (try (have hne := kne Fa2; obtain ⟨_, _, _, _⟩ := hne)); (try (have hne := kne Fb2; obtain ⟨_, _, _, _⟩ := hne)); (try (have hne := kne Fa3; obtain ⟨_, _, _, _⟩ := hne)); (try (have hne := kne Fb3; obtain ⟨_, _, _, _⟩ := hne)); (first | (rw [kpt4_eq] at hq; obtain ⟨Fa1, Fb1⟩ := hq.get) | (rw [kpt3_eq] at hq; have Fa1 := hq.get) | (rw [kpt2_eq] at hq; obtain ⟨Fa1, Fb1⟩ := hq.get) | (rw [kpt1_eq] at hq; have Fa1 := hq.get) | skip); (try have ta1 := Fa1.1); (try have tb1 := Fb1.1); replace HC := HC.trans (hbB.mono HC.size); replace DC := DC.on hbB; (try replace hd2 := hd2.on hbB); (try replace hd3 := hd3.on hbB); (try replace Fa2 := Fa2.far hbB); (try replace Fb2 := Fb2.far hbB); (try replace Fa3 := Fa3.far hbB); (try replace Fb3 := Fb3.far hbB); clear hbB hq)
        | (go_at_call_of 29 (Value.slice a l c); go_split_ands; refine (do_from x.zero DC (by repeat (first | with_reducible assumption | with_reducible exact Below.refl _ _ | with_reducible refine below_made ?_ _ | with_reducible refine Below.drew ?_)) SD.out IX.out SX.out).mono ?_; rintro e wv2 ⟨r2, n2, c2, r2', n2', c2', rfl, hd2, hbB, hq⟩; have sz2 := hbB.size; have lw2 := HC.size; (try (have hne := kne Fa1; obtain ⟨_, _, _, _⟩ := hne)); (try (have hne := kne Fb1; obtain ⟨_, _, _, _⟩ := hne)); (try (have hne := kne Fa3; obtain ⟨_, _, _, _⟩ := hne)); (try (have hne := kne Fb3; obtain ⟨_, _, _, _⟩ := hne)); (first | (rw [kpt4_eq] at hq; obtain ⟨Fa2, Fb2⟩ := hq.get) | (rw [kpt3_eq] at hq; have Fa2 := hq.get) | (rw [kpt2_eq] at hq; obtain ⟨Fa2, Fb2⟩ := hq.get) | (rw [kpt1_eq] at hq; have Fa2 := hq.get) | skip); (try have ta2 := Fa2.1); (try have tb2 := Fb2.1); replace HC := HC.trans (hbB.mono HC.size); replace DC := DC.on hbB; (try replace hd1 := hd1.on hbB); (try replace hd3 := hd3.on hbB); (try replace Fa1 := Fa1.far hbB); (try replace Fb1 := Fb1.far hbB); (try replace Fa3 := Fa3.far hbB); (try replace Fb3 := Fb3.far hbB); clear hbB hq)
        | (go_at_call_of 29 (Value.slice r2 n2 c2); go_split_ands; refine (do_from x.zero hd2 (by repeat (first | with_reducible assumption | with_reducible exact Below.refl _ _ | with_reducible refine below_made ?_ _ | with_reducible refine Below.drew ?_)) OX.out IX.out SX.out).mono ?_; rintro e wv3 ⟨r3, n3, c3, r3', n3', c3', rfl, hd3, hbB, hq⟩; have sz3 := hbB.size; have lw3 := HC.size; (try (have hne := kne Fa1; obtain ⟨_, _, _, _⟩ := hne)); (try (have hne := kne Fb1; obtain ⟨_, _, _, _⟩ := hne)); (try (have hne := kne Fa2; obtain ⟨_, _, _, _⟩ := hne)); (try (have hne := kne Fb2; obtain ⟨_, _, _, _⟩ := hne)); (first | (rw [kpt4_eq] at hq; obtain ⟨Fa3, Fb3⟩ := hq.get) | (rw [kpt3_eq] at hq; have Fa3 := hq.get) | (rw [kpt2_eq] at hq; obtain ⟨Fa3, Fb3⟩ := hq.get) | (rw [kpt1_eq] at hq; have Fa3 := hq.get) | skip); (try have ta3 := Fa3.1); (try have tb3 := Fb3.1); replace HC := HC.trans (hbB.mono HC.size); replace DC := DC.on hbB; (try replace hd1 := hd1.on hbB); (try replace hd2 := hd2.on hbB); (try replace Fa1 := Fa1.far hbB); (try replace Fb1 := Fb1.far hbB); (try replace Fa2 := Fa2.far hbB); (try replace Fb2 := Fb2.far hbB); clear hbB hq; (try (have hne := kne Fa1; obtain ⟨_, _, _, _⟩ := hne)); (try (have hun := Fa1; obtain ⟨_, _, _, _, _⟩ := hun)); (try (have hne := kne Fb1; obtain ⟨_, _, _, _⟩ := hne)); (try (have hun := Fb1; obtain ⟨_, _, _, _, _⟩ := hun)); (try (have hne := kne Fa2; obtain ⟨_, _, _, _⟩ := hne)); (try (have hun := Fa2; obtain ⟨_, _, _, _, _⟩ := hun)); (try (have hne := kne Fb2; obtain ⟨_, _, _, _⟩ := hne)); (try (have hun := Fb2; obtain ⟨_, _, _, _, _⟩ := hun)); (try (have hne := kne Fa3; obtain ⟨_, _, _, _⟩ := hne)); (try (have hun := Fa3; obtain ⟨_, _, _, _, _⟩ := hun)); (try (have hne := kne Fb3; obtain ⟨_, _, _, _⟩ := hne)); (try (have hun := Fb3; obtain ⟨_, _, _, _, _⟩ := hun))))
    all_goals
      go_wp2_with fail
      go_meet
      first
        | with_reducible exact fin1 HC hd1 hd3
        | with_reducible exact fin2 HC hd1 hd3
        | (with_reducible refine fin3 (isSl _ _ _) (isSl _ _ _) Fa1 ?_ HC hd1 hd3; first | assumption | omega)
        | (with_reducible refine fin4 (isSl _ _ _) (isSl _ _ _) Fa1 ?_ HC hd1 hd3; first | assumption | omega)
        | (with_reducible refine fin3 (isSl _ _ _) (isSl _ _ _) Fb1 ?_ HC hd1 hd3; first | assumption | omega)
        | (with_reducible refine fin4 (isSl _ _ _) (isSl _ _ _) Fb1 ?_ HC hd1 hd3; first | assumption | omega)
        | (with_reducible refine fin3 (isSl _ _ _) (isSl _ _ _) Fa2 ?_ HC hd1 hd3; first | assumption | omega)
        | (with_reducible refine fin4 (isSl _ _ _) (isSl _ _ _) Fa2 ?_ HC hd1 hd3; first | assumption | omega)
        | (with_reducible refine fin3 (isSl _ _ _) (isSl _ _ _) Fb2 ?_ HC hd1 hd3; first | assumption | omega)
        | (with_reducible refine fin4 (isSl _ _ _) (isSl _ _ _) Fb2 ?_ HC hd1 hd3; first | assumption | omega)
        | (with_reducible refine fin3 (isSl _ _ _) (isSl _ _ _) Fa3 ?_ HC hd1 hd3; first | assumption | omega)
        | (with_reducible refine fin4 (isSl _ _ _) (isSl _ _ _) Fa3 ?_ HC hd1 hd3; first | assumption | omega)
        | (with_reducible refine fin3 (isSl _ _ _) (isSl _ _ _) Fb3 ?_ HC hd1 hd3; first | assumption | omega)
        | (with_reducible refine fin4 (isSl _ _ _) (isSl _ _ _) Fb3 ?_ HC hd1 hd3; first | assumption | omega)
        | (with_reducible refine fin5 (isSl _ _ _) (isSl _ _ _) (isSl _ _ _) (isSl _ _ _) Fa1 Fb1 ?_ ?_ ?_ HC hd1 hd3 <;> first | assumption | omega)
        | (with_reducible refine fin5 (isSl _ _ _) (isSl _ _ _) (isSl _ _ _) (isSl _ _ _) Fa1 Fa2 ?_ ?_ ?_ HC hd1 hd3 <;> first | assumption | omega)
        | (with_reducible refine fin5 (isSl _ _ _) (isSl _ _ _) (isSl _ _ _) (isSl _ _ _) Fa1 Fb2 ?_ ?_ ?_ HC hd1 hd3 <;> first | assumption | omega)
        | (with_reducible refine fin5 (isSl _ _ _) (isSl _ _ _) (isSl _ _ _) (isSl _ _ _) Fa1 Fa3 ?_ ?_ ?_ HC hd1 hd3 <;> first | assumption | omega)
        | (with_reducible refine fin5 (isSl _ _ _) (isSl _ _ _) (isSl _ _ _) (isSl _ _ _) Fa1 Fb3 ?_ ?_ ?_ HC hd1 hd3 <;> first | assumption | omega)
        | (with_reducible refine fin5 (isSl _ _ _) (isSl _ _ _) (isSl _ _ _) (isSl _ _ _) Fb1 Fa1 ?_ ?_ ?_ HC hd1 hd3 <;> first | assumption | omega)
        | (with_reducible refine fin5 (isSl _ _ _) (isSl _ _ _) (isSl _ _ _) (isSl _ _ _) Fb1 Fa2 ?_ ?_ ?_ HC hd1 hd3 <;> first | assumption | omega)
        | (with_reducible refine fin5 (isSl _ _ _) (isSl _ _ _) (isSl _ _ _) (isSl _ _ _) Fb1 Fb2 ?_ ?_ ?_ HC hd1 hd3 <;> first | assumption | omega)
        | (with_reducible refine fin5 (isSl _ _ _) (isSl _ _ _) (isSl _ _ _) (isSl _ _ _) Fb1 Fa3 ?_ ?_ ?_ HC hd1 hd3 <;> first | assumption | omega)
        | (with_reducible refine fin5 (isSl _ _ _) (isSl _ _ _) (isSl _ _ _) (isSl _ _ _) Fb1 Fb3 ?_ ?_ ?_ HC hd1 hd3 <;> first | assumption | omega)
        | (with_reducible refine fin5 (isSl _ _ _) (isSl _ _ _) (isSl _ _ _) (isSl _ _ _) Fa2 Fa1 ?_ ?_ ?_ HC hd1 hd3 <;> first | assumption | omega)
        | (with_reducible refine fin5 (isSl _ _ _) (isSl _ _ _) (isSl _ _ _) (isSl _ _ _) Fa2 Fb1 ?_ ?_ ?_ HC hd1 hd3 <;> first | assumption | omega)
        | (with_reducible refine fin5 (isSl _ _ _) (isSl _ _ _) (isSl _ _ _) (isSl _ _ _) Fa2 Fb2 ?_ ?_ ?_ HC hd1 hd3 <;> first | assumption | omega)
        | (with_reducible refine fin5 (isSl _ _ _) (isSl _ _ _) (isSl _ _ _) (isSl _ _ _) Fa2 Fa3 ?_ ?_ ?_ HC hd1 hd3 <;> first | assumption | omega)
        | (with_reducible refine fin5 (isSl _ _ _) (isSl _ _ _) (isSl _ _ _) (isSl _ _ _) Fa2 Fb3 ?_ ?_ ?_ HC hd1 hd3 <;> first | assumption | omega)
        | (with_reducible refine fin5 (isSl _ _ _) (isSl _ _ _) (isSl _ _ _) (isSl _ _ _) Fb2 Fa1 ?_ ?_ ?_ HC hd1 hd3 <;> first | assumption | omega)
        | (with_reducible refine fin5 (isSl _ _ _) (isSl _ _ _) (isSl _ _ _) (isSl _ _ _) Fb2 Fb1 ?_ ?_ ?_ HC hd1 hd3 <;> first | assumption | omega)
        | (with_reducible refine fin5 (isSl _ _ _) (isSl _ _ _) (isSl _ _ _) (isSl _ _ _) Fb2 Fa2 ?_ ?_ ?_ HC hd1 hd3 <;> first | assumption | omega)
        | (with_reducible refine fin5 (isSl _ _ _) (isSl _ _ _) (isSl _ _ _) (isSl _ _ _) Fb2 Fa3 ?_ ?_ ?_ HC hd1 hd3 <;> first | assumption | omega)
        | (with_reducible refine fin5 (isSl _ _ _) (isSl _ _ _) (isSl _ _ _) (isSl _ _ _) Fb2 Fb3 ?_ ?_ ?_ HC hd1 hd3 <;> first | assumption | omega)
        | (with_reducible refine fin5 (isSl _ _ _) (isSl _ _ _) (isSl _ _ _) (isSl _ _ _) Fa3 Fa1 ?_ ?_ ?_ HC hd1 hd3 <;> first | assumption | omega)
        | (with_reducible refine fin5 (isSl _ _ _) (isSl _ _ _) (isSl _ _ _) (isSl _ _ _) Fa3 Fb1 ?_ ?_ ?_ HC hd1 hd3 <;> first | assumption | omega)
        | (with_reducible refine fin5 (isSl _ _ _) (isSl _ _ _) (isSl _ _ _) (isSl _ _ _) Fa3 Fa2 ?_ ?_ ?_ HC hd1 hd3 <;> first | assumption | omega)
        | (with_reducible refine fin5 (isSl _ _ _) (isSl _ _ _) (isSl _ _ _) (isSl _ _ _) Fa3 Fb2 ?_ ?_ ?_ HC hd1 hd3 <;> first | assumption | omega)
        | (with_reducible refine fin5 (isSl _ _ _) (isSl _ _ _) (isSl _ _ _) (isSl _ _ _) Fa3 Fb3 ?_ ?_ ?_ HC hd1 hd3 <;> first | assumption | omega)
        | (with_reducible refine fin5 (isSl _ _ _) (isSl _ _ _) (isSl _ _ _) (isSl _ _ _) Fb3 Fa1 ?_ ?_ ?_ HC hd1 hd3 <;> first | assumption | omega)
        | (with_reducible refine fin5 (isSl _ _ _) (isSl _ _ _) (isSl _ _ _) (isSl _ _ _) Fb3 Fb1 ?_ ?_ ?_ HC hd1 hd3 <;> first | assumption | omega)
        | (with_reducible refine fin5 (isSl _ _ _) (isSl _ _ _) (isSl _ _ _) (isSl _ _ _) Fb3 Fa2 ?_ ?_ ?_ HC hd1 hd3 <;> first | assumption | omega)
        | (with_reducible refine fin5 (isSl _ _ _) (isSl _ _ _) (isSl _ _ _) (isSl _ _ _) Fb3 Fb2 ?_ ?_ ?_ HC hd1 hd3 <;> first | assumption | omega)
        | (with_reducible refine fin5 (isSl _ _ _) (isSl _ _ _) (isSl _ _ _) (isSl _ _ _) Fb3 Fa3 ?_ ?_ ?_ HC hd1 hd3 <;> first | assumption | omega)
  case rest =>
  obtain ⟨gP, gQ, rP, nP, cP, rP', nP', cP', rQ, nQ, cQ, rQ', nQ', cQ', rfl, rfl, BxP, BxQ, DP, DQ, hb7c⟩ := hcut
  clear kW
  replace BxX := BxX.far hb7c
  replace BxY := BxY.far hb7c
  replace Bx26 := Bx26.far hb7c
  replace Bx36 := Bx36.far hb7c
  replace DX := DX.on hb7c
  replace DY := DY.on hb7c
  replace HB6 := HB6.trans (hb7c.mono HB6.size)
  clear hb7c Bx16 D6
  have nn := dsame_spec wc.heap.size wc.heap.size _ _ _ _ wc DP (Nat.le_refl _) DQ (Nat.le_refl _) OX.out (chk_small (do_ok x.zero (do_ok x.zero HK.out)))
  rw [show sameD (doD d x.zero) (doD (doD d x.zero) x.zero) = true from sameD_iff.2 (do_twice x HK.out).symm] at nn
  obtain ⟨_, xP_0, xP_1, _⟩ := id BxP
  obtain ⟨_, xQ_0, xQ_1, _⟩ := id BxQ
  go_wp2_with fail
  refine nn.mono ?_
  rintro e wa ⟨rfl, hba⟩
  clear nn xP_0 xP_1 xQ_0 xQ_1 BxP BxQ DP DQ
  replace BxX := BxX.far hba
  replace BxY := BxY.far hba
  replace Bx26 := Bx26.far hba
  replace Bx36 := Bx36.far hba
  replace DX := DX.on hba
  replace DY := DY.on hba
  replace HB6 := HB6.trans (hba.mono HB6.size)
  clear hba
  obtain ⟨_, xX_0, xX_1, _⟩ := id BxX
  obtain ⟨_, xY_0, xY_1, _⟩ := id BxY
  obtain ⟨⟨_, x2_0, x2_1, x2_2, x2_3, x2_4⟩, _⟩ := id Bx26
  obtain ⟨⟨_, x3_0, x3_1, x3_2, x3_3, x3_4⟩, _⟩ := id Bx36
  have SXY := chk_small (do_ok y.zero (do_ok x.zero HK.out))
  have SYX := chk_small (do_ok x.zero (do_ok y.zero HK.out))
  have HXY := Lib.hid (And.intro SXY SYX)
  clear SXY SYX
  have hcase : (x.s = y.s ∧ x.n = y.n ∧ ¬ x.b = y.b) ∨ (x.s = y.s → x.n = y.n → x.b = y.b) := by
    by_cases h1 : x.s = y.s
    · by_cases h2 : x.n = y.n
      · by_cases h3 : x.b = y.b
        · exact .inr (fun _ _ => h3)
        · exact .inl ⟨h1, h2, h3⟩
      · exact .inr (fun _ h => absurd h h2)
    · exact .inr (fun h => absurd h h1)
  rcases hcase with ⟨h1, h2, h3⟩ | hcomm
  · have h1' : (x.s == y.s) = true := by simpa using h1
    have h2' : (x.n == y.n) = true := by simpa using h2
    have h3' : (x.b.toList == y.b.toList) = false := by
      rcases hq : (x.b.toList == y.b.toList) with _ | _
      · rfl
      · exact absurd (toList_inj (by simpa using hq)) h3
    have nn := wakes_any wa
    clear h1 h2 h3
    go_wp2_with fail
    refine nn.mono ?_
    rintro e wz ⟨rfl, hbz⟩
    go_wp2
    go_ret
    exact ⟨rfl, HB6.trans (hbz.mono HB6.size)⟩
  · have nn := dsame_spec wa.heap.size wa.heap.size _ _ _ _ wa DX (Nat.le_refl _) DY (Nat.le_refl _) HXY.out.1 HXY.out.2
    rw [show sameD (doD (doD d x.zero) y.zero) (doD (doD d y.zero) x.zero) = true from sameD_iff.2 (do_comm x y HK.out hcomm)] at nn
    have h4 : ((x.s == y.s) && (x.n == y.n) && !(x.b.toList == y.b.toList)) = false := by
      rcases h1 : (x.s == y.s) with _ | _
      · rfl
      rcases h2 : (x.n == y.n) with _ | _
      · rfl
      rw [hcomm (by simpa using h1) (by simpa using h2)]
      simp
    clear hcomm
    rcases h1 : (x.s == y.s) with _ | _
    · go_wp2_with fail
      refine nn.mono ?_
      rintro e wb ⟨rfl, hbb⟩
      have nn2 := wakes_any wb
      go_wp2_with fail
      refine nn2.mono ?_
      rintro e wz ⟨rfl, hbz⟩
      go_wp2
      go_ret
      exact ⟨rfl, (HB6.trans (hbb.mono HB6.size)).trans (hbz.mono (HB6.trans (hbb.mono HB6.size)).size)⟩
    rcases h2 : (x.n == y.n) with _ | _
    · go_wp2_with fail
      refine nn.mono ?_
      rintro e wb ⟨rfl, hbb⟩
      have nn2 := wakes_any wb
      go_wp2_with fail
      refine nn2.mono ?_
      rintro e wz ⟨rfl, hbz⟩
      go_wp2
      go_ret
      exact ⟨rfl, (HB6.trans (hbb.mono HB6.size)).trans (hbz.mono (HB6.trans (hbb.mono HB6.size)).size)⟩
    · rw [h1, h2] at h4
      have h3 : (x.b.toList == y.b.toList) = true := by simpa using h4
      clear h4
      go_wp2_with fail
      refine nn.mono ?_
      rintro e wb ⟨rfl, hbb⟩
      have nn2 := wakes_any wb
      go_wp2_with fail
      refine nn2.mono ?_
      rintro e wz ⟨rfl, hbz⟩
      go_wp2
      go_ret
      exact ⟨rfl, (HB6.trans (hbb.mono HB6.size)).trans (hbz.mono (HB6.trans (hbb.mono HB6.size)).size)⟩
end Go.Proofs.Ytjahhheipeggeaa
