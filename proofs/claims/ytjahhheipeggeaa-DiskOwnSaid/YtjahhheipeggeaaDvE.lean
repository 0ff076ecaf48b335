/- What is proved: the contracts of disk's Crash and Sync. -/
import Derived.Test.YtjahhheipeggeaaDvD
namespace Go.Proofs.Ytjahhheipeggeaa
open Go.RowKit

def leftTo (d : Dsk) (lost : Int) : Nat → List Sec
  | 0 => d.now
  | k + 1 => if bitI lost k then (leftTo d lost k).set k (d.sure[k]?.getD noSec) else leftTo d lost k
theorem leftTo_len (d : Dsk) (lost : Int) (k : Nat) : (leftTo d lost k).length = d.now.length := by
  induction k with
  | zero => rfl
  | succ k ih =>
    unfold leftTo
    split
    · rw [List.length_set]; exact ih
    · exact ih
theorem leftTo_crash (d : Dsk) (lost : Int) (k : Nat) (h : k ≤ 33) (h1 : d.now.length = 33) (h2 : d.sure.length = 33) : (crashTo d lost k).now = leftTo d lost k := by
  induction k with
  | zero => rfl
  | succ k ih =>
    have i := ih (by omega)
    have a := (crashTo_at d lost k k (by omega) h1 h2 (by omega)).2
    rw [if_neg (Nat.lt_irrefl _)] at a
    unfold crashTo leftTo
    split
    · simp only []
      rw [i, a]
      rfl
    · exact i
theorem leftTo_end (d : Dsk) (lost : Int) (h1 : d.now.length = 33) (h2 : d.sure.length = 33) : (⟨leftTo d lost 33, leftTo d lost 33⟩ : Dsk) = crashD d lost := by
  have e := crashTo_end d lost h1 h2
  have a := leftTo_crash d lost 33 (Nat.le_refl _) h1 h2
  rw [e] at a
  rw [← a]
  rfl
/-- What holds at every round's head of disk's Crash. -/
def LfR (W : World) (R g c : Nat) (e : TypeId) (xs : List Sec) (w : World) : Prop :=
  Below W.heap.size W w ∧ w.cell? ⟨R, 0, none⟩ = some (.slice none 0 0) ∧ w.cell? ⟨R, 1, none⟩ = some (.slice none 0 0) ∧ w.frozen? ⟨R, 0, none⟩ = false ∧ w.frozen? ⟨R, 1, none⟩ = false ∧
  g < w.heap.size ∧ w.ownsRow W.heap.size e 2 (.slice (some ⟨g, 0, none⟩) 33 c) 33 (secs xs)
theorem LfR.on {W w w' : World} {R g c : Nat} {e : TypeId} {xs : List Sec} (h : LfR W R g c e xs w) (hR : R < w.heap.size) (hb : Below w.heap.size w w') : LfR W R g c e xs w' := by
  obtain ⟨h1, h2, h3, h4, h5, h6, h7⟩ := h
  exact ⟨h1.trans (hb.mono h1.size), (hb.cell (p := ⟨R, 0, none⟩) hR).trans h2, (hb.cell (p := ⟨R, 1, none⟩) hR).trans h3, (hb.frozen (p := ⟨R, 0, none⟩) hR).trans h4, (hb.frozen (p := ⟨R, 1, none⟩) hR).trans h5, Nat.lt_of_lt_of_le h6 hb.size, own_below h7 hb⟩
theorem LfR.put {W w : World} {R g c : Nat} {e : TypeId} {xs : List Sec} (h : LfR W R g c e xs w) (hW : W.heap.size ≤ g) (n2 : g ≠ R) {k : Nat} (hk : k < xs.length) (s : Sec) :
    LfR W R g c e (xs.set k s) ((w.setCell ⟨g, k * 2, none⟩ (.int .i64 s.n)).setCell ⟨g, k * 2 + 1, none⟩ (.string s.b)) := by
  obtain ⟨h1, h4, h5, h6, h7, h8, h10⟩ := h
  have hb : ∀ p : Addr, p.block ≠ g → ((w.setCell ⟨g, k * 2, none⟩ (.int .i64 s.n)).setCell ⟨g, k * 2 + 1, none⟩ (.string s.b)).heap[p.block]? = w.heap[p.block]? := fun p hp =>
    (Below.heap_setCell _ _ _ _ (fun e => hp e)).trans (Below.heap_setCell _ _ _ _ (fun e => hp e))
  refine ⟨(h1.setCell hW _).setCell hW _, (World.cell?_of_block (hb ⟨R, 0, none⟩ (Ne.symm n2))).trans h4, (World.cell?_of_block (hb ⟨R, 1, none⟩ (Ne.symm n2))).trans h5,
    (World.frozen?_of_block (hb ⟨R, 0, none⟩ (Ne.symm n2))).trans h6, (World.frozen?_of_block (hb ⟨R, 1, none⟩ (Ne.symm n2))).trans h7, by simpa using h8, ?_⟩
  rw [← secs_set _ _ _ hk]
  exact ((h10.stored (k * 2) _).1.stored (k * 2 + 1) _).1

set_option maxHeartbeats 3200000 in
theorem dcrash_no (lo hi : Nat) (v : Value) (d : Dsk) (lost : Int) (w : World) (hd : Dk w lo hi v d) (hh : hi ≤ w.heap.size) (hk : chkB d = false) :
    Calls Try.prog 17 #[v, .int .u64 lost] w fun e w' => e = .returned (.tuple #[nilDisk, .int .i64 2]) ∧ Below w.heap.size w w' := by
  obtain ⟨a, l, c, a', l', c', rfl, h1, h2, hc⟩ := hd
  obtain ⟨W2, e2, hb1, k0, k1, k3, k4, k5, hsz⟩ := two_boxes w 24 24 (.slice a l c) (.slice a' l' c') (.slice none 0 0) (.slice none 0 0)
  have r1 := dcheck_walk lo hi (.agg #[.slice a l c, .slice a' l' c']) d W2 ⟨a, l, c, a', l', c', rfl, h1.far (hb1.mono hh), h2.far (hb1.mono hh), hc⟩ (by omega)
  rw [chk_no hk] at r1
  clear hk h1 h2
  go_enter Try.func17, Try.ntmps17
  go_wp2_with fail
  refine r1.mono ?_
  rintro e w3 ⟨rfl, hb3⟩
  obtain ⟨q0, q1, q2, q3⟩ := kR k3 k4 k5 hsz hb3
  have hend : Below w.heap.size w ((w3.setCell ⟨w.heap.size + 1, 0, none⟩ (.slice none 0 0)).setCell ⟨w.heap.size + 1, 1, none⟩ (.slice none 0 0)) := ((hb1.trans (hb3.mono hb1.size)).setCell (Nat.le_succ _) _).setCell (Nat.le_succ _) _
  clear k0 k1 k3 k4 k5 e2
  go_wp2
  exact bodyPost_ret (v := .tuple #[nilDisk, .int .i64 2]) (by simp [results, Try.results17, go_sem, nilDisk, q0, q1]) rfl ⟨rfl, hend⟩

set_option maxHeartbeats 3200000 in
theorem dcrash_yes (lo hi : Nat) (v : Value) (d : Dsk) (lost : Int) (w : World) (hd : Dk w lo hi v d) (hh : hi ≤ w.heap.size) (hk : chkB d = true) (hl0 : 0 ≤ lost) (hl1' : lost < 18446744073709551616) :
    Calls Try.prog 17 #[v, .int .u64 lost] w fun e w' => ∃ v', e = .returned (.tuple #[v', .int .i64 0]) ∧ Own2 w.heap.size w' 35 v' (crashD d lost) ∧ Below w.heap.size w w' := by
  obtain ⟨a, l, c, a', l', c', rfl, h1, h2, hc⟩ := hd
  obtain ⟨W2, e2, hb1, k0, k1, k3, k4, k5, hsz⟩ := two_boxes w 24 24 (.slice a l c) (.slice a' l' c') (.slice none 0 0) (.slice none 0 0)
  have r1 := dcheck_walk lo hi (.agg #[.slice a l c, .slice a' l' c']) d W2 ⟨a, l, c, a', l', c', rfl, h1.far (hb1.mono hh), h2.far (hb1.mono hh), hc⟩ (by omega)
  obtain ⟨hp1, hp2, _⟩ := chkB_parts hk
  have hl1 : l = 33 := by rw [← secs_len h1]; exact rowB_length hp1
  have hl2 : l' = 33 := by rw [← secs_len h2]; exact rowB_length hp2
  subst hl1 hl2
  have HL := Lib.hid (rowB_length hp1)
  have HL' := Lib.hid (rowB_length hp2)
  have HE := Lib.hid (leftTo_end d lost HL.out HL'.out)
  rw [chk_yes hk] at r1
  clear hk hp1 hp2
  go_enter Try.func17, Try.ntmps17
  go_wp2_with fail
  refine r1.mono ?_
  rintro e w3 ⟨rfl, hb3⟩
  have hB3 := hb1.trans (hb3.mono hb1.size)
  obtain ⟨q0, q1, q2, q3⟩ := kR k3 k4 k5 hsz hb3
  have q4 := (hb3.cell (p := ⟨w.heap.size, 0, none⟩) (show w.heap.size < _ by omega)).trans k0
  have q5 := (hb3.cell (p := ⟨w.heap.size, 1, none⟩) (show w.heap.size < _ by omega)).trans k1
  have hz3 := hb3.size
  have r2 := clone_walk lo hi a 33 c d.now w3 (h1.far (hB3.mono hh)) (by omega) (by decide) (by decide)
  have H2 := Lib.hid (h2.far (hB3.mono hh))
  clear k0 k1 k3 k4 k5 e2 r1 h1 h2
  go_wp2_with fail
  refine r2.mono ?_
  rintro e w4 ⟨g, c3, rfl, hg1, hg2, ho1, hb4⟩
  have hz4 := hb4.size
  have hB4 := hB3.trans (hb4.mono hB3.size)
  have p5 := (hb4.cell (p := ⟨w.heap.size, 1, none⟩) (show w.heap.size < _ by omega)).trans q5
  have hR : LfR w (w.heap.size + 1) g c3 35 (leftTo d lost 0) w4 :=
    ⟨hB4, (hb4.cell (p := ⟨w.heap.size + 1, 0, none⟩) (show w.heap.size + 1 < _ by omega)).trans q0, (hb4.cell (p := ⟨w.heap.size + 1, 1, none⟩) (show w.heap.size + 1 < _ by omega)).trans q1,
      (hb4.frozen (p := ⟨w.heap.size + 1, 0, none⟩) (show w.heap.size + 1 < _ by omega)).trans q2, (hb4.frozen (p := ⟨w.heap.size + 1, 1, none⟩) (show w.heap.size + 1 < _ by omega)).trans q3, hg2, own_base ho1 (by omega)⟩
  have H3 := Lib.hid (H2.out.far (hb4.mono (show hi ≤ w3.heap.size by omega)))
  obtain ⟨g', o', rfl, _, hg2', hcell'⟩ := H3.out.addr (by decide)
  have HC' := Lib.hid hcell'
  have hw4 : w.heap.size + 2 ≤ w4.heap.size := by omega
  clear q0 q1 q2 q3 q4 q5 r2 hb3 hb4 hB3 hb1 ho1 hB4 hcell'
  go_wp2
  go_loopw [22] (fun i wr => ∃ k : Nat, k ≤ 33 ∧ i = .int .i64 k ∧ Below w4.heap.size w4 (w4) ∧ (∀ j u, (secs d.sure)[j]? = some u → wr.cell? ⟨g', o' + j, none⟩ = some u) ∧ w4.heap.size ≤ wr.heap.size ∧ LfR w (w.heap.size + 1) g c3 35 (leftTo d lost k) wr) (fun i _ => 33 - (intOf i).toNat)
  case atStart => exact ⟨0, Nat.zero_le _, rfl, Below.refl _ _, HC'.out, Nat.le_refl _, hR⟩
  case round =>
    obtain ⟨k, hk, rfl, _, hcs, hsz4, hcr⟩ := hrel
    by_cases hlt : k < 33
    · have l2 : k < d.sure.length := by rw [HL'.out]; exact hlt
      obtain ⟨t, ht⟩ : ∃ t, d.sure[k]? = some t := ⟨_, List.getElem?_eq_getElem l2⟩
      have hbit := bit_u64 lost k hl0 hl1'
      have hki : (k : Int) < 33 := by omega
      have hk0 : (0 : Int) ≤ k := by omega
      obtain ⟨c5, c6⟩ := secs_cell hcs ht
      obtain ⟨W6, e6, hb6, m0, m1, hsz6⟩ := one_box wr 35 (.int .i64 t.n) (.string t.b)
      have hL6 := hcr.on (show w.heap.size + 1 < wr.heap.size by omega) hb6
      have hcs6 : ∀ j u, (secs d.sure)[j]? = some u → W6.cell? ⟨g', o' + j, none⟩ = some u := fun j u hu => (hb6.cell (p := ⟨g', o' + j, none⟩) (show g' < wr.heap.size by omega)).trans (hcs j u hu)
      have n6 : ¬ g = wr.heap.size := by have := hcr.2.2.2.2.2.1; omega
      have n7 : ¬ wr.heap.size = g := by omega
      rcases hq : bitI lost k with _ | _
      · have HT := Lib.hid (show leftTo d lost (k + 1) = leftTo d lost k by
          show (if bitI lost k then _ else _) = _
          rw [hq, if_neg (by decide)])
        rw [hq] at hbit
        have HST := Lib.hid (And.intro hcs6 hL6)
        clear hcr hcs hcs6 hL6 hq ht hR
        go_wp2
        go_roundw
        case rel => exact ⟨k + 1, by omega, by go_num, Below.refl _ _, HST.out.1, by omega, by rw [HT.out]; exact HST.out.2⟩
        case measure => simp [intOf]; omega
      · have HT := Lib.hid (show leftTo d lost (k + 1) = (leftTo d lost k).set k t by
          show (if bitI lost k then _ else _) = _
          rw [hq, if_pos rfl, ht]; rfl)
        have l1 : k < (leftTo d lost k).length := by rw [leftTo_len, HL.out]; exact hlt
        have hst := hL6.put (show w.heap.size ≤ g by omega) (show g ≠ w.heap.size + 1 by omega) l1 t
        have i10 := hL6.2.2.2.2.2.2
        have f1 := i10.frozenAt (k * 2)
        have f2 := i10.frozenAt (k * 2 + 1)
        have c1 : W6.cell? ⟨g, k * 2, none⟩ = some (.int .i64 (leftTo d lost k)[k].n) := by rw [i10.cellAt (k * 2) (by omega), secs_n _ k l1]
        have c2 : W6.cell? ⟨g, k * 2 + 1, none⟩ = some (.string (leftTo d lost k)[k].b) := by rw [i10.cellAt (k * 2 + 1) (by omega), secs_b _ k l1]
        generalize (leftTo d lost k)[k] = s at *
        rw [hq] at hbit
        have hcs7 : ∀ j u, (secs d.sure)[j]? = some u → ((W6.setCell ⟨g, k * 2, none⟩ (.int .i64 t.n)).setCell ⟨g, k * 2 + 1, none⟩ (.string t.b)).cell? ⟨g', o' + j, none⟩ = some u := fun j u hu => by
          rw [World.cell?_setCell_other _ _ _ _ (fun e => by have := congrArg Addr.block e; simp only at this; omega), World.cell?_setCell_other _ _ _ _ (fun e => by have := congrArg Addr.block e; simp only at this; omega)]
          exact hcs6 j u hu
        have HST := Lib.hid (And.intro hcs7 hst)
        clear hcr hcs hcs6 hcs7 hL6 hst hq ht hR i10
        go_wp2
        go_roundw
        case rel => exact ⟨k + 1, by omega, by go_num, Below.refl _ _, HST.out.1, by simp; omega, by rw [HT.out]; exact HST.out.2⟩
        case measure => simp [intOf]; omega
    · obtain rfl : k = 33 := by omega
      obtain ⟨i1, i4, i5, i6, i7, i8, i10⟩ := hcr
      obtain ⟨_, _, e1, _, _, hrg⟩ := Rg.own i10
      cases e1
      have r5 := clone_walk w.heap.size wr.heap.size (some ⟨g, 0, none⟩) 33 c3 (leftTo d lost 33) wr hrg (Nat.le_refl _) (by decide) (by decide)
      clear hcs hR hrg
      go_wp2_with fail
      refine r5.mono ?_
      rintro e w5 ⟨g5, c5, rfl, hg5, hk5, ho5, hb5⟩
      have z0 := (hb5.cell (p := ⟨w.heap.size + 1, 0, none⟩) (show w.heap.size + 1 < _ by omega)).trans i4
      have z1 := (hb5.cell (p := ⟨w.heap.size + 1, 1, none⟩) (show w.heap.size + 1 < _ by omega)).trans i5
      have z2 := (hb5.frozen (p := ⟨w.heap.size + 1, 0, none⟩) (show w.heap.size + 1 < _ by omega)).trans i6
      have z3 := (hb5.frozen (p := ⟨w.heap.size + 1, 1, none⟩) (show w.heap.size + 1 < _ by omega)).trans i7
      have j1 := own_below i10 hb5
      have hz5 := hb5.size
      have hi1 := i1.trans (hb5.mono i1.size)
      have hend : Below w.heap.size w ((w5.setCell ⟨w.heap.size + 1, 0, none⟩ (.slice (some ⟨g, 0, none⟩) 33 c3)).setCell ⟨w.heap.size + 1, 1, none⟩ (.slice (some ⟨g5, 0, none⟩) 33 c5)) := (hi1.setCell (Nat.le_succ _) _).setCell (Nat.le_succ _) _
      have y1 := own_set_far (own_set_far j1 (p := ⟨w.heap.size + 1, 0, none⟩) (show g ≠ w.heap.size + 1 by omega) (.slice (some ⟨g, 0, none⟩) 33 c3)) (p := ⟨w.heap.size + 1, 1, none⟩) (show g ≠ w.heap.size + 1 by omega) (.slice (some ⟨g5, 0, none⟩) 33 c5)
      have y2 := own_set_far (own_set_far ho5 (p := ⟨w.heap.size + 1, 0, none⟩) (show g5 ≠ w.heap.size + 1 by omega) (.slice (some ⟨g, 0, none⟩) 33 c3)) (p := ⟨w.heap.size + 1, 1, none⟩) (show g5 ≠ w.heap.size + 1 by omega) (.slice (some ⟨g5, 0, none⟩) 33 c5)
      have HO := Lib.hid (And.intro y1 y2)
      clear i10 i1 i4 i5 i6 i7 y1 y2 j1 ho5 hi1
      go_wp2
      refine bodyPost_ret (v := .tuple #[.agg #[.slice (some ⟨g, 0, none⟩) 33 c3, .slice (some ⟨g5, 0, none⟩) 33 c5], .int .i64 0]) (by simp [results, Try.results17, go_sem, z0, z1]) rfl ⟨_, rfl, ?_, hend⟩
      rw [← HE.out]
      exact ⟨g, 33, c3, g5, 33, c5, rfl, by omega, by omega, by omega, by simp; omega, by simp; omega, HO.out.1, own_base HO.out.2 (by omega)⟩

theorem dcrash_spec : CrashSpec 17 := by
  intro hi v d lost w hd hh _ h0 h1
  rcases hk : chkB d with _ | _
  · refine (dcrash_no 0 hi v d lost w hd hh hk).mono ?_
    rintro e w' ⟨rfl, hb⟩
    unfold crashF
    rw [hk]
    exact ⟨_, rfl, nil_dk _ _ _, hb, fun Q _ _ => avo_nil Q⟩
  · refine (dcrash_yes 0 hi v d lost w hd hh hk h0 h1).mono ?_
    rintro e w' ⟨v', rfl, ho, hb⟩
    unfold crashF
    rw [hk]
    exact ⟨_, rfl, own2_0 ho, hb, fun Q hQ _ => ho.avo hQ⟩
end Go.Proofs.Ytjahhheipeggeaa
