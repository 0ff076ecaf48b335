/- What is proved: the walk of DiskCrash: it returns true at every input, whenever the package disk's functions answer as the document says. -/
import Derived.Test.YtjahhheipeggeaaDskP
import Derived.Test.YtjahhheipeggeaaDskQ
import Derived.Deep.RegionHeld3
namespace Go.Proofs.Ytjahhheipeggeaa
open Go.RowKit

/-- What holds at every round's head of DiskCrash's loop. -/
def ClR (W : World) (P R : Nat) (a : Option Addr) (l c : Nat) (a' : Option Addr) (l' c' : Nat) (d : Dsk) (b : Option Addr) (m k : Nat) (b' : Option Addr) (m' k' : Nat) (e : Dsk) (w : World) : Prop :=
  Below W.heap.size W w ∧ Box w P (.slice a l c) (.slice a' l' c') ∧ Box w R (.slice b m k) (.slice b' m' k') ∧ Dk w 0 w.heap.size (.agg #[.slice a l c, .slice a' l' c']) d ∧ Dk w 0 w.heap.size (.agg #[.slice b m k, .slice b' m' k']) e
theorem ClR.on {W : World} {P R : Nat} {a : Option Addr} {l c : Nat} {a' : Option Addr} {l' c' : Nat} {d : Dsk} {b : Option Addr} {m k : Nat} {b' : Option Addr} {m' k' : Nat} {e : Dsk} {w w' : World} (h : ClR W P R a l c a' l' c' d b m k b' m' k' e w) (hb : Below w.heap.size w w') : ClR W P R a l c a' l' c' d b m k b' m' k' e w' :=
  ⟨h.1.trans (hb.mono h.1.size), h.2.1.far hb, h.2.2.1.far hb, h.2.2.2.1.on hb, h.2.2.2.2.on hb⟩
theorem Dk.rows {w : World} {lo hi : Nat} {a : Option Addr} {l c : Nat} {a' : Option Addr} {l' c' : Nat} {d : Dsk} (h : Dk w lo hi (.agg #[.slice a l c, .slice a' l' c']) d) : Rg 2 w lo hi a l (secs d.now) ∧ Rg 2 w lo hi a' l' (secs d.sure) ∧ l ≤ c ∧ l' ≤ c' ∧ c ≤ maxLen ∧ c' ≤ maxLen := by
  obtain ⟨b, m, k, b', m', k', e, h1, h2, h3⟩ := h
  cases e
  exact ⟨h1, h2, h3⟩
set_option maxRecDepth 100000 in
set_option maxHeartbeats 16000000 in
theorem crash_in (hN : NewSpec 28) (hP : PutSpec 12) (hS : SyncSpec 15) (hC : CrashSpec 17) (hG : GetSpec 19) (hM : SameSpec 23) (hD : DirtySpec 25)
    (a : Option Addr) (l c : Nat) (a' : Option Addr) (l' c' : Nat) (d : Dsk) (lost : Int) (w : World)
    (Dd : Dk w 0 w.heap.size (.agg #[.slice a l c, .slice a' l' c']) d) (hk : chkB d = true) (h0 : 0 ≤ lost) (h1 : lost < 18446744073709551616) :
    Calls Try.prog 7 #[.agg #[.slice a l c, .slice a' l' c'], .int .u64 lost] w fun e w' => e = .returned (.bool true) ∧ Below w.heap.size w w' := by
  have HB := Below.refl w.heap.size w
  have HK := Lib.hid hk
  have SD := Lib.hid (chk_small hk)
  have CK := Lib.hid (chk_yes hk)
  have SC := Lib.hid (chk_small (crash_ok lost hk))
  have SS := Lib.hid (chk_small (sync_ok hk))
  have E1 := Lib.hid (show crashF d lost = (crashD d lost, 0) by unfold crashF; rw [hk]; rfl)
  have E2 := Lib.hid (show syncF d = (⟨d.now, d.now⟩, 0) by unfold syncF; rw [hk]; rfl)
  have E3 := Lib.hid (show crashF d 0 = (⟨d.now, d.now⟩, 0) by unfold crashF; rw [hk, crash_zero (rowB_length (chkB_parts hk).1)]; rfl)
  have E4 := Lib.hid (show crashF ⟨d.now, d.now⟩ lost = (⟨d.now, d.now⟩, 0) by unfold crashF; rw [sync_ok hk, crash_sync lost (rowB_length (chkB_parts hk).1)]; rfl)
  have LN := Lib.hid (rowB_length (chkB_parts hk).1)
  have LS := Lib.hid (rowB_length (chkB_parts hk).2.1)
  have hgd : Try.prog.eqGuardType Try.prog.depth 35 = false := by kernel_rfl
  clear hk
  obtain ⟨w1, ee, hbx, Bx1, hzz⟩ := box_new w 24 (.slice a l c) (.slice a' l' c')
  have l_x1 := HB.size
  replace hzz := Lib.hid hzz
  replace Dd := Dd.on hbx
  replace HB := HB.trans (hbx.mono HB.size)
  clear hbx hzz
  go_enter Try.func7, Try.ntmps7
  have nn := great_walk 0 w1.heap.size _ d w1 Dd (Nat.le_refl _)
  obtain ⟨_, x1_0, x1_1, x1_2, x1_3⟩ := id Bx1
  go_wp2_with fail
  refine nn.mono ?_
  rintro e w2 ⟨rfl, hbx⟩
  clear x1_0 x1_1 x1_2 x1_3
  clear nn
  replace Bx1 := Bx1.far hbx
  replace Dd := Dd.on hbx
  replace HB := HB.trans (hbx.mono HB.size)
  clear hbx
  rw [SD.out]
  have nn := rcheck_spec w2.heap.size _ d w2 Dd (Nat.le_refl _) SD.out
  obtain ⟨_, x1_0, x1_1, x1_2, x1_3⟩ := id Bx1
  go_wp2_with fail
  refine nn.mono ?_
  rintro e w3 ⟨rfl, hbx⟩
  clear x1_0 x1_1 x1_2 x1_3
  clear nn
  replace Bx1 := Bx1.far hbx
  replace Dd := Dd.on hbx
  replace HB := HB.trans (hbx.mono HB.size)
  clear hbx
  rw [CK.out]
  have nn := hC w3.heap.size _ d lost w3 Dd (Nat.le_refl _) SD.out h0 h1
  rw [E1.out] at nn
  obtain ⟨_, x1_0, x1_1, x1_2, x1_3⟩ := id Bx1
  go_wp2_with fail
  refine nn.mono ?_
  rintro e w5 ⟨_, rfl, Du, hbx, _⟩
  clear x1_0 x1_1 x1_2 x1_3
  clear nn
  obtain ⟨ua, ul, uc, ua', ul', uc', rfl, _⟩ := id Du
  simp only at Du
  replace Bx1 := Bx1.far hbx
  replace Dd := Dd.on hbx
  replace HB := HB.trans (hbx.mono HB.size)
  clear hbx
  obtain ⟨w6, ee, hbx, Bx5, hzz⟩ := box_new w5 24 (.slice ua ul uc) (.slice ua' ul' uc')
  have l_x5 := HB.size
  have ne_x1_x5 : w.heap.size ≠ w5.heap.size := fun h => absurd (h ▸ Bx1.1) (Nat.lt_irrefl _)
  replace hzz := Lib.hid hzz
  replace Bx1 := Bx1.far hbx
  replace Dd := Dd.on hbx
  replace Du := Du.on hbx
  replace HB := HB.trans (hbx.mono HB.size)
  clear hbx hzz
  have eu1 : ul = 33 := by rw [← secs_len Du.rows.1]; exact keepRow_len d lost
  have eu2 : ul' = 33 := by rw [← secs_len Du.rows.2.1]; exact keepRow_len d lost
  have ed1 : l = 33 := by rw [← secs_len Dd.rows.1]; exact LN.out
  have ed2 : l' = 33 := by rw [← secs_len Dd.rows.2.1]; exact LS.out
  subst eu1 eu2 ed1 ed2
  have hR : ClR w w.heap.size w5.heap.size a 33 c a' 33 c' d ua 33 uc ua' 33 uc' (crashD d lost) w6 := ⟨HB, Bx1, Bx5, Dd, Du⟩
  obtain ⟨_, x1_0, x1_1, x1_2, x1_3⟩ := id Bx1
  obtain ⟨_, x5_0, x5_1, x5_2, x5_3⟩ := id Bx5
  go_wp2
  clear x1_0 x1_1 x1_2 x1_3 x5_0 x5_1 x5_2 x5_3
  clear Dd Du Bx1 Bx5 HB
  go_loopw [52] (fun i wr => ∃ k : Nat, k ≤ 33 ∧ i = .int .i64 k ∧ ClR w w.heap.size w5.heap.size a 33 c a' 33 c' d ua 33 uc ua' 33 uc' (crashD d lost) wr) (fun i _ => 33 - (intOf i).toNat)
  case atStart => exact ⟨0, Nat.zero_le _, rfl, hR⟩
  case round =>
    obtain ⟨k, hk, rfl, hcl⟩ := hrel
    obtain ⟨HB, Bx1, Bx5, Dd, Du⟩ := id hcl
    by_cases hlt : k < 33
    · obtain ⟨s, hs⟩ : ∃ s, d.now[k]? = some s := ⟨_, List.getElem?_eq_getElem (by rw [LN.out]; exact hlt)⟩
      obtain ⟨t, ht⟩ : ∃ s, d.sure[k]? = some s := ⟨_, List.getElem?_eq_getElem (by rw [LS.out]; exact hlt)⟩
      obtain ⟨g1, o1, rfl, _, hg1, hc1⟩ := Dd.rows.1.addr (by decide)
      obtain ⟨g2, o2, rfl, _, hg2, hc2⟩ := Dd.rows.2.1.addr (by decide)
      obtain ⟨g3, o3, rfl, _, hg3, hc3⟩ := Du.rows.1.addr (by decide)
      obtain ⟨g4, o4, rfl, _, hg4, hc4⟩ := Du.rows.2.1.addr (by decide)
      obtain ⟨c1, c2⟩ := secs_cell hc1 hs
      obtain ⟨c3, c4⟩ := secs_cell hc2 ht
      obtain ⟨_, z1, z2, z3, z4⟩ := id Bx1
      obtain ⟨_, z5, z6, z7, z8⟩ := id Bx5
      have hbit := bit_u64 lost k h0 h1
      have hki : (k : Int) < 33 := by omega
      have hk0 : (0 : Int) ≤ k := by omega
      have hcu := Du.rows.2.2
      have hcd := Dd.rows.2.2
      rcases hq : bitI lost k with _ | _
      · have hkp : keepAt d lost k = s := by rcases keep_at (lost := lost) LN.out LS.out hlt with ⟨e, b⟩ | ⟨e, b⟩ <;> simp_all
        have u1 := keepRow_at d lost hlt
        rw [hkp] at u1
        obtain ⟨f1, f2⟩ := secs_cell (l := keepRow d lost) hc3 u1
        obtain ⟨f3, f4⟩ := secs_cell (l := keepRow d lost) hc4 u1
        rw [hq] at hbit
        obtain ⟨w8, ee, hbx, B8, _⟩ := box_new wr 35 (.int .i64 s.n) (.string s.b)
        have x1 := (hbx.cell (p := ⟨g3, o3 + k * 2, none⟩) hg3).trans f1
        have x2 := (hbx.cell (p := ⟨g3, o3 + k * 2 + 1, none⟩) hg3).trans f2
        have x3 := (hbx.cell (p := ⟨g4, o4 + k * 2, none⟩) hg4).trans f3
        have x4 := (hbx.cell (p := ⟨g4, o4 + k * 2 + 1, none⟩) hg4).trans f4
        obtain ⟨_, y1, y2, y3, y4⟩ := Bx1.far hbx
        obtain ⟨_, y5, y6, y7, y8⟩ := Bx5.far hbx
        obtain ⟨_, y9, y10, y11, y12⟩ := id B8
        have hneq := fun W => run_sec_neq s s W
        rw [secEq_iff.2 rfl] at hneq
        have hcl2 := Lib.hid (fun n : Nat => (hcl.on hbx).on (below_drewN w8 n w8.heap.size))
        clear hkp u1 hs ht hc1 hc2 hc3 hc4 Bx1 Bx5 B8 Dd Du hR hcl
        go_wp2
        go_quiet (fail)
        go_wp2
        go_roundw
        case rel => exact ⟨k + 1, by omega, by go_num, hcl2.out _⟩
        case measure => simp [intOf]; omega
      · have hkp : keepAt d lost k = t := by rcases keep_at (lost := lost) LN.out LS.out hlt with ⟨e, b⟩ | ⟨e, b⟩ <;> simp_all
        have u1 := keepRow_at d lost hlt
        rw [hkp] at u1
        obtain ⟨f1, f2⟩ := secs_cell (l := keepRow d lost) hc3 u1
        obtain ⟨f3, f4⟩ := secs_cell (l := keepRow d lost) hc4 u1
        rw [hq] at hbit
        obtain ⟨w8, ee, hbx, B8, _⟩ := box_new wr 35 (.int .i64 t.n) (.string t.b)
        have x1 := (hbx.cell (p := ⟨g3, o3 + k * 2, none⟩) hg3).trans f1
        have x2 := (hbx.cell (p := ⟨g3, o3 + k * 2 + 1, none⟩) hg3).trans f2
        have x3 := (hbx.cell (p := ⟨g4, o4 + k * 2, none⟩) hg4).trans f3
        have x4 := (hbx.cell (p := ⟨g4, o4 + k * 2 + 1, none⟩) hg4).trans f4
        obtain ⟨_, y1, y2, y3, y4⟩ := Bx1.far hbx
        obtain ⟨_, y5, y6, y7, y8⟩ := Bx5.far hbx
        obtain ⟨_, y9, y10, y11, y12⟩ := id B8
        have hneq := fun W => run_sec_neq t t W
        rw [secEq_iff.2 rfl] at hneq
        have hcl2 := Lib.hid (fun n : Nat => (hcl.on hbx).on (below_drewN w8 n w8.heap.size))
        clear hkp u1 hs ht hc1 hc2 hc3 hc4 Bx1 Bx5 B8 Dd Du hR hcl
        go_wp2
        go_quiet (fail)
        go_wp2
        go_roundw
        case rel => exact ⟨k + 1, by omega, by go_num, hcl2.out _⟩
        case measure => simp [intOf]; omega
    · obtain rfl : k = 33 := by omega
      clear hcl hR hlt
      have nn := hS wr.heap.size _ d wr Dd (Nat.le_refl _) SD.out
      rw [E2.out] at nn
      obtain ⟨_, x1_0, x1_1, x1_2, x1_3⟩ := id Bx1
      obtain ⟨_, x5_0, x5_1, x5_2, x5_3⟩ := id Bx5
      go_wp2_with fail
      refine nn.mono ?_
      rintro e w21 ⟨_, rfl, Dy, hbx, _⟩
      clear x1_0 x1_1 x1_2 x1_3 x5_0 x5_1 x5_2 x5_3
      clear nn
      obtain ⟨ya, yl, yc, ya', yl', yc', rfl, _⟩ := id Dy
      simp only at Dy
      replace Bx1 := Bx1.far hbx
      replace Bx5 := Bx5.far hbx
      replace Dd := Dd.on hbx
      replace Du := Du.on hbx
      replace HB := HB.trans (hbx.mono HB.size)
      clear hbx
      obtain ⟨w22, ee, hbx, Bx9, hzz⟩ := box_new w21 24 (.slice ya yl yc) (.slice ya' yl' yc')
      have l_x9 := HB.size
      have ne_x1_x9 : w.heap.size ≠ w21.heap.size := fun h => absurd (h ▸ Bx1.1) (Nat.lt_irrefl _)
      have ne_x5_x9 : w5.heap.size ≠ w21.heap.size := fun h => absurd (h ▸ Bx5.1) (Nat.lt_irrefl _)
      replace hzz := Lib.hid hzz
      replace Bx1 := Bx1.far hbx
      replace Bx5 := Bx5.far hbx
      replace Dd := Dd.on hbx
      replace Du := Du.on hbx
      replace Dy := Dy.on hbx
      replace HB := HB.trans (hbx.mono HB.size)
      clear hbx hzz
      have nn := hC w22.heap.size _ d 0 w22 Dd (Nat.le_refl _) SD.out (by decide) (by decide)
      rw [E3.out] at nn
      obtain ⟨_, x1_0, x1_1, x1_2, x1_3⟩ := id Bx1
      obtain ⟨_, x5_0, x5_1, x5_2, x5_3⟩ := id Bx5
      obtain ⟨_, x9_0, x9_1, x9_2, x9_3⟩ := id Bx9
      go_wp2_with fail
      refine nn.mono ?_
      rintro e w23 ⟨_, rfl, Dz, hbx, _⟩
      clear x1_0 x1_1 x1_2 x1_3 x5_0 x5_1 x5_2 x5_3 x9_0 x9_1 x9_2 x9_3
      clear nn
      obtain ⟨za, zl, zc, za', zl', zc', rfl, _⟩ := id Dz
      simp only at Dz
      replace Bx1 := Bx1.far hbx
      replace Bx5 := Bx5.far hbx
      replace Bx9 := Bx9.far hbx
      replace Dd := Dd.on hbx
      replace Du := Du.on hbx
      replace Dy := Dy.on hbx
      replace HB := HB.trans (hbx.mono HB.size)
      clear hbx
      obtain ⟨w24, ee, hbx, Bx11, hzz⟩ := box_new w23 24 (.slice za zl zc) (.slice za' zl' zc')
      have l_x11 := HB.size
      have ne_x1_x11 : w.heap.size ≠ w23.heap.size := fun h => absurd (h ▸ Bx1.1) (Nat.lt_irrefl _)
      have ne_x5_x11 : w5.heap.size ≠ w23.heap.size := fun h => absurd (h ▸ Bx5.1) (Nat.lt_irrefl _)
      have ne_x9_x11 : w21.heap.size ≠ w23.heap.size := fun h => absurd (h ▸ Bx9.1) (Nat.lt_irrefl _)
      replace hzz := Lib.hid hzz
      replace Bx1 := Bx1.far hbx
      replace Bx5 := Bx5.far hbx
      replace Bx9 := Bx9.far hbx
      replace Dd := Dd.on hbx
      replace Du := Du.on hbx
      replace Dy := Dy.on hbx
      replace Dz := Dz.on hbx
      replace HB := HB.trans (hbx.mono HB.size)
      clear hbx hzz
      have nn := hC w24.heap.size _ ⟨d.now, d.now⟩ lost w24 Dy (Nat.le_refl _) SS.out h0 h1
      rw [E4.out] at nn
      obtain ⟨_, x1_0, x1_1, x1_2, x1_3⟩ := id Bx1
      obtain ⟨_, x5_0, x5_1, x5_2, x5_3⟩ := id Bx5
      obtain ⟨_, x9_0, x9_1, x9_2, x9_3⟩ := id Bx9
      obtain ⟨_, x11_0, x11_1, x11_2, x11_3⟩ := id Bx11
      go_wp2_with fail
      refine nn.mono ?_
      rintro e w25 ⟨_, rfl, Dv, hbx, _⟩
      clear x1_0 x1_1 x1_2 x1_3 x5_0 x5_1 x5_2 x5_3 x9_0 x9_1 x9_2 x9_3 x11_0 x11_1 x11_2 x11_3
      clear nn
      obtain ⟨va, vl, vc, va', vl', vc', rfl, _⟩ := id Dv
      simp only at Dv
      replace Bx1 := Bx1.far hbx
      replace Bx5 := Bx5.far hbx
      replace Bx9 := Bx9.far hbx
      replace Bx11 := Bx11.far hbx
      replace Dd := Dd.on hbx
      replace Du := Du.on hbx
      replace Dy := Dy.on hbx
      replace Dz := Dz.on hbx
      replace HB := HB.trans (hbx.mono HB.size)
      clear hbx
      obtain ⟨w26, ee, hbx, Bx13, hzz⟩ := box_new w25 24 (.slice va vl vc) (.slice va' vl' vc')
      have l_x13 := HB.size
      have ne_x1_x13 : w.heap.size ≠ w25.heap.size := fun h => absurd (h ▸ Bx1.1) (Nat.lt_irrefl _)
      have ne_x5_x13 : w5.heap.size ≠ w25.heap.size := fun h => absurd (h ▸ Bx5.1) (Nat.lt_irrefl _)
      have ne_x9_x13 : w21.heap.size ≠ w25.heap.size := fun h => absurd (h ▸ Bx9.1) (Nat.lt_irrefl _)
      have ne_x11_x13 : w23.heap.size ≠ w25.heap.size := fun h => absurd (h ▸ Bx11.1) (Nat.lt_irrefl _)
      replace hzz := Lib.hid hzz
      replace Bx1 := Bx1.far hbx
      replace Bx5 := Bx5.far hbx
      replace Bx9 := Bx9.far hbx
      replace Bx11 := Bx11.far hbx
      replace Dd := Dd.on hbx
      replace Du := Du.on hbx
      replace Dy := Dy.on hbx
      replace Dz := Dz.on hbx
      replace Dv := Dv.on hbx
      replace HB := HB.trans (hbx.mono HB.size)
      clear hbx hzz
      have nn := hM w26.heap.size w26.heap.size _ _ (⟨d.now, d.now⟩ : Dsk) (⟨d.now, d.now⟩ : Dsk) w26 Dz (Nat.le_refl _) Dy (Nat.le_refl _) SS.out SS.out
      obtain ⟨_, x1_0, x1_1, x1_2, x1_3⟩ := id Bx1
      obtain ⟨_, x5_0, x5_1, x5_2, x5_3⟩ := id Bx5
      obtain ⟨_, x9_0, x9_1, x9_2, x9_3⟩ := id Bx9
      obtain ⟨_, x11_0, x11_1, x11_2, x11_3⟩ := id Bx11
      obtain ⟨_, x13_0, x13_1, x13_2, x13_3⟩ := id Bx13
      go_wp2_with fail
      refine nn.mono ?_
      rintro e w27 ⟨rfl, hbx⟩
      clear x1_0 x1_1 x1_2 x1_3 x5_0 x5_1 x5_2 x5_3 x9_0 x9_1 x9_2 x9_3 x11_0 x11_1 x11_2 x11_3 x13_0 x13_1 x13_2 x13_3
      clear nn
      replace Bx1 := Bx1.far hbx
      replace Bx5 := Bx5.far hbx
      replace Bx9 := Bx9.far hbx
      replace Bx11 := Bx11.far hbx
      replace Bx13 := Bx13.far hbx
      replace Dd := Dd.on hbx
      replace Du := Du.on hbx
      replace Dy := Dy.on hbx
      replace Dz := Dz.on hbx
      replace Dv := Dv.on hbx
      replace HB := HB.trans (hbx.mono HB.size)
      clear hbx
      rw [show sameD (⟨d.now, d.now⟩ : Dsk) (⟨d.now, d.now⟩ : Dsk) = true from sameD_iff.2 rfl]
      have nn := hM w27.heap.size w27.heap.size _ _ (⟨d.now, d.now⟩ : Dsk) (⟨d.now, d.now⟩ : Dsk) w27 Dv (Nat.le_refl _) Dy (Nat.le_refl _) SS.out SS.out
      obtain ⟨_, x1_0, x1_1, x1_2, x1_3⟩ := id Bx1
      obtain ⟨_, x5_0, x5_1, x5_2, x5_3⟩ := id Bx5
      obtain ⟨_, x9_0, x9_1, x9_2, x9_3⟩ := id Bx9
      obtain ⟨_, x11_0, x11_1, x11_2, x11_3⟩ := id Bx11
      obtain ⟨_, x13_0, x13_1, x13_2, x13_3⟩ := id Bx13
      go_wp2_with fail
      refine nn.mono ?_
      rintro e w28 ⟨rfl, hbx⟩
      clear x1_0 x1_1 x1_2 x1_3 x5_0 x5_1 x5_2 x5_3 x9_0 x9_1 x9_2 x9_3 x11_0 x11_1 x11_2 x11_3 x13_0 x13_1 x13_2 x13_3
      clear nn
      replace Bx1 := Bx1.far hbx
      replace Bx5 := Bx5.far hbx
      replace Bx9 := Bx9.far hbx
      replace Bx11 := Bx11.far hbx
      replace Bx13 := Bx13.far hbx
      replace Dd := Dd.on hbx
      replace Du := Du.on hbx
      replace Dy := Dy.on hbx
      replace Dz := Dz.on hbx
      replace Dv := Dv.on hbx
      replace HB := HB.trans (hbx.mono HB.size)
      clear hbx
      rw [show sameD (⟨d.now, d.now⟩ : Dsk) (⟨d.now, d.now⟩ : Dsk) = true from sameD_iff.2 rfl]
      have nn := hD w28.heap.size _ (⟨d.now, d.now⟩ : Dsk) w28 Dy (Nat.le_refl _) SS.out
      obtain ⟨_, x1_0, x1_1, x1_2, x1_3⟩ := id Bx1
      obtain ⟨_, x5_0, x5_1, x5_2, x5_3⟩ := id Bx5
      obtain ⟨_, x9_0, x9_1, x9_2, x9_3⟩ := id Bx9
      obtain ⟨_, x11_0, x11_1, x11_2, x11_3⟩ := id Bx11
      obtain ⟨_, x13_0, x13_1, x13_2, x13_3⟩ := id Bx13
      go_wp2_with fail
      refine nn.mono ?_
      rintro e w29 ⟨ga1, gn1, gc1, rfl, hr1, _, _, hbx⟩
      clear x1_0 x1_1 x1_2 x1_3 x5_0 x5_1 x5_2 x5_3 x9_0 x9_1 x9_2 x9_3 x11_0 x11_1 x11_2 x11_3 x13_0 x13_1 x13_2 x13_3
      clear nn
      have en1 : gn1 = 0 := by
        have := hr1.1
        rw [nums_length, (show dirtyD (⟨d.now, d.now⟩ : Dsk) = [] from dirty_same _)] at this
        simpa using this.symm
      subst en1
      clear hr1
      replace Bx1 := Bx1.far hbx
      replace Bx5 := Bx5.far hbx
      replace Bx9 := Bx9.far hbx
      replace Bx11 := Bx11.far hbx
      replace Bx13 := Bx13.far hbx
      replace Dd := Dd.on hbx
      replace Du := Du.on hbx
      replace Dy := Dy.on hbx
      replace Dz := Dz.on hbx
      replace Dv := Dv.on hbx
      replace HB := HB.trans (hbx.mono HB.size)
      clear hbx
      have nn := hD w29.heap.size _ (crashD d lost) w29 Du (Nat.le_refl _) SC.out
      obtain ⟨_, x1_0, x1_1, x1_2, x1_3⟩ := id Bx1
      obtain ⟨_, x5_0, x5_1, x5_2, x5_3⟩ := id Bx5
      obtain ⟨_, x9_0, x9_1, x9_2, x9_3⟩ := id Bx9
      obtain ⟨_, x11_0, x11_1, x11_2, x11_3⟩ := id Bx11
      obtain ⟨_, x13_0, x13_1, x13_2, x13_3⟩ := id Bx13
      go_wp2_with fail
      refine nn.mono ?_
      rintro e w30 ⟨ga2, gn2, gc2, rfl, hr2, _, _, hbx⟩
      clear x1_0 x1_1 x1_2 x1_3 x5_0 x5_1 x5_2 x5_3 x9_0 x9_1 x9_2 x9_3 x11_0 x11_1 x11_2 x11_3 x13_0 x13_1 x13_2 x13_3
      clear nn
      have en2 : gn2 = 0 := by
        have := hr2.1
        rw [nums_length, (show dirtyD (crashD d lost) = [] from dirty_same _)] at this
        simpa using this.symm
      subst en2
      clear hr2
      replace Bx1 := Bx1.far hbx
      replace Bx5 := Bx5.far hbx
      replace Bx9 := Bx9.far hbx
      replace Bx11 := Bx11.far hbx
      replace Bx13 := Bx13.far hbx
      replace Dd := Dd.on hbx
      replace Du := Du.on hbx
      replace Dy := Dy.on hbx
      replace Dz := Dz.on hbx
      replace Dv := Dv.on hbx
      replace HB := HB.trans (hbx.mono HB.size)
      clear hbx
      have nn := wakes_walk hN hP hG hC w30
      obtain ⟨_, x1_0, x1_1, x1_2, x1_3⟩ := id Bx1
      obtain ⟨_, x5_0, x5_1, x5_2, x5_3⟩ := id Bx5
      obtain ⟨_, x9_0, x9_1, x9_2, x9_3⟩ := id Bx9
      obtain ⟨_, x11_0, x11_1, x11_2, x11_3⟩ := id Bx11
      obtain ⟨_, x13_0, x13_1, x13_2, x13_3⟩ := id Bx13
      go_wp2_with fail
      refine nn.mono ?_
      rintro e w31 ⟨rfl, hbx⟩
      clear x1_0 x1_1 x1_2 x1_3 x5_0 x5_1 x5_2 x5_3 x9_0 x9_1 x9_2 x9_3 x11_0 x11_1 x11_2 x11_3 x13_0 x13_1 x13_2 x13_3
      clear nn
      replace Bx1 := Bx1.far hbx
      replace Bx5 := Bx5.far hbx
      replace Bx9 := Bx9.far hbx
      replace Bx11 := Bx11.far hbx
      replace Bx13 := Bx13.far hbx
      replace Dd := Dd.on hbx
      replace Du := Du.on hbx
      replace Dy := Dy.on hbx
      replace Dz := Dz.on hbx
      replace Dv := Dv.on hbx
      replace HB := HB.trans (hbx.mono HB.size)
      clear hbx
      go_wp2
      go_ret
      exact ⟨rfl, HB⟩
theorem walkDiskCrash (hN : NewSpec 28) (hP : PutSpec 12) (hS : SyncSpec 15) (hC : CrashSpec 17) (hG : GetSpec 19) (hM : SameSpec 23) (hD : DirtySpec 25)
    (v : Value) (d : Dsk) (lost : Int) (w : World) (Dd : Dk w 0 w.heap.size v d) (hlost : 0 ≤ lost ∧ lost < 18446744073709551616) :
    Calls Try.prog 7 #[v, .int .u64 lost] w fun e w' => e = .returned (.bool true) ∧ Below w.heap.size w w' := by
  obtain ⟨h0, h1⟩ := hlost
  obtain ⟨a, l, c, a', l', c', rfl, _⟩ := id Dd
  rcases sd : smallD d with _ | _
  · have HB := Below.refl w.heap.size w
    have SD := Lib.hid sd
    clear sd
    obtain ⟨w1, ee, hbx, Bx1, hzz⟩ := box_new w 24 (.slice a l c) (.slice a' l' c')
    have l_x1 := HB.size
    replace hzz := Lib.hid hzz
    replace Dd := Dd.on hbx
    replace HB := HB.trans (hbx.mono HB.size)
    clear hbx hzz
    go_enter Try.func7, Try.ntmps7
    have nn := great_walk 0 w1.heap.size _ d w1 Dd (Nat.le_refl _)
    obtain ⟨_, x1_0, x1_1, x1_2, x1_3⟩ := id Bx1
    go_wp2_with fail
    refine nn.mono ?_
    rintro e w2 ⟨rfl, hbx⟩
    clear x1_0 x1_1 x1_2 x1_3
    clear nn
    replace Bx1 := Bx1.far hbx
    replace Dd := Dd.on hbx
    replace HB := HB.trans (hbx.mono HB.size)
    clear hbx
    rw [SD.out]
    have nn := wakes_walk hN hP hG hC w2
    obtain ⟨_, x1_0, x1_1, x1_2, x1_3⟩ := id Bx1
    go_wp2_with fail
    refine nn.mono ?_
    rintro e w3 ⟨rfl, hbx⟩
    clear x1_0 x1_1 x1_2 x1_3
    clear nn
    replace Bx1 := Bx1.far hbx
    replace Dd := Dd.on hbx
    replace HB := HB.trans (hbx.mono HB.size)
    clear hbx
    go_wp2
    go_ret
    exact ⟨rfl, HB⟩
  · rcases hk : chkB d with _ | _
    · have HB := Below.refl w.heap.size w
      have SD := Lib.hid sd
      have CK := Lib.hid (chk_no hk)
      clear sd hk
      obtain ⟨w1, ee, hbx, Bx1, hzz⟩ := box_new w 24 (.slice a l c) (.slice a' l' c')
      have l_x1 := HB.size
      replace hzz := Lib.hid hzz
      replace Dd := Dd.on hbx
      replace HB := HB.trans (hbx.mono HB.size)
      clear hbx hzz
      go_enter Try.func7, Try.ntmps7
      have nn := great_walk 0 w1.heap.size _ d w1 Dd (Nat.le_refl _)
      obtain ⟨_, x1_0, x1_1, x1_2, x1_3⟩ := id Bx1
      go_wp2_with fail
      refine nn.mono ?_
      rintro e w2 ⟨rfl, hbx⟩
      clear x1_0 x1_1 x1_2 x1_3
      clear nn
      replace Bx1 := Bx1.far hbx
      replace Dd := Dd.on hbx
      replace HB := HB.trans (hbx.mono HB.size)
      clear hbx
      rw [SD.out]
      have nn := rcheck_spec w2.heap.size _ d w2 Dd (Nat.le_refl _) SD.out
      obtain ⟨_, x1_0, x1_1, x1_2, x1_3⟩ := id Bx1
      go_wp2_with fail
      refine nn.mono ?_
      rintro e w3 ⟨rfl, hbx⟩
      clear x1_0 x1_1 x1_2 x1_3
      clear nn
      replace Bx1 := Bx1.far hbx
      replace Dd := Dd.on hbx
      replace HB := HB.trans (hbx.mono HB.size)
      clear hbx
      rw [CK.out]
      have nn := wakes_walk hN hP hG hC w3
      obtain ⟨_, x1_0, x1_1, x1_2, x1_3⟩ := id Bx1
      go_wp2_with fail
      refine nn.mono ?_
      rintro e w4 ⟨rfl, hbx⟩
      clear x1_0 x1_1 x1_2 x1_3
      clear nn
      replace Bx1 := Bx1.far hbx
      replace Dd := Dd.on hbx
      replace HB := HB.trans (hbx.mono HB.size)
      clear hbx
      go_wp2
      go_ret
      exact ⟨rfl, HB⟩
    · exact crash_in hN hP hS hC hG hM hD a l c a' l' c' d lost w Dd hk h0 h1
end Go.Proofs.Ytjahhheipeggeaa
