/- What is proved: the walk of DiskTells: it returns true at every input, whenever the package disk's functions answer as the document says. -/
import Derived.Test.YtjahhheipeggeaaDskO
import Derived.Deep.RegionHeld3
namespace Go.Proofs.Ytjahhheipeggeaa
open Go.RowKit

theorem Dk.on {w w' : World} {lo : Nat} {v : Value} {d : Dsk} (h : Dk w lo w.heap.size v d) (hb : Below w.heap.size w w') : Dk w' lo w'.heap.size v d := (h.far hb).wide (Nat.le_refl _) hb.size
theorem isSl (a : Option Addr) (n c : Nat) : IsSl (.slice a n c) := ⟨a, n, c, rfl⟩
set_option maxRecDepth 100000 in
set_option maxHeartbeats 16000000 in
theorem tells_in (hN : NewSpec 28) (hP : PutSpec 12) (hS : SyncSpec 15) (hC : CrashSpec 17) (hG : GetSpec 19) (hK : CheckSpec 21) (hM : SameSpec 23) (hD : DirtySpec 25)
    (a : Option Addr) (l c : Nat) (a' : Option Addr) (l' c' : Nat) (d : Dsk) (b : Option Addr) (m k : Nat) (b' : Option Addr) (m' k' : Nat) (o : Dsk) (s n : Int) (t : ByteArray) (lost : Int) (w : World)
    (Dd : Dk w 0 w.heap.size (.agg #[.slice a l c, .slice a' l' c']) d) (Do : Dk w 0 w.heap.size (.agg #[.slice b m k, .slice b' m' k']) o) (sd : smallD d = true) (so : smallD o = true) (ht : t.size ≤ 3000) (hs : I64 s) (hn : I64 n) (h0 : 0 ≤ lost) (h1 : lost < 18446744073709551616) :
    Calls Try.prog 3 #[.agg #[.slice a l c, .slice a' l' c'], .agg #[.slice b m k, .slice b' m' k'], .int .i64 s, .int .i64 n, .string t, .int .u64 lost] w fun e w' => e = .returned (.bool true) ∧ Below w.heap.size w w' := by
  have HB := Below.refl w.heap.size w
  have SD := Lib.hid sd
  have SO := Lib.hid so
  have hgd : Try.prog.eqGuardType Try.prog.depth 35 = false := by kernel_rfl
  clear sd so
  obtain ⟨w1, ee, hbx, Bx1, hzz⟩ := box_new w 24 (.slice a l c) (.slice a' l' c')
  have l_x1 := HB.size
  replace hzz := Lib.hid hzz
  replace Dd := Dd.on hbx
  replace Do := Do.on hbx
  replace HB := HB.trans (hbx.mono HB.size)
  clear hbx hzz
  obtain ⟨w2, ee, hbx, Bx2, hzz⟩ := box_new w1 24 (.slice b m k) (.slice b' m' k')
  have l_x2 := HB.size
  have ne_x1_x2 : w.heap.size ≠ w1.heap.size := fun h => absurd (h ▸ Bx1.1) (Nat.lt_irrefl _)
  replace hzz := Lib.hid hzz
  replace Bx1 := Bx1.far hbx
  replace Dd := Dd.on hbx
  replace Do := Do.on hbx
  replace HB := HB.trans (hbx.mono HB.size)
  clear hbx hzz
  go_enter Try.func3, Try.ntmps3
  have nn := great_walk 0 w2.heap.size _ d w2 Dd (Nat.le_refl _)
  obtain ⟨_, x1_0, x1_1, x1_2, x1_3⟩ := id Bx1
  obtain ⟨_, x2_0, x2_1, x2_2, x2_3⟩ := id Bx2
  go_wp2_with fail
  refine nn.mono ?_
  rintro e w3 ⟨rfl, hbx⟩
  clear x1_0 x1_1 x1_2 x1_3 x2_0 x2_1 x2_2 x2_3
  clear nn
  replace Bx1 := Bx1.far hbx
  replace Bx2 := Bx2.far hbx
  replace Dd := Dd.on hbx
  replace Do := Do.on hbx
  replace HB := HB.trans (hbx.mono HB.size)
  clear hbx
  rw [SD.out]
  have nn := great_walk 0 w3.heap.size _ o w3 Do (Nat.le_refl _)
  obtain ⟨_, x1_0, x1_1, x1_2, x1_3⟩ := id Bx1
  obtain ⟨_, x2_0, x2_1, x2_2, x2_3⟩ := id Bx2
  go_wp2_with fail
  refine nn.mono ?_
  rintro e w4 ⟨rfl, hbx⟩
  clear x1_0 x1_1 x1_2 x1_3 x2_0 x2_1 x2_2 x2_3
  clear nn
  replace Bx1 := Bx1.far hbx
  replace Bx2 := Bx2.far hbx
  replace Dd := Dd.on hbx
  replace Do := Do.on hbx
  replace HB := HB.trans (hbx.mono HB.size)
  clear hbx
  rw [SO.out]
  have nn := hP w4.heap.size _ d s n t w4 Dd (Nat.le_refl _) SD.out hs hn ht
  obtain ⟨_, x1_0, x1_1, x1_2, x1_3⟩ := id Bx1
  obtain ⟨_, x2_0, x2_1, x2_2, x2_3⟩ := id Bx2
  go_wp2_with fail
  refine nn.mono ?_
  rintro e w5 ⟨_, rfl, Dp, hbx, _⟩
  clear x1_0 x1_1 x1_2 x1_3 x2_0 x2_1 x2_2 x2_3
  clear nn
  obtain ⟨pa, pl, pc, pa', pl', pc', rfl, _⟩ := id Dp
  replace Bx1 := Bx1.far hbx
  replace Bx2 := Bx2.far hbx
  replace Dd := Dd.on hbx
  replace Do := Do.on hbx
  replace HB := HB.trans (hbx.mono HB.size)
  clear hbx
  obtain ⟨w6, ee, hbx, Bx3, hzz⟩ := box_new w5 24 (.slice pa pl pc) (.slice pa' pl' pc')
  have l_x3 := HB.size
  have ne_x1_x3 : w.heap.size ≠ w5.heap.size := fun h => absurd (h ▸ Bx1.1) (Nat.lt_irrefl _)
  have ne_x2_x3 : w1.heap.size ≠ w5.heap.size := fun h => absurd (h ▸ Bx2.1) (Nat.lt_irrefl _)
  replace hzz := Lib.hid hzz
  replace Bx1 := Bx1.far hbx
  replace Bx2 := Bx2.far hbx
  replace Dd := Dd.on hbx
  replace Do := Do.on hbx
  replace Dp := Dp.on hbx
  replace HB := HB.trans (hbx.mono HB.size)
  clear hbx hzz
  have nn := rput_spec w6.heap.size _ d s n t w6 Dd (Nat.le_refl _) SD.out hs hn ht
  obtain ⟨_, x1_0, x1_1, x1_2, x1_3⟩ := id Bx1
  obtain ⟨_, x2_0, x2_1, x2_2, x2_3⟩ := id Bx2
  obtain ⟨_, x3_0, x3_1, x3_2, x3_3⟩ := id Bx3
  go_wp2_with fail
  refine nn.mono ?_
  rintro e w7 ⟨_, rfl, Dq, hbx, _⟩
  clear x1_0 x1_1 x1_2 x1_3 x2_0 x2_1 x2_2 x2_3 x3_0 x3_1 x3_2 x3_3
  clear nn
  obtain ⟨qa, ql, qc, qa', ql', qc', rfl, _⟩ := id Dq
  replace Bx1 := Bx1.far hbx
  replace Bx2 := Bx2.far hbx
  replace Bx3 := Bx3.far hbx
  replace Dd := Dd.on hbx
  replace Do := Do.on hbx
  replace Dp := Dp.on hbx
  replace HB := HB.trans (hbx.mono HB.size)
  clear hbx
  obtain ⟨w8, ee, hbx, Bx4, hzz⟩ := box_new w7 24 (.slice qa ql qc) (.slice qa' ql' qc')
  have l_x4 := HB.size
  have ne_x1_x4 : w.heap.size ≠ w7.heap.size := fun h => absurd (h ▸ Bx1.1) (Nat.lt_irrefl _)
  have ne_x2_x4 : w1.heap.size ≠ w7.heap.size := fun h => absurd (h ▸ Bx2.1) (Nat.lt_irrefl _)
  have ne_x3_x4 : w5.heap.size ≠ w7.heap.size := fun h => absurd (h ▸ Bx3.1) (Nat.lt_irrefl _)
  replace hzz := Lib.hid hzz
  replace Bx1 := Bx1.far hbx
  replace Bx2 := Bx2.far hbx
  replace Bx3 := Bx3.far hbx
  replace Dd := Dd.on hbx
  replace Do := Do.on hbx
  replace Dp := Dp.on hbx
  replace Dq := Dq.on hbx
  replace HB := HB.trans (hbx.mono HB.size)
  clear hbx hzz
  have nn := rsame_walk 0 w8.heap.size _ (putF d s n t).1 0 w8.heap.size _ (putF d s n t).1 w8 Dp (Nat.le_refl _) Dq (Nat.le_refl _)
  obtain ⟨_, x1_0, x1_1, x1_2, x1_3⟩ := id Bx1
  obtain ⟨_, x2_0, x2_1, x2_2, x2_3⟩ := id Bx2
  obtain ⟨_, x3_0, x3_1, x3_2, x3_3⟩ := id Bx3
  obtain ⟨_, x4_0, x4_1, x4_2, x4_3⟩ := id Bx4
  go_wp2_with fail
  refine nn.mono ?_
  rintro e w9 ⟨rfl, hbx⟩
  clear x1_0 x1_1 x1_2 x1_3 x2_0 x2_1 x2_2 x2_3 x3_0 x3_1 x3_2 x3_3 x4_0 x4_1 x4_2 x4_3
  clear nn
  replace Bx1 := Bx1.far hbx
  replace Bx2 := Bx2.far hbx
  replace Bx3 := Bx3.far hbx
  replace Bx4 := Bx4.far hbx
  replace Dd := Dd.on hbx
  replace Do := Do.on hbx
  replace Dp := Dp.on hbx
  replace Dq := Dq.on hbx
  replace HB := HB.trans (hbx.mono HB.size)
  clear hbx
  rw [show sameD (putF d s n t).1 (putF d s n t).1 = true from sameD_iff.2 rfl]
  have nn := hS w9.heap.size _ d w9 Dd (Nat.le_refl _) SD.out
  obtain ⟨_, x1_0, x1_1, x1_2, x1_3⟩ := id Bx1
  obtain ⟨_, x2_0, x2_1, x2_2, x2_3⟩ := id Bx2
  obtain ⟨_, x3_0, x3_1, x3_2, x3_3⟩ := id Bx3
  obtain ⟨_, x4_0, x4_1, x4_2, x4_3⟩ := id Bx4
  go_wp2_with fail
  refine nn.mono ?_
  rintro e w10 ⟨_, rfl, Dy, hbx, _⟩
  clear x1_0 x1_1 x1_2 x1_3 x2_0 x2_1 x2_2 x2_3 x3_0 x3_1 x3_2 x3_3 x4_0 x4_1 x4_2 x4_3
  clear nn
  obtain ⟨ya, yl, yc, ya', yl', yc', rfl, _⟩ := id Dy
  replace Bx1 := Bx1.far hbx
  replace Bx2 := Bx2.far hbx
  replace Bx3 := Bx3.far hbx
  replace Bx4 := Bx4.far hbx
  replace Dd := Dd.on hbx
  replace Do := Do.on hbx
  replace Dp := Dp.on hbx
  replace Dq := Dq.on hbx
  replace HB := HB.trans (hbx.mono HB.size)
  clear hbx
  obtain ⟨_, old_0, old_1, old_2, old_3⟩ := id Bx3
  obtain ⟨w11, ee, Bq, hzz, ko, kd, kb⟩ := Bx3.put (isSl _ _ _) (isSl _ _ _) (.slice ya yl yc) (.slice ya' yl' yc')
  replace Bx1 := ko _ _ _ (Ne.symm ne_x1_x3) Bx1
  replace Bx2 := ko _ _ _ (Ne.symm ne_x2_x3) Bx2
  replace Bx4 := ko _ _ _ ne_x3_x4 Bx4
  replace Bx3 := Bq
  replace Dd := (kd _ _ _ _ Dd).wide (Nat.le_refl _) (Nat.le_of_eq hzz.symm)
  replace Do := (kd _ _ _ _ Do).wide (Nat.le_refl _) (Nat.le_of_eq hzz.symm)
  replace Dp := (kd _ _ _ _ Dp).wide (Nat.le_refl _) (Nat.le_of_eq hzz.symm)
  replace Dq := (kd _ _ _ _ Dq).wide (Nat.le_refl _) (Nat.le_of_eq hzz.symm)
  replace Dy := (kd _ _ _ _ Dy).wide (Nat.le_refl _) (Nat.le_of_eq hzz.symm)
  replace HB := kb w l_x3 HB
  clear Bq ko kd kb hzz
  clear Dp
  have nn := rsync_spec w11.heap.size _ d w11 Dd (Nat.le_refl _) SD.out
  obtain ⟨_, x1_0, x1_1, x1_2, x1_3⟩ := id Bx1
  obtain ⟨_, x2_0, x2_1, x2_2, x2_3⟩ := id Bx2
  obtain ⟨_, x3_0, x3_1, x3_2, x3_3⟩ := id Bx3
  obtain ⟨_, x4_0, x4_1, x4_2, x4_3⟩ := id Bx4
  go_wp2_with fail
  refine nn.mono ?_
  rintro e w12 ⟨_, rfl, Dz, hbx, _⟩
  clear old_0 old_1 old_2 old_3
  clear x1_0 x1_1 x1_2 x1_3 x2_0 x2_1 x2_2 x2_3 x3_0 x3_1 x3_2 x3_3 x4_0 x4_1 x4_2 x4_3
  clear nn
  obtain ⟨za, zl, zc, za', zl', zc', rfl, _⟩ := id Dz
  replace Bx1 := Bx1.far hbx
  replace Bx2 := Bx2.far hbx
  replace Bx3 := Bx3.far hbx
  replace Bx4 := Bx4.far hbx
  replace Dd := Dd.on hbx
  replace Do := Do.on hbx
  replace Dq := Dq.on hbx
  replace Dy := Dy.on hbx
  replace HB := HB.trans (hbx.mono HB.size)
  clear hbx
  obtain ⟨_, old_0, old_1, old_2, old_3⟩ := id Bx4
  obtain ⟨w13, ee, Bq, hzz, ko, kd, kb⟩ := Bx4.put (isSl _ _ _) (isSl _ _ _) (.slice za zl zc) (.slice za' zl' zc')
  replace Bx1 := ko _ _ _ (Ne.symm ne_x1_x4) Bx1
  replace Bx2 := ko _ _ _ (Ne.symm ne_x2_x4) Bx2
  replace Bx3 := ko _ _ _ (Ne.symm ne_x3_x4) Bx3
  replace Bx4 := Bq
  replace Dd := (kd _ _ _ _ Dd).wide (Nat.le_refl _) (Nat.le_of_eq hzz.symm)
  replace Do := (kd _ _ _ _ Do).wide (Nat.le_refl _) (Nat.le_of_eq hzz.symm)
  replace Dq := (kd _ _ _ _ Dq).wide (Nat.le_refl _) (Nat.le_of_eq hzz.symm)
  replace Dy := (kd _ _ _ _ Dy).wide (Nat.le_refl _) (Nat.le_of_eq hzz.symm)
  replace Dz := (kd _ _ _ _ Dz).wide (Nat.le_refl _) (Nat.le_of_eq hzz.symm)
  replace HB := kb w l_x4 HB
  clear Bq ko kd kb hzz
  clear Dq
  have nn := rsame_walk 0 w13.heap.size _ (syncF d).1 0 w13.heap.size _ (syncF d).1 w13 Dy (Nat.le_refl _) Dz (Nat.le_refl _)
  obtain ⟨_, x1_0, x1_1, x1_2, x1_3⟩ := id Bx1
  obtain ⟨_, x2_0, x2_1, x2_2, x2_3⟩ := id Bx2
  obtain ⟨_, x3_0, x3_1, x3_2, x3_3⟩ := id Bx3
  obtain ⟨_, x4_0, x4_1, x4_2, x4_3⟩ := id Bx4
  go_wp2_with fail
  refine nn.mono ?_
  rintro e w14 ⟨rfl, hbx⟩
  clear old_0 old_1 old_2 old_3
  clear x1_0 x1_1 x1_2 x1_3 x2_0 x2_1 x2_2 x2_3 x3_0 x3_1 x3_2 x3_3 x4_0 x4_1 x4_2 x4_3
  clear nn
  replace Bx1 := Bx1.far hbx
  replace Bx2 := Bx2.far hbx
  replace Bx3 := Bx3.far hbx
  replace Bx4 := Bx4.far hbx
  replace Dd := Dd.on hbx
  replace Do := Do.on hbx
  replace Dy := Dy.on hbx
  replace Dz := Dz.on hbx
  replace HB := HB.trans (hbx.mono HB.size)
  clear hbx
  rw [show sameD (syncF d).1 (syncF d).1 = true from sameD_iff.2 rfl]
  have nn := hC w14.heap.size _ d lost w14 Dd (Nat.le_refl _) SD.out h0 h1
  obtain ⟨_, x1_0, x1_1, x1_2, x1_3⟩ := id Bx1
  obtain ⟨_, x2_0, x2_1, x2_2, x2_3⟩ := id Bx2
  obtain ⟨_, x3_0, x3_1, x3_2, x3_3⟩ := id Bx3
  obtain ⟨_, x4_0, x4_1, x4_2, x4_3⟩ := id Bx4
  go_wp2_with fail
  refine nn.mono ?_
  rintro e w15 ⟨_, rfl, Du, hbx, _⟩
  clear x1_0 x1_1 x1_2 x1_3 x2_0 x2_1 x2_2 x2_3 x3_0 x3_1 x3_2 x3_3 x4_0 x4_1 x4_2 x4_3
  clear nn
  obtain ⟨ua, ul, uc, ua', ul', uc', rfl, _⟩ := id Du
  replace Bx1 := Bx1.far hbx
  replace Bx2 := Bx2.far hbx
  replace Bx3 := Bx3.far hbx
  replace Bx4 := Bx4.far hbx
  replace Dd := Dd.on hbx
  replace Do := Do.on hbx
  replace Dy := Dy.on hbx
  replace Dz := Dz.on hbx
  replace HB := HB.trans (hbx.mono HB.size)
  clear hbx
  obtain ⟨_, old_0, old_1, old_2, old_3⟩ := id Bx3
  obtain ⟨w16, ee, Bq, hzz, ko, kd, kb⟩ := Bx3.put (isSl _ _ _) (isSl _ _ _) (.slice ua ul uc) (.slice ua' ul' uc')
  replace Bx1 := ko _ _ _ (Ne.symm ne_x1_x3) Bx1
  replace Bx2 := ko _ _ _ (Ne.symm ne_x2_x3) Bx2
  replace Bx4 := ko _ _ _ ne_x3_x4 Bx4
  replace Bx3 := Bq
  replace Dd := (kd _ _ _ _ Dd).wide (Nat.le_refl _) (Nat.le_of_eq hzz.symm)
  replace Do := (kd _ _ _ _ Do).wide (Nat.le_refl _) (Nat.le_of_eq hzz.symm)
  replace Dy := (kd _ _ _ _ Dy).wide (Nat.le_refl _) (Nat.le_of_eq hzz.symm)
  replace Dz := (kd _ _ _ _ Dz).wide (Nat.le_refl _) (Nat.le_of_eq hzz.symm)
  replace Du := (kd _ _ _ _ Du).wide (Nat.le_refl _) (Nat.le_of_eq hzz.symm)
  replace HB := kb w l_x3 HB
  clear Bq ko kd kb hzz
  clear Dy
  have nn := rcrash_spec w16.heap.size _ d lost w16 Dd (Nat.le_refl _) SD.out h0 h1
  obtain ⟨_, x1_0, x1_1, x1_2, x1_3⟩ := id Bx1
  obtain ⟨_, x2_0, x2_1, x2_2, x2_3⟩ := id Bx2
  obtain ⟨_, x3_0, x3_1, x3_2, x3_3⟩ := id Bx3
  obtain ⟨_, x4_0, x4_1, x4_2, x4_3⟩ := id Bx4
  go_wp2_with fail
  refine nn.mono ?_
  rintro e w17 ⟨_, rfl, Dv, hbx, _⟩
  clear old_0 old_1 old_2 old_3
  clear x1_0 x1_1 x1_2 x1_3 x2_0 x2_1 x2_2 x2_3 x3_0 x3_1 x3_2 x3_3 x4_0 x4_1 x4_2 x4_3
  clear nn
  obtain ⟨va, vl, vc, va', vl', vc', rfl, _⟩ := id Dv
  replace Bx1 := Bx1.far hbx
  replace Bx2 := Bx2.far hbx
  replace Bx3 := Bx3.far hbx
  replace Bx4 := Bx4.far hbx
  replace Dd := Dd.on hbx
  replace Do := Do.on hbx
  replace Dz := Dz.on hbx
  replace Du := Du.on hbx
  replace HB := HB.trans (hbx.mono HB.size)
  clear hbx
  obtain ⟨_, old_0, old_1, old_2, old_3⟩ := id Bx4
  obtain ⟨w18, ee, Bq, hzz, ko, kd, kb⟩ := Bx4.put (isSl _ _ _) (isSl _ _ _) (.slice va vl vc) (.slice va' vl' vc')
  replace Bx1 := ko _ _ _ (Ne.symm ne_x1_x4) Bx1
  replace Bx2 := ko _ _ _ (Ne.symm ne_x2_x4) Bx2
  replace Bx3 := ko _ _ _ (Ne.symm ne_x3_x4) Bx3
  replace Bx4 := Bq
  replace Dd := (kd _ _ _ _ Dd).wide (Nat.le_refl _) (Nat.le_of_eq hzz.symm)
  replace Do := (kd _ _ _ _ Do).wide (Nat.le_refl _) (Nat.le_of_eq hzz.symm)
  replace Dz := (kd _ _ _ _ Dz).wide (Nat.le_refl _) (Nat.le_of_eq hzz.symm)
  replace Du := (kd _ _ _ _ Du).wide (Nat.le_refl _) (Nat.le_of_eq hzz.symm)
  replace Dv := (kd _ _ _ _ Dv).wide (Nat.le_refl _) (Nat.le_of_eq hzz.symm)
  replace HB := kb w l_x4 HB
  clear Bq ko kd kb hzz
  clear Dz
  have nn := hG w18.heap.size _ d s w18 Dd (Nat.le_refl _) SD.out hs
  simp only [Sec.val] at nn
  obtain ⟨_, x1_0, x1_1, x1_2, x1_3⟩ := id Bx1
  obtain ⟨_, x2_0, x2_1, x2_2, x2_3⟩ := id Bx2
  obtain ⟨_, x3_0, x3_1, x3_2, x3_3⟩ := id Bx3
  obtain ⟨_, x4_0, x4_1, x4_2, x4_3⟩ := id Bx4
  go_wp2_with fail
  refine nn.mono ?_
  rintro e w19 ⟨rfl, hbx⟩
  clear old_0 old_1 old_2 old_3
  clear x1_0 x1_1 x1_2 x1_3 x2_0 x2_1 x2_2 x2_3 x3_0 x3_1 x3_2 x3_3 x4_0 x4_1 x4_2 x4_3
  clear nn
  replace Bx1 := Bx1.far hbx
  replace Bx2 := Bx2.far hbx
  replace Bx3 := Bx3.far hbx
  replace Bx4 := Bx4.far hbx
  replace Dd := Dd.on hbx
  replace Do := Do.on hbx
  replace Du := Du.on hbx
  replace Dv := Dv.on hbx
  replace HB := HB.trans (hbx.mono HB.size)
  clear hbx
  obtain ⟨w20, ee, hbx, Bx5, hzz⟩ := box_new w19 35 (.int .i64 (getF d s).1.n) (.string (getF d s).1.b)
  have l_x5 := HB.size
  have ne_x1_x5 : w.heap.size ≠ w19.heap.size := fun h => absurd (h ▸ Bx1.1) (Nat.lt_irrefl _)
  have ne_x2_x5 : w1.heap.size ≠ w19.heap.size := fun h => absurd (h ▸ Bx2.1) (Nat.lt_irrefl _)
  have ne_x3_x5 : w5.heap.size ≠ w19.heap.size := fun h => absurd (h ▸ Bx3.1) (Nat.lt_irrefl _)
  have ne_x4_x5 : w7.heap.size ≠ w19.heap.size := fun h => absurd (h ▸ Bx4.1) (Nat.lt_irrefl _)
  replace hzz := Lib.hid hzz
  replace Bx1 := Bx1.far hbx
  replace Bx2 := Bx2.far hbx
  replace Bx3 := Bx3.far hbx
  replace Bx4 := Bx4.far hbx
  replace Dd := Dd.on hbx
  replace Do := Do.on hbx
  replace Du := Du.on hbx
  replace Dv := Dv.on hbx
  replace HB := HB.trans (hbx.mono HB.size)
  clear hbx hzz
  have nn := rget_spec w20.heap.size _ d s w20 Dd (Nat.le_refl _) SD.out hs
  simp only [Sec.val] at nn
  obtain ⟨_, x1_0, x1_1, x1_2, x1_3⟩ := id Bx1
  obtain ⟨_, x2_0, x2_1, x2_2, x2_3⟩ := id Bx2
  obtain ⟨_, x3_0, x3_1, x3_2, x3_3⟩ := id Bx3
  obtain ⟨_, x4_0, x4_1, x4_2, x4_3⟩ := id Bx4
  obtain ⟨_, x5_0, x5_1, x5_2, x5_3⟩ := id Bx5
  go_wp2_with fail
  refine nn.mono ?_
  rintro e w21 ⟨rfl, hbx⟩
  clear x1_0 x1_1 x1_2 x1_3 x2_0 x2_1 x2_2 x2_3 x3_0 x3_1 x3_2 x3_3 x4_0 x4_1 x4_2 x4_3 x5_0 x5_1 x5_2 x5_3
  clear nn
  replace Bx1 := Bx1.far hbx
  replace Bx2 := Bx2.far hbx
  replace Bx3 := Bx3.far hbx
  replace Bx4 := Bx4.far hbx
  replace Bx5 := Bx5.far hbx
  replace Dd := Dd.on hbx
  replace Do := Do.on hbx
  replace Du := Du.on hbx
  replace Dv := Dv.on hbx
  replace HB := HB.trans (hbx.mono HB.size)
  clear hbx
  obtain ⟨w22, ee, hbx, Bx6, hzz⟩ := box_new w21 35 (.int .i64 (getF d s).1.n) (.string (getF d s).1.b)
  have l_x6 := HB.size
  have ne_x1_x6 : w.heap.size ≠ w21.heap.size := fun h => absurd (h ▸ Bx1.1) (Nat.lt_irrefl _)
  have ne_x2_x6 : w1.heap.size ≠ w21.heap.size := fun h => absurd (h ▸ Bx2.1) (Nat.lt_irrefl _)
  have ne_x3_x6 : w5.heap.size ≠ w21.heap.size := fun h => absurd (h ▸ Bx3.1) (Nat.lt_irrefl _)
  have ne_x4_x6 : w7.heap.size ≠ w21.heap.size := fun h => absurd (h ▸ Bx4.1) (Nat.lt_irrefl _)
  have ne_x5_x6 : w19.heap.size ≠ w21.heap.size := fun h => absurd (h ▸ Bx5.1) (Nat.lt_irrefl _)
  replace hzz := Lib.hid hzz
  replace Bx1 := Bx1.far hbx
  replace Bx2 := Bx2.far hbx
  replace Bx3 := Bx3.far hbx
  replace Bx4 := Bx4.far hbx
  replace Bx5 := Bx5.far hbx
  replace Dd := Dd.on hbx
  replace Do := Do.on hbx
  replace Du := Du.on hbx
  replace Dv := Dv.on hbx
  replace HB := HB.trans (hbx.mono HB.size)
  clear hbx hzz
  have q1 : ∀ w, (binOp .eql 35 (.agg #[.int .i64 (getF d s).1.n, .string (getF d s).1.b]) (.agg #[.int .i64 (getF d s).1.n, .string (getF d s).1.b])).run Try.prog w = .ok (.bool true) w := fun w => by
    have := run_sec_eql (getF d s).1 (getF d s).1 w
    rw [secEq_iff.2 rfl] at this
    exact this
  have kW := Lib.hid (show ∀ w' : World, Below w22.heap.size w22 w' → w'.cell? ⟨w.heap.size, 0, none⟩ = some (.slice a l c) ∧ w'.cell? ⟨w.heap.size, 1, none⟩ = some (.slice a' l' c') ∧ w'.cell? ⟨w1.heap.size, 0, none⟩ = some (.slice b m k) ∧ w'.cell? ⟨w1.heap.size, 1, none⟩ = some (.slice b' m' k') ∧ w'.cell? ⟨w5.heap.size, 0, none⟩ = some (.slice ua ul uc) ∧ w'.cell? ⟨w5.heap.size, 1, none⟩ = some (.slice ua' ul' uc') ∧ w'.cell? ⟨w7.heap.size, 0, none⟩ = some (.slice va vl vc) ∧ w'.cell? ⟨w7.heap.size, 1, none⟩ = some (.slice va' vl' vc') ∧ w'.cell? ⟨w19.heap.size, 0, none⟩ = some (.int .i64 (getF d s).1.n) ∧ w'.cell? ⟨w19.heap.size, 1, none⟩ = some (.string (getF d s).1.b) ∧ w'.cell? ⟨w21.heap.size, 0, none⟩ = some (.int .i64 (getF d s).1.n) ∧ w'.cell? ⟨w21.heap.size, 1, none⟩ = some (.string (getF d s).1.b) ∧ Below w22.heap.size w22 w' from fun w' hb => ⟨(hb.cell (p := ⟨w.heap.size, 0, none⟩) Bx1.1).trans Bx1.2.1, (hb.cell (p := ⟨w.heap.size, 1, none⟩) Bx1.1).trans Bx1.2.2.1, (hb.cell (p := ⟨w1.heap.size, 0, none⟩) Bx2.1).trans Bx2.2.1, (hb.cell (p := ⟨w1.heap.size, 1, none⟩) Bx2.1).trans Bx2.2.2.1, (hb.cell (p := ⟨w5.heap.size, 0, none⟩) Bx3.1).trans Bx3.2.1, (hb.cell (p := ⟨w5.heap.size, 1, none⟩) Bx3.1).trans Bx3.2.2.1, (hb.cell (p := ⟨w7.heap.size, 0, none⟩) Bx4.1).trans Bx4.2.1, (hb.cell (p := ⟨w7.heap.size, 1, none⟩) Bx4.1).trans Bx4.2.2.1, (hb.cell (p := ⟨w19.heap.size, 0, none⟩) Bx5.1).trans Bx5.2.1, (hb.cell (p := ⟨w19.heap.size, 1, none⟩) Bx5.1).trans Bx5.2.2.1, (hb.cell (p := ⟨w21.heap.size, 0, none⟩) Bx6.1).trans Bx6.2.1, (hb.cell (p := ⟨w21.heap.size, 1, none⟩) Bx6.1).trans Bx6.2.2.1, hb⟩)
  obtain ⟨_, x1_0, x1_1, x1_2, x1_3⟩ := id Bx1
  obtain ⟨_, x2_0, x2_1, x2_2, x2_3⟩ := id Bx2
  obtain ⟨_, x3_0, x3_1, x3_2, x3_3⟩ := id Bx3
  obtain ⟨_, x4_0, x4_1, x4_2, x4_3⟩ := id Bx4
  obtain ⟨_, x5_0, x5_1, x5_2, x5_3⟩ := id Bx5
  obtain ⟨_, x6_0, x6_1, x6_2, x6_3⟩ := id Bx6
  go_wp2_with fail
  clear ne_x1_x2 ne_x1_x3 ne_x1_x4 ne_x1_x5 ne_x1_x6 ne_x2_x3 ne_x2_x4 ne_x2_x5 ne_x2_x6 ne_x3_x4 ne_x3_x5 ne_x3_x6 ne_x4_x5 ne_x4_x6 ne_x5_x6
  go_region_held3 (fun w' => w'.cell? ⟨w.heap.size, 0, none⟩ = some (.slice a l c) ∧ w'.cell? ⟨w.heap.size, 1, none⟩ = some (.slice a' l' c') ∧ w'.cell? ⟨w1.heap.size, 0, none⟩ = some (.slice b m k) ∧ w'.cell? ⟨w1.heap.size, 1, none⟩ = some (.slice b' m' k') ∧ w'.cell? ⟨w5.heap.size, 0, none⟩ = some (.slice ua ul uc) ∧ w'.cell? ⟨w5.heap.size, 1, none⟩ = some (.slice ua' ul' uc') ∧ w'.cell? ⟨w7.heap.size, 0, none⟩ = some (.slice va vl vc) ∧ w'.cell? ⟨w7.heap.size, 1, none⟩ = some (.slice va' vl' vc') ∧ w'.cell? ⟨w19.heap.size, 0, none⟩ = some (.int .i64 (getF d s).1.n) ∧ w'.cell? ⟨w19.heap.size, 1, none⟩ = some (.string (getF d s).1.b) ∧ w'.cell? ⟨w21.heap.size, 0, none⟩ = some (.int .i64 (getF d s).1.n) ∧ w'.cell? ⟨w21.heap.size, 1, none⟩ = some (.string (getF d s).1.b) ∧ Below w22.heap.size w22 w')
    (first
      | exact kW.out _ ((Below.refl _ _).drew)
      | exact kW.out _ (Below.drew (by assumption))
      | exact kW.out _ (Below.trans (by assumption) (hbx.mono (Below.size (by assumption)))))
    (first
      | (go_at_call 14; go_split_ands; refine (rsame_walk 0 _ _ _ 0 _ _ _ _ (by first | exact Du.on (by assumption) | exact Dv.on (by assumption) | exact Dd.on (by assumption) | exact Do.on (by assumption)) (Nat.le_refl _) (by first | exact Du.on (by assumption) | exact Dv.on (by assumption) | exact Dd.on (by assumption) | exact Do.on (by assumption)) (Nat.le_refl _)).mono ?_; rintro e w' ⟨rfl, hbx⟩; (try rw [show sameD (crashF d lost).1 (crashF d lost).1 = true from sameD_iff.2 rfl]))
      | (go_at_call 23; go_split_ands; refine (hM _ _ _ _ d o _ (Dd.on (by assumption)) (Nat.le_refl _) (Do.on (by assumption)) (Nat.le_refl _) SD.out SO.out).mono ?_; rintro e w' ⟨rfl, hbx⟩)
      | (go_at_call 21; go_split_ands; refine (hK _ _ d _ (Dd.on (by assumption)) (Nat.le_refl _) SD.out).mono ?_; rintro e w' ⟨rfl, hbx⟩)
      | (go_at_call 22; go_split_ands; refine (rcheck_spec _ _ d _ (Dd.on (by assumption)) (Nat.le_refl _) SD.out).mono ?_; rintro e w' ⟨rfl, hbx⟩)
      | (go_at_call 25; go_split_ands; refine (hD _ _ d _ (Dd.on (by assumption)) (Nat.le_refl _) SD.out).mono ?_; rintro e w' ⟨da, dn, dc, rfl, hdr, hdc, hdm, hbx⟩)
      | (go_at_call 26; go_split_ands; refine (rdirty_spec _ _ d _ (Dd.on (by assumption)) (Nat.le_refl _) SD.out).mono ?_; rintro e w' ⟨ea, en, ec, rfl, her, hec, hem, hbx⟩; have hdr' := Rg.on hdr hbx hbx.size)
      | (go_at_call 24; go_split_ands; refine (ints_walk _ _ _ _ _ _ _ _ _ _ _ hdr' her (by unfold maxLen at hdm; omega) (by unfold maxLen at hem; omega) rfl).mono ?_; rintro e w' ⟨rfl, hbx⟩)
      | (go_at_call 11; go_split_ands; refine (wakes_walk hN hP hG hC _).mono ?_; rintro e w' ⟨rfl, hbx⟩))
  go_split_ands
  have hfin : ∃ wf, wf = wf ∧ Below w22.heap.size w22 wf := ⟨w22, rfl, Below.refl _ _⟩
  clear hfin kW x1_0 x1_1 x1_2 x1_3 x2_0 x2_1 x2_2 x2_3 x3_0 x3_1 x3_2 x3_3 x4_0 x4_1 x4_2 x4_3 x5_0 x5_1 x5_2 x5_3 x6_0 x6_1 x6_2 x6_3
  go_wp2
  go_ret
  refine ⟨rfl, HB.trans (Below.mono (w := w22) ?_ HB.size)⟩
  first | assumption | exact Below.trans (by assumption) (Below.mono (by assumption) (Below.size (by assumption)))

set_option maxHeartbeats 3200000 in
theorem walkDiskTells (hN : NewSpec 28) (hP : PutSpec 12) (hS : SyncSpec 15) (hC : CrashSpec 17) (hG : GetSpec 19) (hK : CheckSpec 21) (hM : SameSpec 23) (hD : DirtySpec 25)
    (v : Value) (d : Dsk) (v' : Value) (o : Dsk) (s n : Int) (t : ByteArray) (lost : Int) (w : World)
    (Dd : Dk w 0 w.heap.size v d) (Do : Dk w 0 w.heap.size v' o) (hs : I64 s) (hn : I64 n) (hts : t.size ≤ 140737488351232) (hlost : 0 ≤ lost ∧ lost < 18446744073709551616) :
    Calls Try.prog 3 #[v, v', .int .i64 s, .int .i64 n, .string t, .int .u64 lost] w fun e w' => e = .returned (.bool true) ∧ Below w.heap.size w w' := by
  obtain ⟨h0, h1⟩ := hlost
  obtain ⟨a, l, c, a', l', c', rfl, _⟩ := id Dd
  obtain ⟨b, m, k, b', m', k', rfl, _⟩ := id Do
  rcases sd : smallD d with _ | _
  · have HB := Below.refl w.heap.size w
    have SD := Lib.hid sd
    clear sd
    obtain ⟨w1, ee, hbx, Bx1, hzz⟩ := box_new w 24 (.slice a l c) (.slice a' l' c')
    have l_x1 := HB.size
    replace hzz := Lib.hid hzz
    replace Dd := Dd.on hbx
    replace Do := Do.on hbx
    replace HB := HB.trans (hbx.mono HB.size)
    clear hbx hzz
    obtain ⟨w2, ee, hbx, Bx2, hzz⟩ := box_new w1 24 (.slice b m k) (.slice b' m' k')
    have l_x2 := HB.size
    have ne_x1_x2 : w.heap.size ≠ w1.heap.size := fun h => absurd (h ▸ Bx1.1) (Nat.lt_irrefl _)
    replace hzz := Lib.hid hzz
    replace Bx1 := Bx1.far hbx
    replace Dd := Dd.on hbx
    replace Do := Do.on hbx
    replace HB := HB.trans (hbx.mono HB.size)
    clear hbx hzz
    go_enter Try.func3, Try.ntmps3
    have nn := great_walk 0 w2.heap.size _ d w2 Dd (Nat.le_refl _)
    obtain ⟨_, x1_0, x1_1, x1_2, x1_3⟩ := id Bx1
    obtain ⟨_, x2_0, x2_1, x2_2, x2_3⟩ := id Bx2
    go_wp2_with fail
    refine nn.mono ?_
    rintro e w3 ⟨rfl, hbx⟩
    clear x1_0 x1_1 x1_2 x1_3 x2_0 x2_1 x2_2 x2_3
    clear nn
    replace Bx1 := Bx1.far hbx
    replace Bx2 := Bx2.far hbx
    replace Dd := Dd.on hbx
    replace Do := Do.on hbx
    replace HB := HB.trans (hbx.mono HB.size)
    clear hbx
    rw [SD.out]
    have nn := wakes_walk hN hP hG hC w3
    obtain ⟨_, x1_0, x1_1, x1_2, x1_3⟩ := id Bx1
    obtain ⟨_, x2_0, x2_1, x2_2, x2_3⟩ := id Bx2
    go_wp2_with fail
    refine nn.mono ?_
    rintro e w4 ⟨rfl, hbx⟩
    clear x1_0 x1_1 x1_2 x1_3 x2_0 x2_1 x2_2 x2_3
    clear nn
    replace Bx1 := Bx1.far hbx
    replace Bx2 := Bx2.far hbx
    replace Dd := Dd.on hbx
    replace Do := Do.on hbx
    replace HB := HB.trans (hbx.mono HB.size)
    clear hbx
    go_wp2
    go_ret
    exact ⟨rfl, HB⟩
  · rcases so : smallD o with _ | _
    · have HB := Below.refl w.heap.size w
      have SD := Lib.hid sd
      have SO := Lib.hid so
      clear sd so
      obtain ⟨w1, ee, hbx, Bx1, hzz⟩ := box_new w 24 (.slice a l c) (.slice a' l' c')
      have l_x1 := HB.size
      replace hzz := Lib.hid hzz
      replace Dd := Dd.on hbx
      replace Do := Do.on hbx
      replace HB := HB.trans (hbx.mono HB.size)
      clear hbx hzz
      obtain ⟨w2, ee, hbx, Bx2, hzz⟩ := box_new w1 24 (.slice b m k) (.slice b' m' k')
      have l_x2 := HB.size
      have ne_x1_x2 : w.heap.size ≠ w1.heap.size := fun h => absurd (h ▸ Bx1.1) (Nat.lt_irrefl _)
      replace hzz := Lib.hid hzz
      replace Bx1 := Bx1.far hbx
      replace Dd := Dd.on hbx
      replace Do := Do.on hbx
      replace HB := HB.trans (hbx.mono HB.size)
      clear hbx hzz
      go_enter Try.func3, Try.ntmps3
      have nn := great_walk 0 w2.heap.size _ d w2 Dd (Nat.le_refl _)
      obtain ⟨_, x1_0, x1_1, x1_2, x1_3⟩ := id Bx1
      obtain ⟨_, x2_0, x2_1, x2_2, x2_3⟩ := id Bx2
      go_wp2_with fail
      refine nn.mono ?_
      rintro e w3 ⟨rfl, hbx⟩
      clear x1_0 x1_1 x1_2 x1_3 x2_0 x2_1 x2_2 x2_3
      clear nn
      replace Bx1 := Bx1.far hbx
      replace Bx2 := Bx2.far hbx
      replace Dd := Dd.on hbx
      replace Do := Do.on hbx
      replace HB := HB.trans (hbx.mono HB.size)
      clear hbx
      rw [SD.out]
      have nn := great_walk 0 w3.heap.size _ o w3 Do (Nat.le_refl _)
      obtain ⟨_, x1_0, x1_1, x1_2, x1_3⟩ := id Bx1
      obtain ⟨_, x2_0, x2_1, x2_2, x2_3⟩ := id Bx2
      go_wp2_with fail
      refine nn.mono ?_
      rintro e w4 ⟨rfl, hbx⟩
      clear x1_0 x1_1 x1_2 x1_3 x2_0 x2_1 x2_2 x2_3
      clear nn
      replace Bx1 := Bx1.far hbx
      replace Bx2 := Bx2.far hbx
      replace Dd := Dd.on hbx
      replace Do := Do.on hbx
      replace HB := HB.trans (hbx.mono HB.size)
      clear hbx
      rw [SO.out]
      have nn := wakes_walk hN hP hG hC w4
      obtain ⟨_, x1_0, x1_1, x1_2, x1_3⟩ := id Bx1
      obtain ⟨_, x2_0, x2_1, x2_2, x2_3⟩ := id Bx2
      go_wp2_with fail
      refine nn.mono ?_
      rintro e w5 ⟨rfl, hbx⟩
      clear x1_0 x1_1 x1_2 x1_3 x2_0 x2_1 x2_2 x2_3
      clear nn
      replace Bx1 := Bx1.far hbx
      replace Bx2 := Bx2.far hbx
      replace Dd := Dd.on hbx
      replace Do := Do.on hbx
      replace HB := HB.trans (hbx.mono HB.size)
      clear hbx
      go_wp2
      go_ret
      exact ⟨rfl, HB⟩
    · by_cases ht : t.size ≤ 3000
      · exact tells_in hN hP hS hC hG hK hM hD a l c a' l' c' d b m k b' m' k' o s n t lost w Dd Do sd so ht hs hn h0 h1
      · have HB := Below.refl w.heap.size w
        have SD := Lib.hid sd
        have SO := Lib.hid so
        have ht2 : 3000 < t.size := by omega
        clear sd so ht
        obtain ⟨w1, ee, hbx, Bx1, hzz⟩ := box_new w 24 (.slice a l c) (.slice a' l' c')
        have l_x1 := HB.size
        replace hzz := Lib.hid hzz
        replace Dd := Dd.on hbx
        replace Do := Do.on hbx
        replace HB := HB.trans (hbx.mono HB.size)
        clear hbx hzz
        obtain ⟨w2, ee, hbx, Bx2, hzz⟩ := box_new w1 24 (.slice b m k) (.slice b' m' k')
        have l_x2 := HB.size
        have ne_x1_x2 : w.heap.size ≠ w1.heap.size := fun h => absurd (h ▸ Bx1.1) (Nat.lt_irrefl _)
        replace hzz := Lib.hid hzz
        replace Bx1 := Bx1.far hbx
        replace Dd := Dd.on hbx
        replace Do := Do.on hbx
        replace HB := HB.trans (hbx.mono HB.size)
        clear hbx hzz
        go_enter Try.func3, Try.ntmps3
        have nn := great_walk 0 w2.heap.size _ d w2 Dd (Nat.le_refl _)
        obtain ⟨_, x1_0, x1_1, x1_2, x1_3⟩ := id Bx1
        obtain ⟨_, x2_0, x2_1, x2_2, x2_3⟩ := id Bx2
        go_wp2_with fail
        refine nn.mono ?_
        rintro e w3 ⟨rfl, hbx⟩
        clear x1_0 x1_1 x1_2 x1_3 x2_0 x2_1 x2_2 x2_3
        clear nn
        replace Bx1 := Bx1.far hbx
        replace Bx2 := Bx2.far hbx
        replace Dd := Dd.on hbx
        replace Do := Do.on hbx
        replace HB := HB.trans (hbx.mono HB.size)
        clear hbx
        rw [SD.out]
        have nn := great_walk 0 w3.heap.size _ o w3 Do (Nat.le_refl _)
        obtain ⟨_, x1_0, x1_1, x1_2, x1_3⟩ := id Bx1
        obtain ⟨_, x2_0, x2_1, x2_2, x2_3⟩ := id Bx2
        go_wp2_with fail
        refine nn.mono ?_
        rintro e w4 ⟨rfl, hbx⟩
        clear x1_0 x1_1 x1_2 x1_3 x2_0 x2_1 x2_2 x2_3
        clear nn
        replace Bx1 := Bx1.far hbx
        replace Bx2 := Bx2.far hbx
        replace Dd := Dd.on hbx
        replace Do := Do.on hbx
        replace HB := HB.trans (hbx.mono HB.size)
        clear hbx
        rw [SO.out]
        have nn := wakes_walk hN hP hG hC w4
        obtain ⟨_, x1_0, x1_1, x1_2, x1_3⟩ := id Bx1
        obtain ⟨_, x2_0, x2_1, x2_2, x2_3⟩ := id Bx2
        go_wp2_with fail
        refine nn.mono ?_
        rintro e w5 ⟨rfl, hbx⟩
        clear x1_0 x1_1 x1_2 x1_3 x2_0 x2_1 x2_2 x2_3
        clear nn
        replace Bx1 := Bx1.far hbx
        replace Bx2 := Bx2.far hbx
        replace Dd := Dd.on hbx
        replace Do := Do.on hbx
        replace HB := HB.trans (hbx.mono HB.size)
        clear hbx
        go_wp2
        go_ret
        exact ⟨rfl, HB⟩
end Go.Proofs.Ytjahhheipeggeaa
