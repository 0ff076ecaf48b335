/- What is proved: the contract of the laws' own do: a disk behind an act, whenever Put, Sync and Crash answer as the document says. -/
import Derived.Test.YtjahhheipeggeaaDskR
namespace Go.Proofs.Ytjahhheipeggeaa
open Go.RowKit

structure DAct where
  k : Int
  s : Int
  n : Int
  b : ByteArray
  lost : Int
def DAct.val (a : DAct) : Value := .agg #[.int .i64 a.k, .int .i64 a.s, .int .i64 a.n, .string a.b, .int .u64 a.lost]
/-- An act whose numbers are in range. -/
def DAct.In (a : DAct) : Prop := I64 a.k ∧ I64 a.s ∧ I64 a.n ∧ 0 ≤ a.lost ∧ a.lost < 18446744073709551616
def doD (d : Dsk) (a : DAct) : Dsk :=
  if a.k = 0 then (if putOk d a.s a.n a.b then putD d a.s.toNat a.n a.b else d)
  else if a.k = 1 then (if chkB d then ⟨d.now, d.now⟩ else d)
  else if a.k = 2 then (if chkB d then crashD d a.lost else d) else d
def DoPost (W : World) (v : Value) (d : Dsk) (e : Ending) (w' : World) : Prop := ∃ v', e = .returned v' ∧ Dk w' 0 w'.heap.size v' d ∧ Below W.heap.size W w' ∧ ∀ Q, Q < W.heap.size → Avo Q v → Avo Q v'

def Box5 (w : World) (g : Nat) (u0 u1 u2 u3 u4 : Value) : Prop := g < w.heap.size ∧ w.cell? ⟨g, 0, none⟩ = some u0 ∧ w.cell? ⟨g, 1, none⟩ = some u1 ∧ w.cell? ⟨g, 2, none⟩ = some u2 ∧ w.cell? ⟨g, 3, none⟩ = some u3 ∧ w.cell? ⟨g, 4, none⟩ = some u4
theorem Box5.far {w w' : World} {g : Nat} {u0 u1 u2 u3 u4 : Value} (h : Box5 w g u0 u1 u2 u3 u4) (hb : Below w.heap.size w w') : Box5 w' g u0 u1 u2 u3 u4 := by
  obtain ⟨h0, h1, h2, h3, h4, h5⟩ := h
  exact ⟨Nat.lt_of_lt_of_le h0 hb.size, (hb.cell (p := ⟨g, 0, none⟩) h0).trans h1, (hb.cell (p := ⟨g, 1, none⟩) h0).trans h2, (hb.cell (p := ⟨g, 2, none⟩) h0).trans h3, (hb.cell (p := ⟨g, 3, none⟩) h0).trans h4, (hb.cell (p := ⟨g, 4, none⟩) h0).trans h5⟩
theorem box5_new (w : World) (e : TypeId) (u0 u1 u2 u3 u4 : Value) : ∃ W, w.alloc (.cells #[u0, u1, u2, u3, u4] e) = W ∧ Below w.heap.size w W ∧ Box5 W w.heap.size u0 u1 u2 u3 u4 := by
  have k := heap_alloc_new w (.cells #[u0, u1, u2, u3, u4] e)
  exact ⟨_, rfl, (Below.refl _ _).alloc (Nat.le_refl _) _, by simp, cell_of_row _ _ 0 _ _ _ k, cell_of_row _ _ 1 _ _ _ k, cell_of_row _ _ 2 _ _ _ k, cell_of_row _ _ 3 _ _ _ k, cell_of_row _ _ 4 _ _ _ k⟩
set_option maxHeartbeats 3200000 in
theorem do_put (hP : PutSpec 12) (hS : SyncSpec 15) (hC : CrashSpec 17) (a : Option Addr) (l c : Nat) (a' : Option Addr) (l' c' : Nat) (d : Dsk) (xs xn : Int) (xb : ByteArray) (xl : Int) (w : World) (Dd : Dk w 0 w.heap.size (.agg #[.slice a l c, .slice a' l' c']) d) (sd : smallD d = true)
    (i1 : I64 xs) (i2 : I64 xn) (i3 : 0 ≤ xl) (i4 : xl < 18446744073709551616) (hb : xb.size ≤ 3000) (hp : putOk d xs xn xb = true) :
    Calls Try.prog 29 #[.agg #[.slice a l c, .slice a' l' c'], .agg #[.int .i64 0, .int .i64 xs, .int .i64 xn, .string xb, .int .u64 xl]] w (DoPost w (.agg #[.slice a l c, .slice a' l' c']) (putD d xs.toNat xn xb)) := by
  have _uses := And.intro hP (And.intro hS (And.intro hC (And.intro i1 (And.intro i2 (And.intro i3 (And.intro i4 hb))))))
  clear _uses
  have HB := Below.refl w.heap.size w
  have SD := Lib.hid sd
  clear sd
  have EE := Lib.hid (show putF d xs xn xb = (putD d xs.toNat xn xb, 0) by unfold putF; rw [hp]; rfl)
  clear hp
  obtain ⟨w1, ee, hbx, Bx2, hzz⟩ := box_new w 24 (.slice a l c) (.slice a' l' c')
  have l_x2 := HB.size
  replace hzz := Lib.hid hzz
  replace Dd := Dd.on hbx
  replace HB := HB.trans (hbx.mono HB.size)
  clear hbx hzz
  obtain ⟨w2, ee, hbx, B3⟩ := box5_new w1 47 (.int .i64 0) (.int .i64 xs) (.int .i64 xn) (.string xb) (.int .u64 xl)
  replace Bx2 := Bx2.far hbx
  replace Dd := Dd.on hbx
  replace HB := HB.trans (hbx.mono HB.size)
  clear hbx
  obtain ⟨w3, ee, hbx, Bx4, hzz⟩ := box_new w2 24 (.slice none 0 0) (.slice none 0 0)
  have l_x4 := HB.size
  have ne_x2_x4 : w.heap.size ≠ w2.heap.size := fun h => absurd (h ▸ Bx2.1) (Nat.lt_irrefl _)
  replace hzz := Lib.hid hzz
  replace Bx2 := Bx2.far hbx
  replace Dd := Dd.on hbx
  replace HB := HB.trans (hbx.mono HB.size)
  replace B3 := B3.far hbx
  clear hbx hzz
  obtain ⟨_, r0, r1, _, _⟩ := id Bx2
  obtain ⟨w4, ee, hbx, Bx5, hzz⟩ := box_new w3 24 (.slice a l c) (.slice a' l' c')
  have l_x5 := HB.size
  have ne_x2_x5 : w.heap.size ≠ w3.heap.size := fun h => absurd (h ▸ Bx2.1) (Nat.lt_irrefl _)
  have ne_x4_x5 : w2.heap.size ≠ w3.heap.size := fun h => absurd (h ▸ Bx4.1) (Nat.lt_irrefl _)
  replace hzz := Lib.hid hzz
  replace Bx2 := Bx2.far hbx
  replace Bx4 := Bx4.far hbx
  replace Dd := Dd.on hbx
  replace HB := HB.trans (hbx.mono HB.size)
  replace B3 := B3.far hbx
  clear hbx hzz
  obtain ⟨_, y0, y1, y2, y3, y4⟩ := id B3
  go_enter Try.func29, Try.ntmps29
  have nn := hP w4.heap.size _ d xs xn xb w4 Dd (Nat.le_refl _) SD.out i1 i2 hb
  rw [EE.out] at nn
  have hszc := HB.size
  obtain ⟨_, x2_0, x2_1, x2_2, x2_3⟩ := id Bx2
  obtain ⟨_, x4_0, x4_1, x4_2, x4_3⟩ := id Bx4
  obtain ⟨_, x5_0, x5_1, x5_2, x5_3⟩ := id Bx5
  go_wp2_with fail
  refine nn.mono ?_
  rintro e w5 ⟨_, rfl, Du, hbx, av⟩
  clear x2_0 x2_1 x2_2 x2_3 x4_0 x4_1 x4_2 x4_3 x5_0 x5_1 x5_2 x5_3
  clear nn
  obtain ⟨ua, ul, uc, ua', ul', uc', rfl, _⟩ := id Du
  simp only at Du
  replace Bx2 := Bx2.far hbx
  replace Bx4 := Bx4.far hbx
  replace Bx5 := Bx5.far hbx
  replace Dd := Dd.on hbx
  replace HB := HB.trans (hbx.mono HB.size)
  clear hbx y0 y1 y2 y3 y4 B3 r0 r1
  obtain ⟨_, m5_0, m5_1, m5_2, m5_3⟩ := id Bx5
  obtain ⟨_, m2_0, m2_1, m2_2, m2_3⟩ := id Bx2
  obtain ⟨_, m4_0, m4_1, m4_2, m4_3⟩ := id Bx4
  obtain ⟨_, old_0, old_1, old_2, old_3⟩ := id Bx5
  obtain ⟨w6, ee, Bq, hzz, ko, kd, kb⟩ := Bx5.put (isSl _ _ _) (isSl _ _ _) (.slice ua ul uc) (.slice ua' ul' uc')
  replace Bx2 := ko _ _ _ (Ne.symm ne_x2_x5) Bx2
  replace Bx4 := ko _ _ _ (Ne.symm ne_x4_x5) Bx4
  replace Bx5 := Bq
  replace Dd := (kd _ _ _ _ Dd).wide (Nat.le_refl _) (Nat.le_of_eq hzz.symm)
  replace Du := (kd _ _ _ _ Du).wide (Nat.le_refl _) (Nat.le_of_eq hzz.symm)
  replace HB := kb w l_x5 HB
  clear Bq ko kd kb hzz
  clear old_0 old_1 old_2 old_3
  obtain ⟨_, x2_0, x2_1, x2_2, x2_3⟩ := id Bx2
  obtain ⟨_, x4_0, x4_1, x4_2, x4_3⟩ := id Bx4
  obtain ⟨_, x5_0, x5_1, x5_2, x5_3⟩ := id Bx5
  obtain ⟨wf, ef, Bf, hzf, _, kd, kb⟩ := Bx4.put (isSl _ _ _) (isSl _ _ _) (.slice ua ul uc) (.slice ua' ul' uc')
  obtain ⟨_, f0, f1, f2, f3⟩ := id Bf
  have hend := kb w l_x4 HB
  have hdk := (kd _ _ _ _ Du).wide (Nat.le_refl _) (Nat.le_of_eq hzf.symm)
  clear hzf kd kb
  go_wp2
  exact bodyPost_ret (v := .agg #[.slice ua ul uc, .slice ua' ul' uc']) (by simp [results, Try.results29, go_sem, f0, f1]) rfl ⟨_, rfl, hdk, hend, fun Q hQ hv => av Q (Nat.lt_of_lt_of_le hQ hszc) hv⟩
set_option maxHeartbeats 3200000 in
theorem do_put_no (hP : PutSpec 12) (hS : SyncSpec 15) (hC : CrashSpec 17) (a : Option Addr) (l c : Nat) (a' : Option Addr) (l' c' : Nat) (d : Dsk) (xs xn : Int) (xb : ByteArray) (xl : Int) (w : World) (Dd : Dk w 0 w.heap.size (.agg #[.slice a l c, .slice a' l' c']) d) (sd : smallD d = true)
    (i1 : I64 xs) (i2 : I64 xn) (i3 : 0 ≤ xl) (i4 : xl < 18446744073709551616) (hb : xb.size ≤ 3000) (hp : putOk d xs xn xb = false) :
    Calls Try.prog 29 #[.agg #[.slice a l c, .slice a' l' c'], .agg #[.int .i64 0, .int .i64 xs, .int .i64 xn, .string xb, .int .u64 xl]] w (DoPost w (.agg #[.slice a l c, .slice a' l' c']) d) := by
  have _uses := And.intro hP (And.intro hS (And.intro hC (And.intro i1 (And.intro i2 (And.intro i3 (And.intro i4 hb))))))
  clear _uses
  have HB := Below.refl w.heap.size w
  have SD := Lib.hid sd
  clear sd
  have EE := Lib.hid (show putF d xs xn xb = (none_, 2) by unfold putF; rw [hp]; rfl)
  clear hp
  obtain ⟨w1, ee, hbx, Bx2, hzz⟩ := box_new w 24 (.slice a l c) (.slice a' l' c')
  have l_x2 := HB.size
  replace hzz := Lib.hid hzz
  replace Dd := Dd.on hbx
  replace HB := HB.trans (hbx.mono HB.size)
  clear hbx hzz
  obtain ⟨w2, ee, hbx, B3⟩ := box5_new w1 47 (.int .i64 0) (.int .i64 xs) (.int .i64 xn) (.string xb) (.int .u64 xl)
  replace Bx2 := Bx2.far hbx
  replace Dd := Dd.on hbx
  replace HB := HB.trans (hbx.mono HB.size)
  clear hbx
  obtain ⟨w3, ee, hbx, Bx4, hzz⟩ := box_new w2 24 (.slice none 0 0) (.slice none 0 0)
  have l_x4 := HB.size
  have ne_x2_x4 : w.heap.size ≠ w2.heap.size := fun h => absurd (h ▸ Bx2.1) (Nat.lt_irrefl _)
  replace hzz := Lib.hid hzz
  replace Bx2 := Bx2.far hbx
  replace Dd := Dd.on hbx
  replace HB := HB.trans (hbx.mono HB.size)
  replace B3 := B3.far hbx
  clear hbx hzz
  obtain ⟨_, r0, r1, _, _⟩ := id Bx2
  obtain ⟨w4, ee, hbx, Bx5, hzz⟩ := box_new w3 24 (.slice a l c) (.slice a' l' c')
  have l_x5 := HB.size
  have ne_x2_x5 : w.heap.size ≠ w3.heap.size := fun h => absurd (h ▸ Bx2.1) (Nat.lt_irrefl _)
  have ne_x4_x5 : w2.heap.size ≠ w3.heap.size := fun h => absurd (h ▸ Bx4.1) (Nat.lt_irrefl _)
  replace hzz := Lib.hid hzz
  replace Bx2 := Bx2.far hbx
  replace Bx4 := Bx4.far hbx
  replace Dd := Dd.on hbx
  replace HB := HB.trans (hbx.mono HB.size)
  replace B3 := B3.far hbx
  clear hbx hzz
  obtain ⟨_, y0, y1, y2, y3, y4⟩ := id B3
  go_enter Try.func29, Try.ntmps29
  have nn := hP w4.heap.size _ d xs xn xb w4 Dd (Nat.le_refl _) SD.out i1 i2 hb
  rw [EE.out] at nn
  have hszc := HB.size
  obtain ⟨_, x2_0, x2_1, x2_2, x2_3⟩ := id Bx2
  obtain ⟨_, x4_0, x4_1, x4_2, x4_3⟩ := id Bx4
  obtain ⟨_, x5_0, x5_1, x5_2, x5_3⟩ := id Bx5
  go_wp2_with fail
  refine nn.mono ?_
  rintro e w5 ⟨_, rfl, Du, hbx, av⟩
  clear x2_0 x2_1 x2_2 x2_3 x4_0 x4_1 x4_2 x4_3 x5_0 x5_1 x5_2 x5_3
  clear nn
  obtain ⟨ua, ul, uc, ua', ul', uc', rfl, _⟩ := id Du
  simp only at Du
  replace Bx2 := Bx2.far hbx
  replace Bx4 := Bx4.far hbx
  replace Bx5 := Bx5.far hbx
  replace Dd := Dd.on hbx
  replace HB := HB.trans (hbx.mono HB.size)
  clear hbx y0 y1 y2 y3 y4 B3 r0 r1
  obtain ⟨_, m5_0, m5_1, m5_2, m5_3⟩ := id Bx5
  obtain ⟨_, m2_0, m2_1, m2_2, m2_3⟩ := id Bx2
  obtain ⟨_, m4_0, m4_1, m4_2, m4_3⟩ := id Bx4
  obtain ⟨_, old_0, old_1, old_2, old_3⟩ := id Bx5
  obtain ⟨w6, ee, Bq, hzz, ko, kd, kb⟩ := Bx5.put (isSl _ _ _) (isSl _ _ _) (.slice ua ul uc) (.slice ua' ul' uc')
  replace Bx2 := ko _ _ _ (Ne.symm ne_x2_x5) Bx2
  replace Bx4 := ko _ _ _ (Ne.symm ne_x4_x5) Bx4
  replace Bx5 := Bq
  replace Dd := (kd _ _ _ _ Dd).wide (Nat.le_refl _) (Nat.le_of_eq hzz.symm)
  replace Du := (kd _ _ _ _ Du).wide (Nat.le_refl _) (Nat.le_of_eq hzz.symm)
  replace HB := kb w l_x5 HB
  clear Bq ko kd kb hzz
  clear old_0 old_1 old_2 old_3
  obtain ⟨_, x2_0, x2_1, x2_2, x2_3⟩ := id Bx2
  obtain ⟨_, x4_0, x4_1, x4_2, x4_3⟩ := id Bx4
  obtain ⟨_, x5_0, x5_1, x5_2, x5_3⟩ := id Bx5
  obtain ⟨wf, ef, Bf, hzf, _, kd, kb⟩ := Bx4.put (isSl _ _ _) (isSl _ _ _) (.slice a l c) (.slice a' l' c')
  obtain ⟨_, f0, f1, f2, f3⟩ := id Bf
  have hend := kb w l_x4 HB
  have hdk := (kd _ _ _ _ Dd).wide (Nat.le_refl _) (Nat.le_of_eq hzf.symm)
  clear hzf kd kb
  go_wp2
  exact bodyPost_ret (v := .agg #[.slice a l c, .slice a' l' c']) (by simp [results, Try.results29, go_sem, f0, f1]) rfl ⟨_, rfl, hdk, hend, fun _ _ hv => hv⟩
set_option maxHeartbeats 3200000 in
theorem do_sync (hP : PutSpec 12) (hS : SyncSpec 15) (hC : CrashSpec 17) (a : Option Addr) (l c : Nat) (a' : Option Addr) (l' c' : Nat) (d : Dsk) (xs xn : Int) (xb : ByteArray) (xl : Int) (w : World) (Dd : Dk w 0 w.heap.size (.agg #[.slice a l c, .slice a' l' c']) d) (sd : smallD d = true)
    (i1 : I64 xs) (i2 : I64 xn) (i3 : 0 ≤ xl) (i4 : xl < 18446744073709551616) (hb : xb.size ≤ 3000) (hp : chkB d = true) :
    Calls Try.prog 29 #[.agg #[.slice a l c, .slice a' l' c'], .agg #[.int .i64 1, .int .i64 xs, .int .i64 xn, .string xb, .int .u64 xl]] w (DoPost w (.agg #[.slice a l c, .slice a' l' c']) ⟨d.now, d.now⟩) := by
  have _uses := And.intro hP (And.intro hS (And.intro hC (And.intro i1 (And.intro i2 (And.intro i3 (And.intro i4 hb))))))
  clear _uses
  have HB := Below.refl w.heap.size w
  have SD := Lib.hid sd
  clear sd
  have EE := Lib.hid (show syncF d = (⟨d.now, d.now⟩, 0) by unfold syncF; rw [hp]; rfl)
  clear hp
  obtain ⟨w1, ee, hbx, Bx2, hzz⟩ := box_new w 24 (.slice a l c) (.slice a' l' c')
  have l_x2 := HB.size
  replace hzz := Lib.hid hzz
  replace Dd := Dd.on hbx
  replace HB := HB.trans (hbx.mono HB.size)
  clear hbx hzz
  obtain ⟨w2, ee, hbx, B3⟩ := box5_new w1 47 (.int .i64 1) (.int .i64 xs) (.int .i64 xn) (.string xb) (.int .u64 xl)
  replace Bx2 := Bx2.far hbx
  replace Dd := Dd.on hbx
  replace HB := HB.trans (hbx.mono HB.size)
  clear hbx
  obtain ⟨w3, ee, hbx, Bx4, hzz⟩ := box_new w2 24 (.slice none 0 0) (.slice none 0 0)
  have l_x4 := HB.size
  have ne_x2_x4 : w.heap.size ≠ w2.heap.size := fun h => absurd (h ▸ Bx2.1) (Nat.lt_irrefl _)
  replace hzz := Lib.hid hzz
  replace Bx2 := Bx2.far hbx
  replace Dd := Dd.on hbx
  replace HB := HB.trans (hbx.mono HB.size)
  replace B3 := B3.far hbx
  clear hbx hzz
  obtain ⟨_, r0, r1, _, _⟩ := id Bx2
  obtain ⟨w4, ee, hbx, Bx5, hzz⟩ := box_new w3 24 (.slice a l c) (.slice a' l' c')
  have l_x5 := HB.size
  have ne_x2_x5 : w.heap.size ≠ w3.heap.size := fun h => absurd (h ▸ Bx2.1) (Nat.lt_irrefl _)
  have ne_x4_x5 : w2.heap.size ≠ w3.heap.size := fun h => absurd (h ▸ Bx4.1) (Nat.lt_irrefl _)
  replace hzz := Lib.hid hzz
  replace Bx2 := Bx2.far hbx
  replace Bx4 := Bx4.far hbx
  replace Dd := Dd.on hbx
  replace HB := HB.trans (hbx.mono HB.size)
  replace B3 := B3.far hbx
  clear hbx hzz
  obtain ⟨_, y0, y1, y2, y3, y4⟩ := id B3
  go_enter Try.func29, Try.ntmps29
  have nn := hS w4.heap.size _ d w4 Dd (Nat.le_refl _) SD.out
  rw [EE.out] at nn
  have hszc := HB.size
  obtain ⟨_, x2_0, x2_1, x2_2, x2_3⟩ := id Bx2
  obtain ⟨_, x4_0, x4_1, x4_2, x4_3⟩ := id Bx4
  obtain ⟨_, x5_0, x5_1, x5_2, x5_3⟩ := id Bx5
  go_wp2_with fail
  refine nn.mono ?_
  rintro e w5 ⟨_, rfl, Du, hbx, av⟩
  clear x2_0 x2_1 x2_2 x2_3 x4_0 x4_1 x4_2 x4_3 x5_0 x5_1 x5_2 x5_3
  clear nn
  obtain ⟨ua, ul, uc, ua', ul', uc', rfl, _⟩ := id Du
  simp only at Du
  replace Bx2 := Bx2.far hbx
  replace Bx4 := Bx4.far hbx
  replace Bx5 := Bx5.far hbx
  replace Dd := Dd.on hbx
  replace HB := HB.trans (hbx.mono HB.size)
  clear hbx y0 y1 y2 y3 y4 B3 r0 r1
  obtain ⟨_, m5_0, m5_1, m5_2, m5_3⟩ := id Bx5
  obtain ⟨_, m2_0, m2_1, m2_2, m2_3⟩ := id Bx2
  obtain ⟨_, m4_0, m4_1, m4_2, m4_3⟩ := id Bx4
  obtain ⟨_, old_0, old_1, old_2, old_3⟩ := id Bx5
  obtain ⟨w6, ee, Bq, hzz, ko, kd, kb⟩ := Bx5.put (isSl _ _ _) (isSl _ _ _) (.slice ua ul uc) (.slice ua' ul' uc')
  replace Bx2 := ko _ _ _ (Ne.symm ne_x2_x5) Bx2
  replace Bx4 := ko _ _ _ (Ne.symm ne_x4_x5) Bx4
  replace Bx5 := Bq
  replace Dd := (kd _ _ _ _ Dd).wide (Nat.le_refl _) (Nat.le_of_eq hzz.symm)
  replace Du := (kd _ _ _ _ Du).wide (Nat.le_refl _) (Nat.le_of_eq hzz.symm)
  replace HB := kb w l_x5 HB
  clear Bq ko kd kb hzz
  clear old_0 old_1 old_2 old_3
  obtain ⟨_, x2_0, x2_1, x2_2, x2_3⟩ := id Bx2
  obtain ⟨_, x4_0, x4_1, x4_2, x4_3⟩ := id Bx4
  obtain ⟨_, x5_0, x5_1, x5_2, x5_3⟩ := id Bx5
  obtain ⟨wf, ef, Bf, hzf, _, kd, kb⟩ := Bx4.put (isSl _ _ _) (isSl _ _ _) (.slice ua ul uc) (.slice ua' ul' uc')
  obtain ⟨_, f0, f1, f2, f3⟩ := id Bf
  have hend := kb w l_x4 HB
  have hdk := (kd _ _ _ _ Du).wide (Nat.le_refl _) (Nat.le_of_eq hzf.symm)
  clear hzf kd kb
  go_wp2
  exact bodyPost_ret (v := .agg #[.slice ua ul uc, .slice ua' ul' uc']) (by simp [results, Try.results29, go_sem, f0, f1]) rfl ⟨_, rfl, hdk, hend, fun Q hQ hv => av Q (Nat.lt_of_lt_of_le hQ hszc) hv⟩
set_option maxHeartbeats 3200000 in
theorem do_sync_no (hP : PutSpec 12) (hS : SyncSpec 15) (hC : CrashSpec 17) (a : Option Addr) (l c : Nat) (a' : Option Addr) (l' c' : Nat) (d : Dsk) (xs xn : Int) (xb : ByteArray) (xl : Int) (w : World) (Dd : Dk w 0 w.heap.size (.agg #[.slice a l c, .slice a' l' c']) d) (sd : smallD d = true)
    (i1 : I64 xs) (i2 : I64 xn) (i3 : 0 ≤ xl) (i4 : xl < 18446744073709551616) (hb : xb.size ≤ 3000) (hp : chkB d = false) :
    Calls Try.prog 29 #[.agg #[.slice a l c, .slice a' l' c'], .agg #[.int .i64 1, .int .i64 xs, .int .i64 xn, .string xb, .int .u64 xl]] w (DoPost w (.agg #[.slice a l c, .slice a' l' c']) d) := by
  have _uses := And.intro hP (And.intro hS (And.intro hC (And.intro i1 (And.intro i2 (And.intro i3 (And.intro i4 hb))))))
  clear _uses
  have HB := Below.refl w.heap.size w
  have SD := Lib.hid sd
  clear sd
  have EE := Lib.hid (show syncF d = (none_, 2) by unfold syncF; rw [hp]; rfl)
  clear hp
  obtain ⟨w1, ee, hbx, Bx2, hzz⟩ := box_new w 24 (.slice a l c) (.slice a' l' c')
  have l_x2 := HB.size
  replace hzz := Lib.hid hzz
  replace Dd := Dd.on hbx
  replace HB := HB.trans (hbx.mono HB.size)
  clear hbx hzz
  obtain ⟨w2, ee, hbx, B3⟩ := box5_new w1 47 (.int .i64 1) (.int .i64 xs) (.int .i64 xn) (.string xb) (.int .u64 xl)
  replace Bx2 := Bx2.far hbx
  replace Dd := Dd.on hbx
  replace HB := HB.trans (hbx.mono HB.size)
  clear hbx
  obtain ⟨w3, ee, hbx, Bx4, hzz⟩ := box_new w2 24 (.slice none 0 0) (.slice none 0 0)
  have l_x4 := HB.size
  have ne_x2_x4 : w.heap.size ≠ w2.heap.size := fun h => absurd (h ▸ Bx2.1) (Nat.lt_irrefl _)
  replace hzz := Lib.hid hzz
  replace Bx2 := Bx2.far hbx
  replace Dd := Dd.on hbx
  replace HB := HB.trans (hbx.mono HB.size)
  replace B3 := B3.far hbx
  clear hbx hzz
  obtain ⟨_, r0, r1, _, _⟩ := id Bx2
  obtain ⟨w4, ee, hbx, Bx5, hzz⟩ := box_new w3 24 (.slice a l c) (.slice a' l' c')
  have l_x5 := HB.size
  have ne_x2_x5 : w.heap.size ≠ w3.heap.size := fun h => absurd (h ▸ Bx2.1) (Nat.lt_irrefl _)
  have ne_x4_x5 : w2.heap.size ≠ w3.heap.size := fun h => absurd (h ▸ Bx4.1) (Nat.lt_irrefl _)
  replace hzz := Lib.hid hzz
  replace Bx2 := Bx2.far hbx
  replace Bx4 := Bx4.far hbx
  replace Dd := Dd.on hbx
  replace HB := HB.trans (hbx.mono HB.size)
  replace B3 := B3.far hbx
  clear hbx hzz
  obtain ⟨_, y0, y1, y2, y3, y4⟩ := id B3
  go_enter Try.func29, Try.ntmps29
  have nn := hS w4.heap.size _ d w4 Dd (Nat.le_refl _) SD.out
  rw [EE.out] at nn
  have hszc := HB.size
  obtain ⟨_, x2_0, x2_1, x2_2, x2_3⟩ := id Bx2
  obtain ⟨_, x4_0, x4_1, x4_2, x4_3⟩ := id Bx4
  obtain ⟨_, x5_0, x5_1, x5_2, x5_3⟩ := id Bx5
  go_wp2_with fail
  refine nn.mono ?_
  rintro e w5 ⟨_, rfl, Du, hbx, av⟩
  clear x2_0 x2_1 x2_2 x2_3 x4_0 x4_1 x4_2 x4_3 x5_0 x5_1 x5_2 x5_3
  clear nn
  obtain ⟨ua, ul, uc, ua', ul', uc', rfl, _⟩ := id Du
  simp only at Du
  replace Bx2 := Bx2.far hbx
  replace Bx4 := Bx4.far hbx
  replace Bx5 := Bx5.far hbx
  replace Dd := Dd.on hbx
  replace HB := HB.trans (hbx.mono HB.size)
  clear hbx y0 y1 y2 y3 y4 B3 r0 r1
  obtain ⟨_, m5_0, m5_1, m5_2, m5_3⟩ := id Bx5
  obtain ⟨_, m2_0, m2_1, m2_2, m2_3⟩ := id Bx2
  obtain ⟨_, m4_0, m4_1, m4_2, m4_3⟩ := id Bx4
  obtain ⟨_, old_0, old_1, old_2, old_3⟩ := id Bx5
  obtain ⟨w6, ee, Bq, hzz, ko, kd, kb⟩ := Bx5.put (isSl _ _ _) (isSl _ _ _) (.slice ua ul uc) (.slice ua' ul' uc')
  replace Bx2 := ko _ _ _ (Ne.symm ne_x2_x5) Bx2
  replace Bx4 := ko _ _ _ (Ne.symm ne_x4_x5) Bx4
  replace Bx5 := Bq
  replace Dd := (kd _ _ _ _ Dd).wide (Nat.le_refl _) (Nat.le_of_eq hzz.symm)
  replace Du := (kd _ _ _ _ Du).wide (Nat.le_refl _) (Nat.le_of_eq hzz.symm)
  replace HB := kb w l_x5 HB
  clear Bq ko kd kb hzz
  clear old_0 old_1 old_2 old_3
  obtain ⟨_, x2_0, x2_1, x2_2, x2_3⟩ := id Bx2
  obtain ⟨_, x4_0, x4_1, x4_2, x4_3⟩ := id Bx4
  obtain ⟨_, x5_0, x5_1, x5_2, x5_3⟩ := id Bx5
  obtain ⟨wf, ef, Bf, hzf, _, kd, kb⟩ := Bx4.put (isSl _ _ _) (isSl _ _ _) (.slice a l c) (.slice a' l' c')
  obtain ⟨_, f0, f1, f2, f3⟩ := id Bf
  have hend := kb w l_x4 HB
  have hdk := (kd _ _ _ _ Dd).wide (Nat.le_refl _) (Nat.le_of_eq hzf.symm)
  clear hzf kd kb
  go_wp2
  exact bodyPost_ret (v := .agg #[.slice a l c, .slice a' l' c']) (by simp [results, Try.results29, go_sem, f0, f1]) rfl ⟨_, rfl, hdk, hend, fun _ _ hv => hv⟩
set_option maxHeartbeats 3200000 in
theorem do_crash (hP : PutSpec 12) (hS : SyncSpec 15) (hC : CrashSpec 17) (a : Option Addr) (l c : Nat) (a' : Option Addr) (l' c' : Nat) (d : Dsk) (xs xn : Int) (xb : ByteArray) (xl : Int) (w : World) (Dd : Dk w 0 w.heap.size (.agg #[.slice a l c, .slice a' l' c']) d) (sd : smallD d = true)
    (i1 : I64 xs) (i2 : I64 xn) (i3 : 0 ≤ xl) (i4 : xl < 18446744073709551616) (hb : xb.size ≤ 3000) (hp : chkB d = true) :
    Calls Try.prog 29 #[.agg #[.slice a l c, .slice a' l' c'], .agg #[.int .i64 2, .int .i64 xs, .int .i64 xn, .string xb, .int .u64 xl]] w (DoPost w (.agg #[.slice a l c, .slice a' l' c']) (crashD d xl)) := by
  have _uses := And.intro hP (And.intro hS (And.intro hC (And.intro i1 (And.intro i2 (And.intro i3 (And.intro i4 hb))))))
  clear _uses
  have HB := Below.refl w.heap.size w
  have SD := Lib.hid sd
  clear sd
  have EE := Lib.hid (show crashF d xl = (crashD d xl, 0) by unfold crashF; rw [hp]; rfl)
  clear hp
  obtain ⟨w1, ee, hbx, Bx2, hzz⟩ := box_new w 24 (.slice a l c) (.slice a' l' c')
  have l_x2 := HB.size
  replace hzz := Lib.hid hzz
  replace Dd := Dd.on hbx
  replace HB := HB.trans (hbx.mono HB.size)
  clear hbx hzz
  obtain ⟨w2, ee, hbx, B3⟩ := box5_new w1 47 (.int .i64 2) (.int .i64 xs) (.int .i64 xn) (.string xb) (.int .u64 xl)
  replace Bx2 := Bx2.far hbx
  replace Dd := Dd.on hbx
  replace HB := HB.trans (hbx.mono HB.size)
  clear hbx
  obtain ⟨w3, ee, hbx, Bx4, hzz⟩ := box_new w2 24 (.slice none 0 0) (.slice none 0 0)
  have l_x4 := HB.size
  have ne_x2_x4 : w.heap.size ≠ w2.heap.size := fun h => absurd (h ▸ Bx2.1) (Nat.lt_irrefl _)
  replace hzz := Lib.hid hzz
  replace Bx2 := Bx2.far hbx
  replace Dd := Dd.on hbx
  replace HB := HB.trans (hbx.mono HB.size)
  replace B3 := B3.far hbx
  clear hbx hzz
  obtain ⟨_, r0, r1, _, _⟩ := id Bx2
  obtain ⟨w4, ee, hbx, Bx5, hzz⟩ := box_new w3 24 (.slice a l c) (.slice a' l' c')
  have l_x5 := HB.size
  have ne_x2_x5 : w.heap.size ≠ w3.heap.size := fun h => absurd (h ▸ Bx2.1) (Nat.lt_irrefl _)
  have ne_x4_x5 : w2.heap.size ≠ w3.heap.size := fun h => absurd (h ▸ Bx4.1) (Nat.lt_irrefl _)
  replace hzz := Lib.hid hzz
  replace Bx2 := Bx2.far hbx
  replace Bx4 := Bx4.far hbx
  replace Dd := Dd.on hbx
  replace HB := HB.trans (hbx.mono HB.size)
  replace B3 := B3.far hbx
  clear hbx hzz
  obtain ⟨_, y0, y1, y2, y3, y4⟩ := id B3
  go_enter Try.func29, Try.ntmps29
  have nn := hC w4.heap.size _ d xl w4 Dd (Nat.le_refl _) SD.out i3 i4
  rw [EE.out] at nn
  have hszc := HB.size
  obtain ⟨_, x2_0, x2_1, x2_2, x2_3⟩ := id Bx2
  obtain ⟨_, x4_0, x4_1, x4_2, x4_3⟩ := id Bx4
  obtain ⟨_, x5_0, x5_1, x5_2, x5_3⟩ := id Bx5
  go_wp2_with fail
  refine nn.mono ?_
  rintro e w5 ⟨_, rfl, Du, hbx, av⟩
  clear x2_0 x2_1 x2_2 x2_3 x4_0 x4_1 x4_2 x4_3 x5_0 x5_1 x5_2 x5_3
  clear nn
  obtain ⟨ua, ul, uc, ua', ul', uc', rfl, _⟩ := id Du
  simp only at Du
  replace Bx2 := Bx2.far hbx
  replace Bx4 := Bx4.far hbx
  replace Bx5 := Bx5.far hbx
  replace Dd := Dd.on hbx
  replace HB := HB.trans (hbx.mono HB.size)
  clear hbx y0 y1 y2 y3 y4 B3 r0 r1
  obtain ⟨_, m5_0, m5_1, m5_2, m5_3⟩ := id Bx5
  obtain ⟨_, m2_0, m2_1, m2_2, m2_3⟩ := id Bx2
  obtain ⟨_, m4_0, m4_1, m4_2, m4_3⟩ := id Bx4
  obtain ⟨_, old_0, old_1, old_2, old_3⟩ := id Bx5
  obtain ⟨w6, ee, Bq, hzz, ko, kd, kb⟩ := Bx5.put (isSl _ _ _) (isSl _ _ _) (.slice ua ul uc) (.slice ua' ul' uc')
  replace Bx2 := ko _ _ _ (Ne.symm ne_x2_x5) Bx2
  replace Bx4 := ko _ _ _ (Ne.symm ne_x4_x5) Bx4
  replace Bx5 := Bq
  replace Dd := (kd _ _ _ _ Dd).wide (Nat.le_refl _) (Nat.le_of_eq hzz.symm)
  replace Du := (kd _ _ _ _ Du).wide (Nat.le_refl _) (Nat.le_of_eq hzz.symm)
  replace HB := kb w l_x5 HB
  clear Bq ko kd kb hzz
  clear old_0 old_1 old_2 old_3
  obtain ⟨_, x2_0, x2_1, x2_2, x2_3⟩ := id Bx2
  obtain ⟨_, x4_0, x4_1, x4_2, x4_3⟩ := id Bx4
  obtain ⟨_, x5_0, x5_1, x5_2, x5_3⟩ := id Bx5
  obtain ⟨wf, ef, Bf, hzf, _, kd, kb⟩ := Bx4.put (isSl _ _ _) (isSl _ _ _) (.slice ua ul uc) (.slice ua' ul' uc')
  obtain ⟨_, f0, f1, f2, f3⟩ := id Bf
  have hend := kb w l_x4 HB
  have hdk := (kd _ _ _ _ Du).wide (Nat.le_refl _) (Nat.le_of_eq hzf.symm)
  clear hzf kd kb
  go_wp2
  exact bodyPost_ret (v := .agg #[.slice ua ul uc, .slice ua' ul' uc']) (by simp [results, Try.results29, go_sem, f0, f1]) rfl ⟨_, rfl, hdk, hend, fun Q hQ hv => av Q (Nat.lt_of_lt_of_le hQ hszc) hv⟩
set_option maxHeartbeats 3200000 in
theorem do_crash_no (hP : PutSpec 12) (hS : SyncSpec 15) (hC : CrashSpec 17) (a : Option Addr) (l c : Nat) (a' : Option Addr) (l' c' : Nat) (d : Dsk) (xs xn : Int) (xb : ByteArray) (xl : Int) (w : World) (Dd : Dk w 0 w.heap.size (.agg #[.slice a l c, .slice a' l' c']) d) (sd : smallD d = true)
    (i1 : I64 xs) (i2 : I64 xn) (i3 : 0 ≤ xl) (i4 : xl < 18446744073709551616) (hb : xb.size ≤ 3000) (hp : chkB d = false) :
    Calls Try.prog 29 #[.agg #[.slice a l c, .slice a' l' c'], .agg #[.int .i64 2, .int .i64 xs, .int .i64 xn, .string xb, .int .u64 xl]] w (DoPost w (.agg #[.slice a l c, .slice a' l' c']) d) := by
  have _uses := And.intro hP (And.intro hS (And.intro hC (And.intro i1 (And.intro i2 (And.intro i3 (And.intro i4 hb))))))
  clear _uses
  have HB := Below.refl w.heap.size w
  have SD := Lib.hid sd
  clear sd
  have EE := Lib.hid (show crashF d xl = (none_, 2) by unfold crashF; rw [hp]; rfl)
  clear hp
  obtain ⟨w1, ee, hbx, Bx2, hzz⟩ := box_new w 24 (.slice a l c) (.slice a' l' c')
  have l_x2 := HB.size
  replace hzz := Lib.hid hzz
  replace Dd := Dd.on hbx
  replace HB := HB.trans (hbx.mono HB.size)
  clear hbx hzz
  obtain ⟨w2, ee, hbx, B3⟩ := box5_new w1 47 (.int .i64 2) (.int .i64 xs) (.int .i64 xn) (.string xb) (.int .u64 xl)
  replace Bx2 := Bx2.far hbx
  replace Dd := Dd.on hbx
  replace HB := HB.trans (hbx.mono HB.size)
  clear hbx
  obtain ⟨w3, ee, hbx, Bx4, hzz⟩ := box_new w2 24 (.slice none 0 0) (.slice none 0 0)
  have l_x4 := HB.size
  have ne_x2_x4 : w.heap.size ≠ w2.heap.size := fun h => absurd (h ▸ Bx2.1) (Nat.lt_irrefl _)
  replace hzz := Lib.hid hzz
  replace Bx2 := Bx2.far hbx
  replace Dd := Dd.on hbx
  replace HB := HB.trans (hbx.mono HB.size)
  replace B3 := B3.far hbx
  clear hbx hzz
  obtain ⟨_, r0, r1, _, _⟩ := id Bx2
  obtain ⟨w4, ee, hbx, Bx5, hzz⟩ := box_new w3 24 (.slice a l c) (.slice a' l' c')
  have l_x5 := HB.size
  have ne_x2_x5 : w.heap.size ≠ w3.heap.size := fun h => absurd (h ▸ Bx2.1) (Nat.lt_irrefl _)
  have ne_x4_x5 : w2.heap.size ≠ w3.heap.size := fun h => absurd (h ▸ Bx4.1) (Nat.lt_irrefl _)
  replace hzz := Lib.hid hzz
  replace Bx2 := Bx2.far hbx
  replace Bx4 := Bx4.far hbx
  replace Dd := Dd.on hbx
  replace HB := HB.trans (hbx.mono HB.size)
  replace B3 := B3.far hbx
  clear hbx hzz
  obtain ⟨_, y0, y1, y2, y3, y4⟩ := id B3
  go_enter Try.func29, Try.ntmps29
  have nn := hC w4.heap.size _ d xl w4 Dd (Nat.le_refl _) SD.out i3 i4
  rw [EE.out] at nn
  have hszc := HB.size
  obtain ⟨_, x2_0, x2_1, x2_2, x2_3⟩ := id Bx2
  obtain ⟨_, x4_0, x4_1, x4_2, x4_3⟩ := id Bx4
  obtain ⟨_, x5_0, x5_1, x5_2, x5_3⟩ := id Bx5
  go_wp2_with fail
  refine nn.mono ?_
  rintro e w5 ⟨_, rfl, Du, hbx, av⟩
  clear x2_0 x2_1 x2_2 x2_3 x4_0 x4_1 x4_2 x4_3 x5_0 x5_1 x5_2 x5_3
  clear nn
  obtain ⟨ua, ul, uc, ua', ul', uc', rfl, _⟩ := id Du
  simp only at Du
  replace Bx2 := Bx2.far hbx
  replace Bx4 := Bx4.far hbx
  replace Bx5 := Bx5.far hbx
  replace Dd := Dd.on hbx
  replace HB := HB.trans (hbx.mono HB.size)
  clear hbx y0 y1 y2 y3 y4 B3 r0 r1
  obtain ⟨_, m5_0, m5_1, m5_2, m5_3⟩ := id Bx5
  obtain ⟨_, m2_0, m2_1, m2_2, m2_3⟩ := id Bx2
  obtain ⟨_, m4_0, m4_1, m4_2, m4_3⟩ := id Bx4
  obtain ⟨_, old_0, old_1, old_2, old_3⟩ := id Bx5
  obtain ⟨w6, ee, Bq, hzz, ko, kd, kb⟩ := Bx5.put (isSl _ _ _) (isSl _ _ _) (.slice ua ul uc) (.slice ua' ul' uc')
  replace Bx2 := ko _ _ _ (Ne.symm ne_x2_x5) Bx2
  replace Bx4 := ko _ _ _ (Ne.symm ne_x4_x5) Bx4
  replace Bx5 := Bq
  replace Dd := (kd _ _ _ _ Dd).wide (Nat.le_refl _) (Nat.le_of_eq hzz.symm)
  replace Du := (kd _ _ _ _ Du).wide (Nat.le_refl _) (Nat.le_of_eq hzz.symm)
  replace HB := kb w l_x5 HB
  clear Bq ko kd kb hzz
  clear old_0 old_1 old_2 old_3
  obtain ⟨_, x2_0, x2_1, x2_2, x2_3⟩ := id Bx2
  obtain ⟨_, x4_0, x4_1, x4_2, x4_3⟩ := id Bx4
  obtain ⟨_, x5_0, x5_1, x5_2, x5_3⟩ := id Bx5
  obtain ⟨wf, ef, Bf, hzf, _, kd, kb⟩ := Bx4.put (isSl _ _ _) (isSl _ _ _) (.slice a l c) (.slice a' l' c')
  obtain ⟨_, f0, f1, f2, f3⟩ := id Bf
  have hend := kb w l_x4 HB
  have hdk := (kd _ _ _ _ Dd).wide (Nat.le_refl _) (Nat.le_of_eq hzf.symm)
  clear hzf kd kb
  go_wp2
  exact bodyPost_ret (v := .agg #[.slice a l c, .slice a' l' c']) (by simp [results, Try.results29, go_sem, f0, f1]) rfl ⟨_, rfl, hdk, hend, fun _ _ hv => hv⟩
set_option maxHeartbeats 3200000 in
theorem do_else (hP : PutSpec 12) (hS : SyncSpec 15) (hC : CrashSpec 17) (a : Option Addr) (l c : Nat) (a' : Option Addr) (l' c' : Nat) (d : Dsk) (xk xs xn : Int) (xb : ByteArray) (xl : Int) (w : World) (Dd : Dk w 0 w.heap.size (.agg #[.slice a l c, .slice a' l' c']) d) (sd : smallD d = true)
    (i1 : I64 xs) (i2 : I64 xn) (i3 : 0 ≤ xl) (i4 : xl < 18446744073709551616) (hb : xb.size ≤ 3000) (hk0 : (xk == 0) = false) (hk1 : (xk == 1) = false) (hk2 : (xk == 2) = false) :
    Calls Try.prog 29 #[.agg #[.slice a l c, .slice a' l' c'], .agg #[.int .i64 xk, .int .i64 xs, .int .i64 xn, .string xb, .int .u64 xl]] w (DoPost w (.agg #[.slice a l c, .slice a' l' c']) d) := by
  have _uses := And.intro hP (And.intro hS (And.intro hC (And.intro i1 (And.intro i2 (And.intro i3 (And.intro i4 hb))))))
  clear _uses
  have HB := Below.refl w.heap.size w
  have SD := Lib.hid sd
  clear sd
  obtain ⟨w1, ee, hbx, Bx2, hzz⟩ := box_new w 24 (.slice a l c) (.slice a' l' c')
  have l_x2 := HB.size
  replace hzz := Lib.hid hzz
  replace Dd := Dd.on hbx
  replace HB := HB.trans (hbx.mono HB.size)
  clear hbx hzz
  obtain ⟨w2, ee, hbx, B3⟩ := box5_new w1 47 (.int .i64 xk) (.int .i64 xs) (.int .i64 xn) (.string xb) (.int .u64 xl)
  replace Bx2 := Bx2.far hbx
  replace Dd := Dd.on hbx
  replace HB := HB.trans (hbx.mono HB.size)
  clear hbx
  obtain ⟨w3, ee, hbx, Bx4, hzz⟩ := box_new w2 24 (.slice none 0 0) (.slice none 0 0)
  have l_x4 := HB.size
  have ne_x2_x4 : w.heap.size ≠ w2.heap.size := fun h => absurd (h ▸ Bx2.1) (Nat.lt_irrefl _)
  replace hzz := Lib.hid hzz
  replace Bx2 := Bx2.far hbx
  replace Dd := Dd.on hbx
  replace HB := HB.trans (hbx.mono HB.size)
  replace B3 := B3.far hbx
  clear hbx hzz
  obtain ⟨_, r0, r1, _, _⟩ := id Bx2
  obtain ⟨w4, ee, hbx, Bx5, hzz⟩ := box_new w3 24 (.slice a l c) (.slice a' l' c')
  have l_x5 := HB.size
  have ne_x2_x5 : w.heap.size ≠ w3.heap.size := fun h => absurd (h ▸ Bx2.1) (Nat.lt_irrefl _)
  have ne_x4_x5 : w2.heap.size ≠ w3.heap.size := fun h => absurd (h ▸ Bx4.1) (Nat.lt_irrefl _)
  replace hzz := Lib.hid hzz
  replace Bx2 := Bx2.far hbx
  replace Bx4 := Bx4.far hbx
  replace Dd := Dd.on hbx
  replace HB := HB.trans (hbx.mono HB.size)
  replace B3 := B3.far hbx
  clear hbx hzz
  obtain ⟨_, y0, y1, y2, y3, y4⟩ := id B3
  go_enter Try.func29, Try.ntmps29
  obtain ⟨_, x2_0, x2_1, x2_2, x2_3⟩ := id Bx2
  obtain ⟨_, x4_0, x4_1, x4_2, x4_3⟩ := id Bx4
  obtain ⟨_, x5_0, x5_1, x5_2, x5_3⟩ := id Bx5
  obtain ⟨wf, ef, Bf, hzf, _, kd, kb⟩ := Bx4.put (isSl _ _ _) (isSl _ _ _) (.slice a l c) (.slice a' l' c')
  obtain ⟨_, f0, f1, f2, f3⟩ := id Bf
  have hend := kb w l_x4 HB
  have hdk := (kd _ _ _ _ Dd).wide (Nat.le_refl _) (Nat.le_of_eq hzf.symm)
  clear hzf kd kb
  go_wp2
  exact bodyPost_ret (v := .agg #[.slice a l c, .slice a' l' c']) (by simp [results, Try.results29, go_sem, f0, f1]) rfl ⟨_, rfl, hdk, hend, fun _ _ hv => hv⟩
theorem do_walk (hP : PutSpec 12) (hS : SyncSpec 15) (hC : CrashSpec 17) (v : Value) (d : Dsk) (x : DAct) (w : World) (Dd : Dk w 0 w.heap.size v d) (sd : smallD d = true) (hi : x.In) (hb : x.b.size ≤ 3000) :
    Calls Try.prog 29 #[v, x.val] w (DoPost w v (doD d x)) := by
  obtain ⟨a, l, c, a', l', c', rfl, _⟩ := id Dd
  obtain ⟨k, s, n, b, lost⟩ := x
  obtain ⟨_, i1, i2, i3, i4⟩ := hi
  unfold doD
  simp only [DAct.val] at *
  by_cases h0 : k = 0
  · subst h0
    rw [if_pos rfl]
    rcases hp : putOk d s n b with _ | _
    · exact do_put_no hP hS hC a l c a' l' c' d s n b lost w Dd sd i1 i2 i3 i4 hb hp
    · exact do_put hP hS hC a l c a' l' c' d s n b lost w Dd sd i1 i2 i3 i4 hb hp
  · rw [if_neg h0]
    by_cases h1 : k = 1
    · subst h1
      rw [if_pos rfl]
      rcases hp : chkB d with _ | _
      · exact do_sync_no hP hS hC a l c a' l' c' d s n b lost w Dd sd i1 i2 i3 i4 hb hp
      · exact do_sync hP hS hC a l c a' l' c' d s n b lost w Dd sd i1 i2 i3 i4 hb hp
    · rw [if_neg h1]
      by_cases h2 : k = 2
      · subst h2
        rw [if_pos rfl]
        rcases hp : chkB d with _ | _
        · exact do_crash_no hP hS hC a l c a' l' c' d s n b lost w Dd sd i1 i2 i3 i4 hb hp
        · exact do_crash hP hS hC a l c a' l' c' d s n b lost w Dd sd i1 i2 i3 i4 hb hp
      · rw [if_neg h2]
        exact do_else hP hS hC a l c a' l' c' d k s n b lost w Dd sd i1 i2 i3 i4 hb (by simpa using h0) (by simpa using h1) (by simpa using h2)
end Go.Proofs.Ytjahhheipeggeaa
