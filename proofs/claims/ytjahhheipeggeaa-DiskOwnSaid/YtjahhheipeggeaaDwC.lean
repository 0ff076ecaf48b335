/- What is proved: a disk behind an act is the very one that was handed in, or one whose rows are new. -/
import Derived.Test.YtjahhheipeggeaaDvH
namespace Go.Proofs.Ytjahhheipeggeaa
open Go.RowKit

/-- A disk and an error number; its rows lie in new blocks. -/
def FrPost (W : World) (r : Dsk × Int) (e : Ending) (w' : World) : Prop := ∃ v', e = .returned (.tuple #[v', .int .i64 r.2]) ∧ Dk w' 0 w'.heap.size v' r.1 ∧ Below W.heap.size W w' ∧ ∀ Q, Q < W.heap.size → Avo Q v'
def PutFr (f : FuncId) : Prop := ∀ (hi : Nat) (v : Value) (d : Dsk) (s n : Int) (b : ByteArray) (w : World), Dk w 0 hi v d → hi ≤ w.heap.size → smallD d = true → I64 s → I64 n → b.size ≤ 3000 →
  Calls Try.prog f #[v, .int .i64 s, .int .i64 n, .string b] w (FrPost w (putF d s n b))
def SyncFr (f : FuncId) : Prop := ∀ (hi : Nat) (v : Value) (d : Dsk) (w : World), Dk w 0 hi v d → hi ≤ w.heap.size → smallD d = true → Calls Try.prog f #[v] w (FrPost w (syncF d))
def CrashFr (f : FuncId) : Prop := ∀ (hi : Nat) (v : Value) (d : Dsk) (lost : Int) (w : World), Dk w 0 hi v d → hi ≤ w.heap.size → smallD d = true → 0 ≤ lost → lost < 18446744073709551616 →
  Calls Try.prog f #[v, .int .u64 lost] w (FrPost w (crashF d lost))
theorem dput_fr : PutFr 12 := by
  intro hi v d s n b w hd hh _ _ _ _
  rcases hk : putOk d s n b with _ | _
  · refine (dput_no 0 hi v d s n b w hd hh hk).mono ?_
    rintro e w' ⟨rfl, hb⟩
    unfold putF
    rw [hk]
    exact ⟨_, rfl, nil_dk _ _ _, hb, fun Q _ => avo_nil Q⟩
  · have ha := of_decide_eq_true (Bool.and_eq_true_iff.1 hk).2
    obtain ⟨k, rfl⟩ := Int.eq_ofNat_of_zero_le ha.1
    refine (dput_yes 0 hi v d k n b w hd hh hk).mono ?_
    rintro e w' ⟨v', rfl, ho, hb⟩
    unfold putF
    rw [hk, Int.toNat_natCast]
    exact ⟨_, rfl, own2_0 ho, hb, fun Q hQ => ho.avo hQ⟩
theorem dcrash_fr : CrashFr 17 := by
  intro hi v d lost w hd hh _ h0 h1
  rcases hk : chkB d with _ | _
  · refine (dcrash_no 0 hi v d lost w hd hh hk).mono ?_
    rintro e w' ⟨rfl, hb⟩
    unfold crashF
    rw [hk]
    exact ⟨_, rfl, nil_dk _ _ _, hb, fun Q _ => avo_nil Q⟩
  · refine (dcrash_yes 0 hi v d lost w hd hh hk h0 h1).mono ?_
    rintro e w' ⟨v', rfl, ho, hb⟩
    unfold crashF
    rw [hk]
    exact ⟨_, rfl, own2_0 ho, hb, fun Q hQ => ho.avo hQ⟩
set_option maxHeartbeats 1600000 in
theorem dsync_fr : SyncFr 15 := by
  intro hi v d w hd hh hs
  have hd0 := hd
  obtain ⟨a, l, c, a', l', c', rfl, h1, h2, hc⟩ := hd
  obtain ⟨W2, e2, hb1, k0, k1, k3, k4, k5, hsz⟩ := two_boxes w 24 24 (.slice a l c) (.slice a' l' c') (.slice none 0 0) (.slice none 0 0)
  have r1 := dcrash_fr hi (.agg #[.slice a l c, .slice a' l' c']) d 0 W2 (hd0.far (hb1.mono hh)) (by omega) hs (by decide) (by decide)
  rw [crashF_zero] at r1
  have hd1 := hd0
  clear hd0 h1 h2
  go_enter Try.func15, Try.ntmps15
  go_wp2_with fail
  refine r1.mono ?_
  rintro e w3 ⟨v', rfl, hd3, hb3, hav⟩
  obtain ⟨b, m, f, b', m', f', rfl, h3, h4, hc3⟩ := hd3
  obtain ⟨q0, q1, q2, q3⟩ := kR k3 k4 k5 hsz hb3
  have hB3 := hb1.trans (hb3.mono hb1.size)
  have hend : Below w.heap.size w ((w3.setCell ⟨w.heap.size + 1, 0, none⟩ (.slice b m f)).setCell ⟨w.heap.size + 1, 1, none⟩ (.slice b' m' f')) := (hB3.setCell (Nat.le_succ _) _).setCell (Nat.le_succ _) _
  clear k0 k1 k3 k4 k5 e2 r1
  go_wp2
  refine bodyPost_ret (v := .tuple #[.agg #[.slice b m f, .slice b' m' f'], .int .i64 (syncF d).2]) (by simp [results, Try.results15, go_sem, q0, q1]) rfl ⟨_, rfl, ?_, hend, fun Q hQ => hav Q (by omega)⟩
  rcases hk : chkB d with _ | _
  · have e : (syncF d).1 = none_ := by unfold syncF; rw [hk]; rfl
    rw [e] at h3 h4 ⊢
    have z3 := secs_len h3
    have z4 := secs_len h4
    have z3 : 0 = m := z3
    have z4 : 0 = m' := z4
    subst z3 z4
    exact ⟨b, 0, f, b', 0, f', rfl, Rg.nil, Rg.nil, hc3⟩
  · have av := hav (w.heap.size + 1) (by omega)
    have hd3 : Dk w3 0 w3.heap.size (.agg #[.slice b m f, .slice b' m' f']) (syncF d).1 := ⟨b, m, f, b', m', f', rfl, h3, h4, hc3⟩
    exact ((hd3.avo_set av 0 _).avo_set av 1 _).wide (Nat.le_refl _) (by simp)


def DoFr (W : World) (v : Value) (d : Dsk) (e : Ending) (w' : World) : Prop := ∃ v', e = .returned v' ∧ Dk w' 0 w'.heap.size v' d ∧ Below W.heap.size W w' ∧ (v' = v ∨ ∀ Q, Q < W.heap.size → Avo Q v')
set_option maxHeartbeats 3200000 in
theorem fo_put (hP : PutFr 12) (hS : SyncFr 15) (hC : CrashFr 17) (a : Option Addr) (l c : Nat) (a' : Option Addr) (l' c' : Nat) (d : Dsk) (xs xn : Int) (xb : ByteArray) (xl : Int) (w : World) (Dd : Dk w 0 w.heap.size (.agg #[.slice a l c, .slice a' l' c']) d) (sd : smallD d = true)
    (i1 : I64 xs) (i2 : I64 xn) (i3 : 0 ≤ xl) (i4 : xl < 18446744073709551616) (hb : xb.size ≤ 3000) (hp : putOk d xs xn xb = true) :
    Calls Try.prog 29 #[.agg #[.slice a l c, .slice a' l' c'], .agg #[.int .i64 0, .int .i64 xs, .int .i64 xn, .string xb, .int .u64 xl]] w (DoFr w (.agg #[.slice a l c, .slice a' l' c']) (putD d xs.toNat xn xb)) := by
  have _uses := And.intro hP (And.intro hS (And.intro hC (And.intro i1 (And.intro i2 (And.intro i3 (And.intro i4 hb))))))
  clear _uses
  have HB := Below.refl w.heap.size w
  have SD := Lib.hid sd
  clear sd
  have EE := Lib.hid (show putF d xs xn xb = (putD d xs.toNat xn xb, 0) by unfold putF; rw [hp]; rfl)
  clear hp
  obtain ⟨w1, ee, hbx, Bx2, hzz⟩ := box_new w 24 (.slice a l c) (.slice a' l' c')
  have l_x2 := HB.size
  replace hzz := Lib.hid hzz
  replace Dd := Dd.on hbx
  replace HB := HB.trans (hbx.mono HB.size)
  clear hbx hzz
  obtain ⟨w2, ee, hbx, B3⟩ := box5_new w1 47 (.int .i64 0) (.int .i64 xs) (.int .i64 xn) (.string xb) (.int .u64 xl)
  replace Bx2 := Bx2.far hbx
  replace Dd := Dd.on hbx
  replace HB := HB.trans (hbx.mono HB.size)
  clear hbx
  obtain ⟨w3, ee, hbx, Bx4, hzz⟩ := box_new w2 24 (.slice none 0 0) (.slice none 0 0)
  have l_x4 := HB.size
  have ne_x2_x4 : w.heap.size ≠ w2.heap.size := fun h => absurd (h ▸ Bx2.1) (Nat.lt_irrefl _)
  replace hzz := Lib.hid hzz
  replace Bx2 := Bx2.far hbx
  replace Dd := Dd.on hbx
  replace HB := HB.trans (hbx.mono HB.size)
  replace B3 := B3.far hbx
  clear hbx hzz
  obtain ⟨_, r0, r1, _, _⟩ := id Bx2
  obtain ⟨w4, ee, hbx, Bx5, hzz⟩ := box_new w3 24 (.slice a l c) (.slice a' l' c')
  have l_x5 := HB.size
  have ne_x2_x5 : w.heap.size ≠ w3.heap.size := fun h => absurd (h ▸ Bx2.1) (Nat.lt_irrefl _)
  have ne_x4_x5 : w2.heap.size ≠ w3.heap.size := fun h => absurd (h ▸ Bx4.1) (Nat.lt_irrefl _)
  replace hzz := Lib.hid hzz
  replace Bx2 := Bx2.far hbx
  replace Bx4 := Bx4.far hbx
  replace Dd := Dd.on hbx
  replace HB := HB.trans (hbx.mono HB.size)
  replace B3 := B3.far hbx
  clear hbx hzz
  obtain ⟨_, y0, y1, y2, y3, y4⟩ := id B3
  go_enter Try.func29, Try.ntmps29
  have nn := hP w4.heap.size _ d xs xn xb w4 Dd (Nat.le_refl _) SD.out i1 i2 hb
  rw [EE.out] at nn
  have hszc := HB.size
  obtain ⟨_, x2_0, x2_1, x2_2, x2_3⟩ := id Bx2
  obtain ⟨_, x4_0, x4_1, x4_2, x4_3⟩ := id Bx4
  obtain ⟨_, x5_0, x5_1, x5_2, x5_3⟩ := id Bx5
  go_wp2_with fail
  refine nn.mono ?_
  rintro e w5 ⟨_, rfl, Du, hbx, av⟩
  clear x2_0 x2_1 x2_2 x2_3 x4_0 x4_1 x4_2 x4_3 x5_0 x5_1 x5_2 x5_3
  clear nn
  obtain ⟨ua, ul, uc, ua', ul', uc', rfl, _⟩ := id Du
  simp only at Du
  replace Bx2 := Bx2.far hbx
  replace Bx4 := Bx4.far hbx
  replace Bx5 := Bx5.far hbx
  replace Dd := Dd.on hbx
  replace HB := HB.trans (hbx.mono HB.size)
  clear hbx y0 y1 y2 y3 y4 B3 r0 r1
  obtain ⟨_, m5_0, m5_1, m5_2, m5_3⟩ := id Bx5
  obtain ⟨_, m2_0, m2_1, m2_2, m2_3⟩ := id Bx2
  obtain ⟨_, m4_0, m4_1, m4_2, m4_3⟩ := id Bx4
  obtain ⟨_, old_0, old_1, old_2, old_3⟩ := id Bx5
  obtain ⟨w6, ee, Bq, hzz, ko, kd, kb⟩ := Bx5.put (isSl _ _ _) (isSl _ _ _) (.slice ua ul uc) (.slice ua' ul' uc')
  replace Bx2 := ko _ _ _ (Ne.symm ne_x2_x5) Bx2
  replace Bx4 := ko _ _ _ (Ne.symm ne_x4_x5) Bx4
  replace Bx5 := Bq
  replace Dd := (kd _ _ _ _ Dd).wide (Nat.le_refl _) (Nat.le_of_eq hzz.symm)
  replace Du := (kd _ _ _ _ Du).wide (Nat.le_refl _) (Nat.le_of_eq hzz.symm)
  replace HB := kb w l_x5 HB
  clear Bq ko kd kb hzz
  clear old_0 old_1 old_2 old_3
  obtain ⟨_, x2_0, x2_1, x2_2, x2_3⟩ := id Bx2
  obtain ⟨_, x4_0, x4_1, x4_2, x4_3⟩ := id Bx4
  obtain ⟨_, x5_0, x5_1, x5_2, x5_3⟩ := id Bx5
  obtain ⟨wf, ef, Bf, hzf, _, kd, kb⟩ := Bx4.put (isSl _ _ _) (isSl _ _ _) (.slice ua ul uc) (.slice ua' ul' uc')
  obtain ⟨_, f0, f1, f2, f3⟩ := id Bf
  have hend := kb w l_x4 HB
  have hdk := (kd _ _ _ _ Du).wide (Nat.le_refl _) (Nat.le_of_eq hzf.symm)
  clear hzf kd kb
  go_wp2
  exact bodyPost_ret (v := .agg #[.slice ua ul uc, .slice ua' ul' uc']) (by simp [results, Try.results29, go_sem, f0, f1]) rfl ⟨_, rfl, hdk, hend, .inr (fun Q hQ => av Q (Nat.lt_of_lt_of_le hQ hszc))⟩
set_option maxHeartbeats 3200000 in
theorem fo_put_no (hP : PutFr 12) (hS : SyncFr 15) (hC : CrashFr 17) (a : Option Addr) (l c : Nat) (a' : Option Addr) (l' c' : Nat) (d : Dsk) (xs xn : Int) (xb : ByteArray) (xl : Int) (w : World) (Dd : Dk w 0 w.heap.size (.agg #[.slice a l c, .slice a' l' c']) d) (sd : smallD d = true)
    (i1 : I64 xs) (i2 : I64 xn) (i3 : 0 ≤ xl) (i4 : xl < 18446744073709551616) (hb : xb.size ≤ 3000) (hp : putOk d xs xn xb = false) :
    Calls Try.prog 29 #[.agg #[.slice a l c, .slice a' l' c'], .agg #[.int .i64 0, .int .i64 xs, .int .i64 xn, .string xb, .int .u64 xl]] w (DoFr w (.agg #[.slice a l c, .slice a' l' c']) d) := by
  have _uses := And.intro hP (And.intro hS (And.intro hC (And.intro i1 (And.intro i2 (And.intro i3 (And.intro i4 hb))))))
  clear _uses
  have HB := Below.refl w.heap.size w
  have SD := Lib.hid sd
  clear sd
  have EE := Lib.hid (show putF d xs xn xb = (none_, 2) by unfold putF; rw [hp]; rfl)
  clear hp
  obtain ⟨w1, ee, hbx, Bx2, hzz⟩ := box_new w 24 (.slice a l c) (.slice a' l' c')
  have l_x2 := HB.size
  replace hzz := Lib.hid hzz
  replace Dd := Dd.on hbx
  replace HB := HB.trans (hbx.mono HB.size)
  clear hbx hzz
  obtain ⟨w2, ee, hbx, B3⟩ := box5_new w1 47 (.int .i64 0) (.int .i64 xs) (.int .i64 xn) (.string xb) (.int .u64 xl)
  replace Bx2 := Bx2.far hbx
  replace Dd := Dd.on hbx
  replace HB := HB.trans (hbx.mono HB.size)
  clear hbx
  obtain ⟨w3, ee, hbx, Bx4, hzz⟩ := box_new w2 24 (.slice none 0 0) (.slice none 0 0)
  have l_x4 := HB.size
  have ne_x2_x4 : w.heap.size ≠ w2.heap.size := fun h => absurd (h ▸ Bx2.1) (Nat.lt_irrefl _)
  replace hzz := Lib.hid hzz
  replace Bx2 := Bx2.far hbx
  replace Dd := Dd.on hbx
  replace HB := HB.trans (hbx.mono HB.size)
  replace B3 := B3.far hbx
  clear hbx hzz
  obtain ⟨_, r0, r1, _, _⟩ := id Bx2
  obtain ⟨w4, ee, hbx, Bx5, hzz⟩ := box_new w3 24 (.slice a l c) (.slice a' l' c')
  have l_x5 := HB.size
  have ne_x2_x5 : w.heap.size ≠ w3.heap.size := fun h => absurd (h ▸ Bx2.1) (Nat.lt_irrefl _)
  have ne_x4_x5 : w2.heap.size ≠ w3.heap.size := fun h => absurd (h ▸ Bx4.1) (Nat.lt_irrefl _)
  replace hzz := Lib.hid hzz
  replace Bx2 := Bx2.far hbx
  replace Bx4 := Bx4.far hbx
  replace Dd := Dd.on hbx
  replace HB := HB.trans (hbx.mono HB.size)
  replace B3 := B3.far hbx
  clear hbx hzz
  obtain ⟨_, y0, y1, y2, y3, y4⟩ := id B3
  go_enter Try.func29, Try.ntmps29
  have nn := hP w4.heap.size _ d xs xn xb w4 Dd (Nat.le_refl _) SD.out i1 i2 hb
  rw [EE.out] at nn
  have hszc := HB.size
  obtain ⟨_, x2_0, x2_1, x2_2, x2_3⟩ := id Bx2
  obtain ⟨_, x4_0, x4_1, x4_2, x4_3⟩ := id Bx4
  obtain ⟨_, x5_0, x5_1, x5_2, x5_3⟩ := id Bx5
  go_wp2_with fail
  refine nn.mono ?_
  rintro e w5 ⟨_, rfl, Du, hbx, av⟩
  clear x2_0 x2_1 x2_2 x2_3 x4_0 x4_1 x4_2 x4_3 x5_0 x5_1 x5_2 x5_3
  clear nn
  obtain ⟨ua, ul, uc, ua', ul', uc', rfl, _⟩ := id Du
  simp only at Du
  replace Bx2 := Bx2.far hbx
  replace Bx4 := Bx4.far hbx
  replace Bx5 := Bx5.far hbx
  replace Dd := Dd.on hbx
  replace HB := HB.trans (hbx.mono HB.size)
  clear hbx y0 y1 y2 y3 y4 B3 r0 r1
  obtain ⟨_, m5_0, m5_1, m5_2, m5_3⟩ := id Bx5
  obtain ⟨_, m2_0, m2_1, m2_2, m2_3⟩ := id Bx2
  obtain ⟨_, m4_0, m4_1, m4_2, m4_3⟩ := id Bx4
  obtain ⟨_, old_0, old_1, old_2, old_3⟩ := id Bx5
  obtain ⟨w6, ee, Bq, hzz, ko, kd, kb⟩ := Bx5.put (isSl _ _ _) (isSl _ _ _) (.slice ua ul uc) (.slice ua' ul' uc')
  replace Bx2 := ko _ _ _ (Ne.symm ne_x2_x5) Bx2
  replace Bx4 := ko _ _ _ (Ne.symm ne_x4_x5) Bx4
  replace Bx5 := Bq
  replace Dd := (kd _ _ _ _ Dd).wide (Nat.le_refl _) (Nat.le_of_eq hzz.symm)
  replace Du := (kd _ _ _ _ Du).wide (Nat.le_refl _) (Nat.le_of_eq hzz.symm)
  replace HB := kb w l_x5 HB
  clear Bq ko kd kb hzz
  clear old_0 old_1 old_2 old_3
  obtain ⟨_, x2_0, x2_1, x2_2, x2_3⟩ := id Bx2
  obtain ⟨_, x4_0, x4_1, x4_2, x4_3⟩ := id Bx4
  obtain ⟨_, x5_0, x5_1, x5_2, x5_3⟩ := id Bx5
  obtain ⟨wf, ef, Bf, hzf, _, kd, kb⟩ := Bx4.put (isSl _ _ _) (isSl _ _ _) (.slice a l c) (.slice a' l' c')
  obtain ⟨_, f0, f1, f2, f3⟩ := id Bf
  have hend := kb w l_x4 HB
  have hdk := (kd _ _ _ _ Dd).wide (Nat.le_refl _) (Nat.le_of_eq hzf.symm)
  clear hzf kd kb
  go_wp2
  exact bodyPost_ret (v := .agg #[.slice a l c, .slice a' l' c']) (by simp [results, Try.results29, go_sem, f0, f1]) rfl ⟨_, rfl, hdk, hend, .inl rfl⟩
set_option maxHeartbeats 3200000 in
theorem fo_sync (hP : PutFr 12) (hS : SyncFr 15) (hC : CrashFr 17) (a : Option Addr) (l c : Nat) (a' : Option Addr) (l' c' : Nat) (d : Dsk) (xs xn : Int) (xb : ByteArray) (xl : Int) (w : World) (Dd : Dk w 0 w.heap.size (.agg #[.slice a l c, .slice a' l' c']) d) (sd : smallD d = true)
    (i1 : I64 xs) (i2 : I64 xn) (i3 : 0 ≤ xl) (i4 : xl < 18446744073709551616) (hb : xb.size ≤ 3000) (hp : chkB d = true) :
    Calls Try.prog 29 #[.agg #[.slice a l c, .slice a' l' c'], .agg #[.int .i64 1, .int .i64 xs, .int .i64 xn, .string xb, .int .u64 xl]] w (DoFr w (.agg #[.slice a l c, .slice a' l' c']) ⟨d.now, d.now⟩) := by
  have _uses := And.intro hP (And.intro hS (And.intro hC (And.intro i1 (And.intro i2 (And.intro i3 (And.intro i4 hb))))))
  clear _uses
  have HB := Below.refl w.heap.size w
  have SD := Lib.hid sd
  clear sd
  have EE := Lib.hid (show syncF d = (⟨d.now, d.now⟩, 0) by unfold syncF; rw [hp]; rfl)
  clear hp
  obtain ⟨w1, ee, hbx, Bx2, hzz⟩ := box_new w 24 (.slice a l c) (.slice a' l' c')
  have l_x2 := HB.size
  replace hzz := Lib.hid hzz
  replace Dd := Dd.on hbx
  replace HB := HB.trans (hbx.mono HB.size)
  clear hbx hzz
  obtain ⟨w2, ee, hbx, B3⟩ := box5_new w1 47 (.int .i64 1) (.int .i64 xs) (.int .i64 xn) (.string xb) (.int .u64 xl)
  replace Bx2 := Bx2.far hbx
  replace Dd := Dd.on hbx
  replace HB := HB.trans (hbx.mono HB.size)
  clear hbx
  obtain ⟨w3, ee, hbx, Bx4, hzz⟩ := box_new w2 24 (.slice none 0 0) (.slice none 0 0)
  have l_x4 := HB.size
  have ne_x2_x4 : w.heap.size ≠ w2.heap.size := fun h => absurd (h ▸ Bx2.1) (Nat.lt_irrefl _)
  replace hzz := Lib.hid hzz
  replace Bx2 := Bx2.far hbx
  replace Dd := Dd.on hbx
  replace HB := HB.trans (hbx.mono HB.size)
  replace B3 := B3.far hbx
  clear hbx hzz
  obtain ⟨_, r0, r1, _, _⟩ := id Bx2
  obtain ⟨w4, ee, hbx, Bx5, hzz⟩ := box_new w3 24 (.slice a l c) (.slice a' l' c')
  have l_x5 := HB.size
  have ne_x2_x5 : w.heap.size ≠ w3.heap.size := fun h => absurd (h ▸ Bx2.1) (Nat.lt_irrefl _)
  have ne_x4_x5 : w2.heap.size ≠ w3.heap.size := fun h => absurd (h ▸ Bx4.1) (Nat.lt_irrefl _)
  replace hzz := Lib.hid hzz
  replace Bx2 := Bx2.far hbx
  replace Bx4 := Bx4.far hbx
  replace Dd := Dd.on hbx
  replace HB := HB.trans (hbx.mono HB.size)
  replace B3 := B3.far hbx
  clear hbx hzz
  obtain ⟨_, y0, y1, y2, y3, y4⟩ := id B3
  go_enter Try.func29, Try.ntmps29
  have nn := hS w4.heap.size _ d w4 Dd (Nat.le_refl _) SD.out
  rw [EE.out] at nn
  have hszc := HB.size
  obtain ⟨_, x2_0, x2_1, x2_2, x2_3⟩ := id Bx2
  obtain ⟨_, x4_0, x4_1, x4_2, x4_3⟩ := id Bx4
  obtain ⟨_, x5_0, x5_1, x5_2, x5_3⟩ := id Bx5
  go_wp2_with fail
  refine nn.mono ?_
  rintro e w5 ⟨_, rfl, Du, hbx, av⟩
  clear x2_0 x2_1 x2_2 x2_3 x4_0 x4_1 x4_2 x4_3 x5_0 x5_1 x5_2 x5_3
  clear nn
  obtain ⟨ua, ul, uc, ua', ul', uc', rfl, _⟩ := id Du
  simp only at Du
  replace Bx2 := Bx2.far hbx
  replace Bx4 := Bx4.far hbx
  replace Bx5 := Bx5.far hbx
  replace Dd := Dd.on hbx
  replace HB := HB.trans (hbx.mono HB.size)
  clear hbx y0 y1 y2 y3 y4 B3 r0 r1
  obtain ⟨_, m5_0, m5_1, m5_2, m5_3⟩ := id Bx5
  obtain ⟨_, m2_0, m2_1, m2_2, m2_3⟩ := id Bx2
  obtain ⟨_, m4_0, m4_1, m4_2, m4_3⟩ := id Bx4
  obtain ⟨_, old_0, old_1, old_2, old_3⟩ := id Bx5
  obtain ⟨w6, ee, Bq, hzz, ko, kd, kb⟩ := Bx5.put (isSl _ _ _) (isSl _ _ _) (.slice ua ul uc) (.slice ua' ul' uc')
  replace Bx2 := ko _ _ _ (Ne.symm ne_x2_x5) Bx2
  replace Bx4 := ko _ _ _ (Ne.symm ne_x4_x5) Bx4
  replace Bx5 := Bq
  replace Dd := (kd _ _ _ _ Dd).wide (Nat.le_refl _) (Nat.le_of_eq hzz.symm)
  replace Du := (kd _ _ _ _ Du).wide (Nat.le_refl _) (Nat.le_of_eq hzz.symm)
  replace HB := kb w l_x5 HB
  clear Bq ko kd kb hzz
  clear old_0 old_1 old_2 old_3
  obtain ⟨_, x2_0, x2_1, x2_2, x2_3⟩ := id Bx2
  obtain ⟨_, x4_0, x4_1, x4_2, x4_3⟩ := id Bx4
  obtain ⟨_, x5_0, x5_1, x5_2, x5_3⟩ := id Bx5
  obtain ⟨wf, ef, Bf, hzf, _, kd, kb⟩ := Bx4.put (isSl _ _ _) (isSl _ _ _) (.slice ua ul uc) (.slice ua' ul' uc')
  obtain ⟨_, f0, f1, f2, f3⟩ := id Bf
  have hend := kb w l_x4 HB
  have hdk := (kd _ _ _ _ Du).wide (Nat.le_refl _) (Nat.le_of_eq hzf.symm)
  clear hzf kd kb
  go_wp2
  exact bodyPost_ret (v := .agg #[.slice ua ul uc, .slice ua' ul' uc']) (by simp [results, Try.results29, go_sem, f0, f1]) rfl ⟨_, rfl, hdk, hend, .inr (fun Q hQ => av Q (Nat.lt_of_lt_of_le hQ hszc))⟩
set_option maxHeartbeats 3200000 in
theorem fo_sync_no (hP : PutFr 12) (hS : SyncFr 15) (hC : CrashFr 17) (a : Option Addr) (l c : Nat) (a' : Option Addr) (l' c' : Nat) (d : Dsk) (xs xn : Int) (xb : ByteArray) (xl : Int) (w : World) (Dd : Dk w 0 w.heap.size (.agg #[.slice a l c, .slice a' l' c']) d) (sd : smallD d = true)
    (i1 : I64 xs) (i2 : I64 xn) (i3 : 0 ≤ xl) (i4 : xl < 18446744073709551616) (hb : xb.size ≤ 3000) (hp : chkB d = false) :
    Calls Try.prog 29 #[.agg #[.slice a l c, .slice a' l' c'], .agg #[.int .i64 1, .int .i64 xs, .int .i64 xn, .string xb, .int .u64 xl]] w (DoFr w (.agg #[.slice a l c, .slice a' l' c']) d) := by
  have _uses := And.intro hP (And.intro hS (And.intro hC (And.intro i1 (And.intro i2 (And.intro i3 (And.intro i4 hb))))))
  clear _uses
  have HB := Below.refl w.heap.size w
  have SD := Lib.hid sd
  clear sd
  have EE := Lib.hid (show syncF d = (none_, 2) by unfold syncF; rw [hp]; rfl)
  clear hp
  obtain ⟨w1, ee, hbx, Bx2, hzz⟩ := box_new w 24 (.slice a l c) (.slice a' l' c')
  have l_x2 := HB.size
  replace hzz := Lib.hid hzz
  replace Dd := Dd.on hbx
  replace HB := HB.trans (hbx.mono HB.size)
  clear hbx hzz
  obtain ⟨w2, ee, hbx, B3⟩ := box5_new w1 47 (.int .i64 1) (.int .i64 xs) (.int .i64 xn) (.string xb) (.int .u64 xl)
  replace Bx2 := Bx2.far hbx
  replace Dd := Dd.on hbx
  replace HB := HB.trans (hbx.mono HB.size)
  clear hbx
  obtain ⟨w3, ee, hbx, Bx4, hzz⟩ := box_new w2 24 (.slice none 0 0) (.slice none 0 0)
  have l_x4 := HB.size
  have ne_x2_x4 : w.heap.size ≠ w2.heap.size := fun h => absurd (h ▸ Bx2.1) (Nat.lt_irrefl _)
  replace hzz := Lib.hid hzz
  replace Bx2 := Bx2.far hbx
  replace Dd := Dd.on hbx
  replace HB := HB.trans (hbx.mono HB.size)
  replace B3 := B3.far hbx
  clear hbx hzz
  obtain ⟨_, r0, r1, _, _⟩ := id Bx2
  obtain ⟨w4, ee, hbx, Bx5, hzz⟩ := box_new w3 24 (.slice a l c) (.slice a' l' c')
  have l_x5 := HB.size
  have ne_x2_x5 : w.heap.size ≠ w3.heap.size := fun h => absurd (h ▸ Bx2.1) (Nat.lt_irrefl _)
  have ne_x4_x5 : w2.heap.size ≠ w3.heap.size := fun h => absurd (h ▸ Bx4.1) (Nat.lt_irrefl _)
  replace hzz := Lib.hid hzz
  replace Bx2 := Bx2.far hbx
  replace Bx4 := Bx4.far hbx
  replace Dd := Dd.on hbx
  replace HB := HB.trans (hbx.mono HB.size)
  replace B3 := B3.far hbx
  clear hbx hzz
  obtain ⟨_, y0, y1, y2, y3, y4⟩ := id B3
  go_enter Try.func29, Try.ntmps29
  have nn := hS w4.heap.size _ d w4 Dd (Nat.le_refl _) SD.out
  rw [EE.out] at nn
  have hszc := HB.size
  obtain ⟨_, x2_0, x2_1, x2_2, x2_3⟩ := id Bx2
  obtain ⟨_, x4_0, x4_1, x4_2, x4_3⟩ := id Bx4
  obtain ⟨_, x5_0, x5_1, x5_2, x5_3⟩ := id Bx5
  go_wp2_with fail
  refine nn.mono ?_
  rintro e w5 ⟨_, rfl, Du, hbx, av⟩
  clear x2_0 x2_1 x2_2 x2_3 x4_0 x4_1 x4_2 x4_3 x5_0 x5_1 x5_2 x5_3
  clear nn
  obtain ⟨ua, ul, uc, ua', ul', uc', rfl, _⟩ := id Du
  simp only at Du
  replace Bx2 := Bx2.far hbx
  replace Bx4 := Bx4.far hbx
  replace Bx5 := Bx5.far hbx
  replace Dd := Dd.on hbx
  replace HB := HB.trans (hbx.mono HB.size)
  clear hbx y0 y1 y2 y3 y4 B3 r0 r1
  obtain ⟨_, m5_0, m5_1, m5_2, m5_3⟩ := id Bx5
  obtain ⟨_, m2_0, m2_1, m2_2, m2_3⟩ := id Bx2
  obtain ⟨_, m4_0, m4_1, m4_2, m4_3⟩ := id Bx4
  obtain ⟨_, old_0, old_1, old_2, old_3⟩ := id Bx5
  obtain ⟨w6, ee, Bq, hzz, ko, kd, kb⟩ := Bx5.put (isSl _ _ _) (isSl _ _ _) (.slice ua ul uc) (.slice ua' ul' uc')
  replace Bx2 := ko _ _ _ (Ne.symm ne_x2_x5) Bx2
  replace Bx4 := ko _ _ _ (Ne.symm ne_x4_x5) Bx4
  replace Bx5 := Bq
  replace Dd := (kd _ _ _ _ Dd).wide (Nat.le_refl _) (Nat.le_of_eq hzz.symm)
  replace Du := (kd _ _ _ _ Du).wide (Nat.le_refl _) (Nat.le_of_eq hzz.symm)
  replace HB := kb w l_x5 HB
  clear Bq ko kd kb hzz
  clear old_0 old_1 old_2 old_3
  obtain ⟨_, x2_0, x2_1, x2_2, x2_3⟩ := id Bx2
  obtain ⟨_, x4_0, x4_1, x4_2, x4_3⟩ := id Bx4
  obtain ⟨_, x5_0, x5_1, x5_2, x5_3⟩ := id Bx5
  obtain ⟨wf, ef, Bf, hzf, _, kd, kb⟩ := Bx4.put (isSl _ _ _) (isSl _ _ _) (.slice a l c) (.slice a' l' c')
  obtain ⟨_, f0, f1, f2, f3⟩ := id Bf
  have hend := kb w l_x4 HB
  have hdk := (kd _ _ _ _ Dd).wide (Nat.le_refl _) (Nat.le_of_eq hzf.symm)
  clear hzf kd kb
  go_wp2
  exact bodyPost_ret (v := .agg #[.slice a l c, .slice a' l' c']) (by simp [results, Try.results29, go_sem, f0, f1]) rfl ⟨_, rfl, hdk, hend, .inl rfl⟩
set_option maxHeartbeats 3200000 in
theorem fo_crash (hP : PutFr 12) (hS : SyncFr 15) (hC : CrashFr 17) (a : Option Addr) (l c : Nat) (a' : Option Addr) (l' c' : Nat) (d : Dsk) (xs xn : Int) (xb : ByteArray) (xl : Int) (w : World) (Dd : Dk w 0 w.heap.size (.agg #[.slice a l c, .slice a' l' c']) d) (sd : smallD d = true)
    (i1 : I64 xs) (i2 : I64 xn) (i3 : 0 ≤ xl) (i4 : xl < 18446744073709551616) (hb : xb.size ≤ 3000) (hp : chkB d = true) :
    Calls Try.prog 29 #[.agg #[.slice a l c, .slice a' l' c'], .agg #[.int .i64 2, .int .i64 xs, .int .i64 xn, .string xb, .int .u64 xl]] w (DoFr w (.agg #[.slice a l c, .slice a' l' c']) (crashD d xl)) := by
  have _uses := And.intro hP (And.intro hS (And.intro hC (And.intro i1 (And.intro i2 (And.intro i3 (And.intro i4 hb))))))
  clear _uses
  have HB := Below.refl w.heap.size w
  have SD := Lib.hid sd
  clear sd
  have EE := Lib.hid (show crashF d xl = (crashD d xl, 0) by unfold crashF; rw [hp]; rfl)
  clear hp
  obtain ⟨w1, ee, hbx, Bx2, hzz⟩ := box_new w 24 (.slice a l c) (.slice a' l' c')
  have l_x2 := HB.size
  replace hzz := Lib.hid hzz
  replace Dd := Dd.on hbx
  replace HB := HB.trans (hbx.mono HB.size)
  clear hbx hzz
  obtain ⟨w2, ee, hbx, B3⟩ := box5_new w1 47 (.int .i64 2) (.int .i64 xs) (.int .i64 xn) (.string xb) (.int .u64 xl)
  replace Bx2 := Bx2.far hbx
  replace Dd := Dd.on hbx
  replace HB := HB.trans (hbx.mono HB.size)
  clear hbx
  obtain ⟨w3, ee, hbx, Bx4, hzz⟩ := box_new w2 24 (.slice none 0 0) (.slice none 0 0)
  have l_x4 := HB.size
  have ne_x2_x4 : w.heap.size ≠ w2.heap.size := fun h => absurd (h ▸ Bx2.1) (Nat.lt_irrefl _)
  replace hzz := Lib.hid hzz
  replace Bx2 := Bx2.far hbx
  replace Dd := Dd.on hbx
  replace HB := HB.trans (hbx.mono HB.size)
  replace B3 := B3.far hbx
  clear hbx hzz
  obtain ⟨_, r0, r1, _, _⟩ := id Bx2
  obtain ⟨w4, ee, hbx, Bx5, hzz⟩ := box_new w3 24 (.slice a l c) (.slice a' l' c')
  have l_x5 := HB.size
  have ne_x2_x5 : w.heap.size ≠ w3.heap.size := fun h => absurd (h ▸ Bx2.1) (Nat.lt_irrefl _)
  have ne_x4_x5 : w2.heap.size ≠ w3.heap.size := fun h => absurd (h ▸ Bx4.1) (Nat.lt_irrefl _)
  replace hzz := Lib.hid hzz
  replace Bx2 := Bx2.far hbx
  replace Bx4 := Bx4.far hbx
  replace Dd := Dd.on hbx
  replace HB := HB.trans (hbx.mono HB.size)
  replace B3 := B3.far hbx
  clear hbx hzz
  obtain ⟨_, y0, y1, y2, y3, y4⟩ := id B3
  go_enter Try.func29, Try.ntmps29
  have nn := hC w4.heap.size _ d xl w4 Dd (Nat.le_refl _) SD.out i3 i4
  rw [EE.out] at nn
  have hszc := HB.size
  obtain ⟨_, x2_0, x2_1, x2_2, x2_3⟩ := id Bx2
  obtain ⟨_, x4_0, x4_1, x4_2, x4_3⟩ := id Bx4
  obtain ⟨_, x5_0, x5_1, x5_2, x5_3⟩ := id Bx5
  go_wp2_with fail
  refine nn.mono ?_
  rintro e w5 ⟨_, rfl, Du, hbx, av⟩
  clear x2_0 x2_1 x2_2 x2_3 x4_0 x4_1 x4_2 x4_3 x5_0 x5_1 x5_2 x5_3
  clear nn
  obtain ⟨ua, ul, uc, ua', ul', uc', rfl, _⟩ := id Du
  simp only at Du
  replace Bx2 := Bx2.far hbx
  replace Bx4 := Bx4.far hbx
  replace Bx5 := Bx5.far hbx
  replace Dd := Dd.on hbx
  replace HB := HB.trans (hbx.mono HB.size)
  clear hbx y0 y1 y2 y3 y4 B3 r0 r1
  obtain ⟨_, m5_0, m5_1, m5_2, m5_3⟩ := id Bx5
  obtain ⟨_, m2_0, m2_1, m2_2, m2_3⟩ := id Bx2
  obtain ⟨_, m4_0, m4_1, m4_2, m4_3⟩ := id Bx4
  obtain ⟨_, old_0, old_1, old_2, old_3⟩ := id Bx5
  obtain ⟨w6, ee, Bq, hzz, ko, kd, kb⟩ := Bx5.put (isSl _ _ _) (isSl _ _ _) (.slice ua ul uc) (.slice ua' ul' uc')
  replace Bx2 := ko _ _ _ (Ne.symm ne_x2_x5) Bx2
  replace Bx4 := ko _ _ _ (Ne.symm ne_x4_x5) Bx4
  replace Bx5 := Bq
  replace Dd := (kd _ _ _ _ Dd).wide (Nat.le_refl _) (Nat.le_of_eq hzz.symm)
  replace Du := (kd _ _ _ _ Du).wide (Nat.le_refl _) (Nat.le_of_eq hzz.symm)
  replace HB := kb w l_x5 HB
  clear Bq ko kd kb hzz
  clear old_0 old_1 old_2 old_3
  obtain ⟨_, x2_0, x2_1, x2_2, x2_3⟩ := id Bx2
  obtain ⟨_, x4_0, x4_1, x4_2, x4_3⟩ := id Bx4
  obtain ⟨_, x5_0, x5_1, x5_2, x5_3⟩ := id Bx5
  obtain ⟨wf, ef, Bf, hzf, _, kd, kb⟩ := Bx4.put (isSl _ _ _) (isSl _ _ _) (.slice ua ul uc) (.slice ua' ul' uc')
  obtain ⟨_, f0, f1, f2, f3⟩ := id Bf
  have hend := kb w l_x4 HB
  have hdk := (kd _ _ _ _ Du).wide (Nat.le_refl _) (Nat.le_of_eq hzf.symm)
  clear hzf kd kb
  go_wp2
  exact bodyPost_ret (v := .agg #[.slice ua ul uc, .slice ua' ul' uc']) (by simp [results, Try.results29, go_sem, f0, f1]) rfl ⟨_, rfl, hdk, hend, .inr (fun Q hQ => av Q (Nat.lt_of_lt_of_le hQ hszc))⟩
set_option maxHeartbeats 3200000 in
theorem fo_crash_no (hP : PutFr 12) (hS : SyncFr 15) (hC : CrashFr 17) (a : Option Addr) (l c : Nat) (a' : Option Addr) (l' c' : Nat) (d : Dsk) (xs xn : Int) (xb : ByteArray) (xl : Int) (w : World) (Dd : Dk w 0 w.heap.size (.agg #[.slice a l c, .slice a' l' c']) d) (sd : smallD d = true)
    (i1 : I64 xs) (i2 : I64 xn) (i3 : 0 ≤ xl) (i4 : xl < 18446744073709551616) (hb : xb.size ≤ 3000) (hp : chkB d = false) :
    Calls Try.prog 29 #[.agg #[.slice a l c, .slice a' l' c'], .agg #[.int .i64 2, .int .i64 xs, .int .i64 xn, .string xb, .int .u64 xl]] w (DoFr w (.agg #[.slice a l c, .slice a' l' c']) d) := by
  have _uses := And.intro hP (And.intro hS (And.intro hC (And.intro i1 (And.intro i2 (And.intro i3 (And.intro i4 hb))))))
  clear _uses
  have HB := Below.refl w.heap.size w
  have SD := Lib.hid sd
  clear sd
  have EE := Lib.hid (show crashF d xl = (none_, 2) by unfold crashF; rw [hp]; rfl)
  clear hp
  obtain ⟨w1, ee, hbx, Bx2, hzz⟩ := box_new w 24 (.slice a l c) (.slice a' l' c')
  have l_x2 := HB.size
  replace hzz := Lib.hid hzz
  replace Dd := Dd.on hbx
  replace HB := HB.trans (hbx.mono HB.size)
  clear hbx hzz
  obtain ⟨w2, ee, hbx, B3⟩ := box5_new w1 47 (.int .i64 2) (.int .i64 xs) (.int .i64 xn) (.string xb) (.int .u64 xl)
  replace Bx2 := Bx2.far hbx
  replace Dd := Dd.on hbx
  replace HB := HB.trans (hbx.mono HB.size)
  clear hbx
  obtain ⟨w3, ee, hbx, Bx4, hzz⟩ := box_new w2 24 (.slice none 0 0) (.slice none 0 0)
  have l_x4 := HB.size
  have ne_x2_x4 : w.heap.size ≠ w2.heap.size := fun h => absurd (h ▸ Bx2.1) (Nat.lt_irrefl _)
  replace hzz := Lib.hid hzz
  replace Bx2 := Bx2.far hbx
  replace Dd := Dd.on hbx
  replace HB := HB.trans (hbx.mono HB.size)
  replace B3 := B3.far hbx
  clear hbx hzz
  obtain ⟨_, r0, r1, _, _⟩ := id Bx2
  obtain ⟨w4, ee, hbx, Bx5, hzz⟩ := box_new w3 24 (.slice a l c) (.slice a' l' c')
  have l_x5 := HB.size
  have ne_x2_x5 : w.heap.size ≠ w3.heap.size := fun h => absurd (h ▸ Bx2.1) (Nat.lt_irrefl _)
  have ne_x4_x5 : w2.heap.size ≠ w3.heap.size := fun h => absurd (h ▸ Bx4.1) (Nat.lt_irrefl _)
  replace hzz := Lib.hid hzz
  replace Bx2 := Bx2.far hbx
  replace Bx4 := Bx4.far hbx
  replace Dd := Dd.on hbx
  replace HB := HB.trans (hbx.mono HB.size)
  replace B3 := B3.far hbx
  clear hbx hzz
  obtain ⟨_, y0, y1, y2, y3, y4⟩ := id B3
  go_enter Try.func29, Try.ntmps29
  have nn := hC w4.heap.size _ d xl w4 Dd (Nat.le_refl _) SD.out i3 i4
  rw [EE.out] at nn
  have hszc := HB.size
  obtain ⟨_, x2_0, x2_1, x2_2, x2_3⟩ := id Bx2
  obtain ⟨_, x4_0, x4_1, x4_2, x4_3⟩ := id Bx4
  obtain ⟨_, x5_0, x5_1, x5_2, x5_3⟩ := id Bx5
  go_wp2_with fail
  refine nn.mono ?_
  rintro e w5 ⟨_, rfl, Du, hbx, av⟩
  clear x2_0 x2_1 x2_2 x2_3 x4_0 x4_1 x4_2 x4_3 x5_0 x5_1 x5_2 x5_3
  clear nn
  obtain ⟨ua, ul, uc, ua', ul', uc', rfl, _⟩ := id Du
  simp only at Du
  replace Bx2 := Bx2.far hbx
  replace Bx4 := Bx4.far hbx
  replace Bx5 := Bx5.far hbx
  replace Dd := Dd.on hbx
  replace HB := HB.trans (hbx.mono HB.size)
  clear hbx y0 y1 y2 y3 y4 B3 r0 r1
  obtain ⟨_, m5_0, m5_1, m5_2, m5_3⟩ := id Bx5
  obtain ⟨_, m2_0, m2_1, m2_2, m2_3⟩ := id Bx2
  obtain ⟨_, m4_0, m4_1, m4_2, m4_3⟩ := id Bx4
  obtain ⟨_, old_0, old_1, old_2, old_3⟩ := id Bx5
  obtain ⟨w6, ee, Bq, hzz, ko, kd, kb⟩ := Bx5.put (isSl _ _ _) (isSl _ _ _) (.slice ua ul uc) (.slice ua' ul' uc')
  replace Bx2 := ko _ _ _ (Ne.symm ne_x2_x5) Bx2
  replace Bx4 := ko _ _ _ (Ne.symm ne_x4_x5) Bx4
  replace Bx5 := Bq
  replace Dd := (kd _ _ _ _ Dd).wide (Nat.le_refl _) (Nat.le_of_eq hzz.symm)
  replace Du := (kd _ _ _ _ Du).wide (Nat.le_refl _) (Nat.le_of_eq hzz.symm)
  replace HB := kb w l_x5 HB
  clear Bq ko kd kb hzz
  clear old_0 old_1 old_2 old_3
  obtain ⟨_, x2_0, x2_1, x2_2, x2_3⟩ := id Bx2
  obtain ⟨_, x4_0, x4_1, x4_2, x4_3⟩ := id Bx4
  obtain ⟨_, x5_0, x5_1, x5_2, x5_3⟩ := id Bx5
  obtain ⟨wf, ef, Bf, hzf, _, kd, kb⟩ := Bx4.put (isSl _ _ _) (isSl _ _ _) (.slice a l c) (.slice a' l' c')
  obtain ⟨_, f0, f1, f2, f3⟩ := id Bf
  have hend := kb w l_x4 HB
  have hdk := (kd _ _ _ _ Dd).wide (Nat.le_refl _) (Nat.le_of_eq hzf.symm)
  clear hzf kd kb
  go_wp2
  exact bodyPost_ret (v := .agg #[.slice a l c, .slice a' l' c']) (by simp [results, Try.results29, go_sem, f0, f1]) rfl ⟨_, rfl, hdk, hend, .inl rfl⟩
set_option maxHeartbeats 3200000 in
theorem fo_else (hP : PutFr 12) (hS : SyncFr 15) (hC : CrashFr 17) (a : Option Addr) (l c : Nat) (a' : Option Addr) (l' c' : Nat) (d : Dsk) (xk xs xn : Int) (xb : ByteArray) (xl : Int) (w : World) (Dd : Dk w 0 w.heap.size (.agg #[.slice a l c, .slice a' l' c']) d) (sd : smallD d = true)
    (i1 : I64 xs) (i2 : I64 xn) (i3 : 0 ≤ xl) (i4 : xl < 18446744073709551616) (hb : xb.size ≤ 3000) (hk0 : (xk == 0) = false) (hk1 : (xk == 1) = false) (hk2 : (xk == 2) = false) :
    Calls Try.prog 29 #[.agg #[.slice a l c, .slice a' l' c'], .agg #[.int .i64 xk, .int .i64 xs, .int .i64 xn, .string xb, .int .u64 xl]] w (DoFr w (.agg #[.slice a l c, .slice a' l' c']) d) := by
  have _uses := And.intro hP (And.intro hS (And.intro hC (And.intro i1 (And.intro i2 (And.intro i3 (And.intro i4 hb))))))
  clear _uses
  have HB := Below.refl w.heap.size w
  have SD := Lib.hid sd
  clear sd
  obtain ⟨w1, ee, hbx, Bx2, hzz⟩ := box_new w 24 (.slice a l c) (.slice a' l' c')
  have l_x2 := HB.size
  replace hzz := Lib.hid hzz
  replace Dd := Dd.on hbx
  replace HB := HB.trans (hbx.mono HB.size)
  clear hbx hzz
  obtain ⟨w2, ee, hbx, B3⟩ := box5_new w1 47 (.int .i64 xk) (.int .i64 xs) (.int .i64 xn) (.string xb) (.int .u64 xl)
  replace Bx2 := Bx2.far hbx
  replace Dd := Dd.on hbx
  replace HB := HB.trans (hbx.mono HB.size)
  clear hbx
  obtain ⟨w3, ee, hbx, Bx4, hzz⟩ := box_new w2 24 (.slice none 0 0) (.slice none 0 0)
  have l_x4 := HB.size
  have ne_x2_x4 : w.heap.size ≠ w2.heap.size := fun h => absurd (h ▸ Bx2.1) (Nat.lt_irrefl _)
  replace hzz := Lib.hid hzz
  replace Bx2 := Bx2.far hbx
  replace Dd := Dd.on hbx
  replace HB := HB.trans (hbx.mono HB.size)
  replace B3 := B3.far hbx
  clear hbx hzz
  obtain ⟨_, r0, r1, _, _⟩ := id Bx2
  obtain ⟨w4, ee, hbx, Bx5, hzz⟩ := box_new w3 24 (.slice a l c) (.slice a' l' c')
  have l_x5 := HB.size
  have ne_x2_x5 : w.heap.size ≠ w3.heap.size := fun h => absurd (h ▸ Bx2.1) (Nat.lt_irrefl _)
  have ne_x4_x5 : w2.heap.size ≠ w3.heap.size := fun h => absurd (h ▸ Bx4.1) (Nat.lt_irrefl _)
  replace hzz := Lib.hid hzz
  replace Bx2 := Bx2.far hbx
  replace Bx4 := Bx4.far hbx
  replace Dd := Dd.on hbx
  replace HB := HB.trans (hbx.mono HB.size)
  replace B3 := B3.far hbx
  clear hbx hzz
  obtain ⟨_, y0, y1, y2, y3, y4⟩ := id B3
  go_enter Try.func29, Try.ntmps29
  obtain ⟨_, x2_0, x2_1, x2_2, x2_3⟩ := id Bx2
  obtain ⟨_, x4_0, x4_1, x4_2, x4_3⟩ := id Bx4
  obtain ⟨_, x5_0, x5_1, x5_2, x5_3⟩ := id Bx5
  obtain ⟨wf, ef, Bf, hzf, _, kd, kb⟩ := Bx4.put (isSl _ _ _) (isSl _ _ _) (.slice a l c) (.slice a' l' c')
  obtain ⟨_, f0, f1, f2, f3⟩ := id Bf
  have hend := kb w l_x4 HB
  have hdk := (kd _ _ _ _ Dd).wide (Nat.le_refl _) (Nat.le_of_eq hzf.symm)
  clear hzf kd kb
  go_wp2
  exact bodyPost_ret (v := .agg #[.slice a l c, .slice a' l' c']) (by simp [results, Try.results29, go_sem, f0, f1]) rfl ⟨_, rfl, hdk, hend, .inl rfl⟩
theorem fo_walk (hP : PutFr 12) (hS : SyncFr 15) (hC : CrashFr 17) (v : Value) (d : Dsk) (x : DAct) (w : World) (Dd : Dk w 0 w.heap.size v d) (sd : smallD d = true) (hi : x.In) (hb : x.b.size ≤ 3000) :
    Calls Try.prog 29 #[v, x.val] w (DoFr w v (doD d x)) := by
  obtain ⟨a, l, c, a', l', c', rfl, _⟩ := id Dd
  obtain ⟨k, s, n, b, lost⟩ := x
  obtain ⟨_, i1, i2, i3, i4⟩ := hi
  unfold doD
  simp only [DAct.val] at *
  by_cases h0 : k = 0
  · subst h0
    rw [if_pos rfl]
    rcases hp : putOk d s n b with _ | _
    · exact fo_put_no hP hS hC a l c a' l' c' d s n b lost w Dd sd i1 i2 i3 i4 hb hp
    · exact fo_put hP hS hC a l c a' l' c' d s n b lost w Dd sd i1 i2 i3 i4 hb hp
  · rw [if_neg h0]
    by_cases h1 : k = 1
    · subst h1
      rw [if_pos rfl]
      rcases hp : chkB d with _ | _
      · exact fo_sync_no hP hS hC a l c a' l' c' d s n b lost w Dd sd i1 i2 i3 i4 hb hp
      · exact fo_sync hP hS hC a l c a' l' c' d s n b lost w Dd sd i1 i2 i3 i4 hb hp
    · rw [if_neg h1]
      by_cases h2 : k = 2
      · subst h2
        rw [if_pos rfl]
        rcases hp : chkB d with _ | _
        · exact fo_crash_no hP hS hC a l c a' l' c' d s n b lost w Dd sd i1 i2 i3 i4 hb hp
        · exact fo_crash hP hS hC a l c a' l' c' d s n b lost w Dd sd i1 i2 i3 i4 hb hp
      · rw [if_neg h2]
        exact fo_else hP hS hC a l c a' l' c' d k s n b lost w Dd sd i1 i2 i3 i4 hb (by simpa using h0) (by simpa using h1) (by simpa using h2)
end Go.Proofs.Ytjahhheipeggeaa
