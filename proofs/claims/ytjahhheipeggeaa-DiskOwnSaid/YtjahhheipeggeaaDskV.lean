/- What is proved: the walk of DiskSure: it returns true at every input, whenever the package disk's functions answer as the document says. -/
import Derived.Test.YtjahhheipeggeaaDskU
namespace Go.Proofs.Ytjahhheipeggeaa
open Go.RowKit

/-- A sector that is as it was, or has a greater number. -/
def Stands (a s : Sec) : Prop := s = a ∨ a.n < s.n
theorem Stands.le {a s : Sec} (h : Stands a s) : a.n ≤ s.n := by
  rcases h with rfl | h
  · exact Int.le_refl _
  · exact Int.le_of_lt h
def StandsIn (k : Nat) (a : Sec) (d : Dsk) : Prop := ∃ s t, d.now[k]? = some s ∧ d.sure[k]? = some t ∧ Stands a s ∧ Stands a t
theorem stands_do {k : Nat} {a : Sec} {d : Dsk} (x : DAct) (h : chkB d = true) (hs : StandsIn k a d) : StandsIn k a (doD d x) := by
  obtain ⟨s, t, h1, h2, h3, h4⟩ := hs
  obtain ⟨r1, r2, _⟩ := chkB_parts h
  have l1 := rowB_length r1
  have l2 := rowB_length r2
  have hk : k < 33 := by
    have := (List.getElem?_eq_some_iff.1 h1).1
    omega
  unfold doD
  split
  · split
    · rename_i hp
      have ha := of_decide_eq_true (Bool.and_eq_true_iff.1 hp).2
      obtain ⟨j, hj⟩ := Int.eq_ofNat_of_zero_le ha.1
      rw [hj, Int.toNat_natCast]
      by_cases hc : k = j ∧ (d.now[j]?.getD noSec).n < x.n
      · refine ⟨⟨x.n, x.b⟩, t, by rw [put_at _ _ _ _ _ (by omega), if_pos hc], by rw [put_sure]; exact h2, .inr ?_, h4⟩
        obtain ⟨rfl, hlt⟩ := hc
        rw [num_at h1] at hlt
        exact Int.lt_of_le_of_lt h3.le hlt
      · exact ⟨s, t, by rw [put_at _ _ _ _ _ (by omega), if_neg hc]; exact h1, by rw [put_sure]; exact h2, h3, h4⟩
    · exact ⟨s, t, h1, h2, h3, h4⟩
  · split
    · exact ⟨s, s, h1, h1, h3, h3⟩
    · split
      · have e := keepRow_at d x.lost hk
        rcases keep_at (lost := x.lost) l1 l2 hk with ⟨e1, _⟩ | ⟨e1, _⟩
        · rw [h1] at e1
          rw [← e1] at e
          exact ⟨s, s, e, e, h3, h3⟩
        · rw [h2] at e1
          rw [← e1] at e
          exact ⟨t, t, e, e, h4, h4⟩
      · exact ⟨s, t, h1, h2, h3, h4⟩
theorem stands_fold {k : Nat} {a : Sec} (l : List DAct) {d : Dsk} (h : chkB d = true) (hs : StandsIn k a d) : StandsIn k a (l.foldl doD d) := by
  induction l generalizing d with
  | nil => exact hs
  | cons x l ih => exact ih (do_ok x h) (stands_do x h hs)
def runF (d : Dsk) (l : List DAct) (k : Nat) : Dsk := (l.take k).foldl doD d
theorem runF_succ {d : Dsk} {l : List DAct} {k : Nat} {x : DAct} (h : l[k]? = some x) : runF d l (k + 1) = doD (runF d l k) x := by
  obtain ⟨hk, rfl⟩ := List.getElem?_eq_some_iff.1 h
  unfold runF
  rw [List.take_succ_eq_append_getElem hk, List.foldl_append]
  rfl
theorem runF_ok {d : Dsk} (h : chkB d = true) (l : List DAct) (k : Nat) : chkB (runF d l k) = true := fold_ok _ h
/-- RunR with a sector's box besides. -/
def SurR (W : World) (P Q : Nat) (a : Sec) (d : Dsk) (w : World) : Prop := RunR W P d w ∧ Box w Q (.int .i64 a.n) (.string a.b)
set_option maxRecDepth 100000 in
set_option maxHeartbeats 16000000 in
theorem sure_in (hN : NewSpec 28) (hP : PutSpec 12) (hS : SyncSpec 15) (hC : CrashSpec 17) (hG : GetSpec 19)
    (a : Option Addr) (n c : Nat) (l : List DAct) (a' : Option Addr) (n' c' : Nat) (l' : List DAct) (s q : Int) (b : ByteArray) (w : World) (hr : Rg 5 w 0 w.heap.size a n (acts l)) (hr' : Rg 5 w 0 w.heap.size a' n' (acts l')) (hn : n ≤ 140737488351232) (hn' : n' ≤ 140737488351232)
    (hin : ∀ (k : Nat) (x : DAct), l[k]? = some x → x.In) (hin' : ∀ (k : Nat) (x : DAct), l'[k]? = some x → x.In) (hs : I64 s) (hq : I64 q) (hb : b.size ≤ 1000) (hsl : slimL l = true) (hsl' : slimL l' = true) :
    Calls Try.prog 5 #[.slice a n c, .slice a' n' c', .int .i64 s, .int .i64 q, .string b] w fun e w' => e = .returned (.bool true) ∧ Below w.heap.size w w' := by
  have g0 := greatA_walk w.heap.size a n c l w hr (Nat.le_refl _) hn
  rw [hsl] at g0
  have HL := Lib.hid (acts_len hr)
  have HL' := Lib.hid (acts_len hr')
  have HI := Lib.hid hin
  have HI' := Lib.hid hin'
  have HSL := Lib.hid hsl
  have HSL' := Lib.hid hsl'
  have hgd : Try.prog.eqGuardType Try.prog.depth 35 = false := by kernel_rfl
  clear hin hin' hsl hsl'
  go_enter Try.func5, Try.ntmps5
  go_wp2_with fail
  refine g0.mono ?_
  rintro e w0 ⟨rfl, hb0⟩
  have g1 := greatA_walk w.heap.size a' n' c' l' w0 (hr'.far hb0) hb0.size hn'
  rw [HSL'.out] at g1
  clear g0
  go_wp2_with fail
  refine g1.mono ?_
  rintro e w1 ⟨rfl, hb1'⟩
  have hb1 := hb0.trans (hb1'.mono hb0.size)
  clear g1 hb0 hb1'
  have n0 := hN w1
  go_wp2_with fail
  refine n0.mono ?_
  rintro e w2 ⟨_, rfl, Dn, hb2, _⟩
  clear n0
  obtain ⟨da, dl, dc, da', dl', dc', rfl, _⟩ := id Dn
  obtain ⟨w3, e3, hb3, B3, hz3⟩ := box_new w2 24 (.slice da dl dc) (.slice da' dl' dc')
  have HB := (hb1.trans (hb2.mono hb1.size)).trans (hb3.mono (Nat.le_trans hb1.size hb2.size))
  have hlP : w.heap.size ≤ w2.heap.size := Nat.le_trans hb1.size hb2.size
  have hR : RunR w w2.heap.size (runF newD l 0) w3 := ⟨HB, _, _, _, _, _, _, B3, Dn.on hb3⟩
  have HR := Lib.hid hr
  have HR' := Lib.hid hr'
  clear hb1 hb2 hb3 hz3 B3 Dn HB hr hr'
  go_wp2
  go_loopw [36] (fun i wr => ∃ k : Nat, k ≤ n ∧ i = .int .i64 k ∧ RunR w w2.heap.size (runF newD l k) wr) (fun i _ => n - (intOf i).toNat)
  case atStart => exact ⟨0, Nat.zero_le _, rfl, hR⟩
  case round =>
    obtain ⟨k, hk, rfl, HB, ba, bl, bc, ba', bl', bc', Bx, Dd⟩ := hrel
    by_cases hlt : k < n
    · obtain ⟨x, hx⟩ : ∃ x, l[k]? = some x := ⟨_, List.getElem?_eq_getElem (by rw [HL.out]; exact hlt)⟩
      obtain ⟨g, o, rfl, _, _, hc⟩ := (HR.out.far HB).addr (by omega)
      obtain ⟨c0, c1, c2, c3, c4⟩ := acts_cell hc hx
      have hok : chkB (runF newD l k) = true := runF_ok new_ok l k
      obtain ⟨w5, e5, hbx, B5⟩ := box5_new wr 47 (.int .i64 x.k) (.int .i64 x.s) (.int .i64 x.n) (.string x.b) (.int .u64 x.lost)
      obtain ⟨_, p0, p1, _, _⟩ := Bx.far hbx
      obtain ⟨_, y0, y1, y2, y3, y4⟩ := id B5
      have nn := do_walk hP hS hC _ (runF newD l k) x w5 (Dd.on hbx) (chk_small hok) (HI.out k x hx) (by have := slim_at HSL.out hx; omega)
      have HE := Lib.hid (runF_succ (d := newD) hx)
      simp only [DAct.val] at nn
      clear hc hx hok hR
      go_wp2_with fail
      refine nn.mono ?_
      rintro e w6 ⟨_, rfl, Du, hby, _⟩
      obtain ⟨ua, ul, uc, ua', ul', uc', rfl, _⟩ := id Du
      have HB6 := (HB.trans (hbx.mono HB.size)).trans (hby.mono (HB.trans (hbx.mono HB.size)).size)
      have Bx6 := (Bx.far hbx).far hby

      clear nn p0 p1 y0 y1 y2 y3 y4 c0 c1 c2 c3 c4 e5 HB hbx hby Bx B5 Dd
      obtain ⟨_, r0, r1, r2, r3⟩ := id Bx6
      obtain ⟨wf, ef, Bf, hzf, ko, kd, kb⟩ := Bx6.put (isSl _ _ _) (isSl _ _ _) (.slice ua ul uc) (.slice ua' ul' uc')
      have hR0 : RunR w w2.heap.size (runF newD l (k + 1)) wf := ⟨kb w hlP HB6, ua, ul, uc, ua', ul', uc', Bf, by rw [HE.out]; exact (kd _ _ _ _ Du).wide (Nat.le_refl _) (Nat.le_of_eq hzf.symm)⟩
      have hR' := hR0
      clear Bf ko kd kb hzf Bx6 Du
      go_wp2
      go_roundw
      case rel => exact ⟨k + 1, by omega, by go_num, hR'⟩
      case measure => simp [intOf]; omega
    · obtain rfl : k = n := by omega
      have hok0 : chkB (runF newD l k) = true := runF_ok new_ok l k
      have HOK0 := Lib.hid hok0
      generalize runF newD l k = d0 at *
      have nn := hP wr.heap.size _ d0 s q b wr Dd (Nat.le_refl _) (chk_small hok0) hs hq (by omega)
      have lW := HB.size
      clear hok0 hR
      obtain ⟨_, r0, r1, r2, r3⟩ := id Bx
      rcases hp : putOk d0 s q b with _ | _
      · rw [show putF d0 s q b = (none_, 2) by unfold putF; rw [hp]; rfl] at nn
        clear hp
        go_wp2_with fail
        refine nn.mono ?_
        rintro e wp ⟨_, rfl, Dp, hbp, _⟩
        obtain ⟨pa, pl, pc, pa', pl', pc', rfl, _⟩ := id Dp
        have HBp := HB.trans (hbp.mono HB.size)
        obtain ⟨_, s0, s1, s2, s3⟩ := Bx.far hbp
        obtain ⟨wf, ef, Bf, hzf, ko, kd, kb⟩ := (Bx.far hbp).put (isSl _ _ _) (isSl _ _ _) (.slice pa pl pc) (.slice pa' pl' pc')
        have HBf := kb w hlP HBp
        have n9 := wakes_walk hN hP hG hC wf
        clear nn ko kd kb hzf Bf Bx Dd Dp r0 r1 r2 r3
        go_wp2_with fail
        refine n9.mono ?_
        rintro e w9 ⟨rfl, hb9⟩
        go_wp2
        go_ret
        exact ⟨rfl, HBf.trans (hb9.mono HBf.size)⟩
      · have ha := of_decide_eq_true (Bool.and_eq_true_iff.1 hp).2
        obtain ⟨k0, rfl⟩ := Int.eq_ofNat_of_zero_le ha.1
        have hk33 : k0 < 33 := by omega
        rw [show putF d0 k0 q b = (putD d0 k0 q b, 0) by unfold putF; rw [hp, Int.toNat_natCast]; rfl] at nn
        have hok1 := put_ok hp
        have hl0 := rowB_length (chkB_parts HOK0.out).1
        obtain ⟨ah, hah⟩ : ∃ x, (putD d0 k0 q b).now[k0]? = some x := ⟨_, List.getElem?_eq_getElem (by rw [put_len]; omega)⟩
        have hge : q ≤ ah.n := by
          have h2 := hah
          rw [put_at _ _ _ _ _ (by omega)] at h2
          split at h2
          · cases h2
            exact Int.le_refl _
          · rename_i hc
            rw [h2] at hc
            have h3 : ¬ ah.n < q := fun h => hc ⟨rfl, h⟩
            omega
        have HAH := Lib.hid hah
        have HOK1 := Lib.hid hok1
        have HOK2 := Lib.hid (sync_ok hok1)
        generalize putD d0 k0 q b = D1 at *
        clear hp ha hah hok1 hl0
        go_wp2_with fail
        refine nn.mono ?_
        rintro e wp ⟨_, rfl, Dp, hbp, _⟩
        obtain ⟨pa, pl, pc, pa', pl', pc', rfl, _⟩ := id Dp
        have HBp := HB.trans (hbp.mono HB.size)
        obtain ⟨_, s0, s1, s2, s3⟩ := Bx.far hbp
        obtain ⟨wf, ef, Bf, hzf, ko, kd, kb⟩ := (Bx.far hbp).put (isSl _ _ _) (isSl _ _ _) (.slice pa pl pc) (.slice pa' pl' pc')
        have HBf := kb w hlP HBp
        have Df : Dk wf 0 wf.heap.size _ D1 := (kd _ _ _ _ Dp).wide (Nat.le_refl _) (Nat.le_of_eq hzf.symm)
        have ng := hG wf.heap.size _ D1 k0 wf Df (Nat.le_refl _) (chk_small HOK1.out) hs
        rw [show getF D1 (k0 : Int) = (ah, 0) by unfold getF getOk; rw [HOK1.out, decide_eq_true (by omega), Int.toNat_natCast, HAH.out]; rfl] at ng
        simp only [Sec.val] at ng
        obtain ⟨_, t0, t1, t2, t3⟩ := id Bf
        clear nn ko kd kb hzf Bx Dd Dp r0 r1 r2 r3
        go_wp2_with fail
        refine ng.mono ?_
        rintro e wq ⟨rfl, hbq⟩
        have HBq := HBf.trans (hbq.mono HBf.size)
        have Bfq := Bf.far hbq
        have neq : w2.heap.size ≠ wq.heap.size := fun h => absurd (h ▸ Bfq.1) (Nat.lt_irrefl _)
        obtain ⟨wr1, er1, hbr1, Bq, _⟩ := box_new wq 35 (.int .i64 ah.n) (.string ah.b)
        have HBr := HBq.trans (hbr1.mono HBq.size)
        have Bxr := Bfq.far hbr1
        have Dr := (Df.on hbq).on hbr1
        have ns := hS wr1.heap.size _ D1 wr1 Dr (Nat.le_refl _) (chk_small HOK1.out)
        rw [show syncF D1 = (⟨D1.now, D1.now⟩, 0) by unfold syncF; rw [HOK1.out]; rfl] at ns
        obtain ⟨_, v0, v1, v2, v3⟩ := id Bxr
        clear ng Bf Df hbq Bfq t0 t1 t2 t3 s0 s1 s2 s3
        go_wp2_with fail
        refine ns.mono ?_
        rintro e wt ⟨_, rfl, Dt, hbt, _⟩
        obtain ⟨ta, tl, tc, ta', tl', tc', rfl, _⟩ := id Dt
        have HBt := HBr.trans (hbt.mono HBr.size)
        obtain ⟨_, y0, y1, y2, y3⟩ := Bxr.far hbt
        obtain ⟨wu, eu, Bu, hzu, ko, kd, kb⟩ := (Bxr.far hbt).put (isSl _ _ _) (isSl _ _ _) (.slice ta tl tc) (.slice ta' tl' tc')
        have hR : SurR w w2.heap.size wq.heap.size ah (runF (⟨D1.now, D1.now⟩ : Dsk) l' 0) wu :=
          ⟨⟨kb w hlP HBt, _, _, _, _, _, _, Bu, (kd _ _ _ _ Dt).wide (Nat.le_refl _) (Nat.le_of_eq hzu.symm)⟩, ko _ _ _ neq (Bq.far hbt)⟩
        have HST := Lib.hid (show StandsIn k0 ah ⟨D1.now, D1.now⟩ from ⟨ah, ah, HAH.out, HAH.out, .inl rfl, .inl rfl⟩)
        clear ns ko kd kb hzu Bu Dt Bq Dr hbt hbr1 Bxr v0 v1 v2 v3 er1 HBt HBr HBq HBf HBp HB
        go_wp2
        go_loopw [68] (fun i wr => ∃ k : Nat, k ≤ n' ∧ i = .int .i64 k ∧ SurR w w2.heap.size wq.heap.size ah (runF (⟨D1.now, D1.now⟩ : Dsk) l' k) wr) (fun i _ => n' - (intOf i).toNat)
        case atStart => exact ⟨0, Nat.zero_le _, rfl, hR⟩
        case round =>
          obtain ⟨k, hk, rfl, ⟨HB, ba, bl, bc, ba', bl', bc', Bx, Dd⟩, Bq⟩ := hrel
          by_cases hlt : k < n'
          · obtain ⟨x, hx⟩ : ∃ x, l'[k]? = some x := ⟨_, List.getElem?_eq_getElem (by rw [HL'.out]; exact hlt)⟩
            obtain ⟨g, o, rfl, _, _, hc⟩ := (HR'.out.far HB).addr (by omega)
            obtain ⟨c0, c1, c2, c3, c4⟩ := acts_cell hc hx
            have hok : chkB (runF (⟨D1.now, D1.now⟩ : Dsk) l' k) = true := runF_ok HOK2.out l' k
            obtain ⟨w5, e5, hbx, B5⟩ := box5_new wr 47 (.int .i64 x.k) (.int .i64 x.s) (.int .i64 x.n) (.string x.b) (.int .u64 x.lost)
            obtain ⟨_, p0, p1, _, _⟩ := Bx.far hbx
            obtain ⟨_, y0, y1, y2, y3, y4⟩ := id B5
            have nn := do_walk hP hS hC _ (runF (⟨D1.now, D1.now⟩ : Dsk) l' k) x w5 (Dd.on hbx) (chk_small hok) (HI'.out k x hx) (by have := slim_at HSL'.out hx; omega)
            have HE := Lib.hid (runF_succ (d := (⟨D1.now, D1.now⟩ : Dsk)) hx)
            simp only [DAct.val] at nn
            clear hc hx hok hR
            go_wp2_with fail
            refine nn.mono ?_
            rintro e w6 ⟨_, rfl, Du, hby, _⟩
            obtain ⟨ua, ul, uc, ua', ul', uc', rfl, _⟩ := id Du
            have HB6 := (HB.trans (hbx.mono HB.size)).trans (hby.mono (HB.trans (hbx.mono HB.size)).size)
            have Bx6 := (Bx.far hbx).far hby
            have Bq6 := (Bq.far hbx).far hby
            clear Bq
            clear nn p0 p1 y0 y1 y2 y3 y4 c0 c1 c2 c3 c4 e5 HB hbx hby Bx B5 Dd
            obtain ⟨_, r0, r1, r2, r3⟩ := id Bx6
            obtain ⟨wf, ef, Bf, hzf, ko, kd, kb⟩ := Bx6.put (isSl _ _ _) (isSl _ _ _) (.slice ua ul uc) (.slice ua' ul' uc')
            have hR0 : RunR w w2.heap.size (runF (⟨D1.now, D1.now⟩ : Dsk) l' (k + 1)) wf := ⟨kb w hlP HB6, ua, ul, uc, ua', ul', uc', Bf, by rw [HE.out]; exact (kd _ _ _ _ Du).wide (Nat.le_refl _) (Nat.le_of_eq hzf.symm)⟩
            have hR' : SurR w w2.heap.size wq.heap.size ah (runF (⟨D1.now, D1.now⟩ : Dsk) l' (k + 1)) wf := ⟨hR0, ko _ _ _ neq Bq6⟩
            clear Bf ko kd kb hzf Bx6 Du
            go_wp2
            go_roundw
            case rel => exact ⟨k + 1, by omega, by go_num, hR'⟩
            case measure => simp [intOf]; omega
          · obtain rfl : k = n' := by omega
            have hok3 : chkB (runF (⟨D1.now, D1.now⟩ : Dsk) l' k) = true := runF_ok HOK2.out l' k
            have hst3 : StandsIn k0 ah (runF (⟨D1.now, D1.now⟩ : Dsk) l' k) := stands_fold _ HOK2.out HST.out
            generalize runF (⟨D1.now, D1.now⟩ : Dsk) l' k = D3 at *
            obtain ⟨z, z', hz1, _, hz3, _⟩ := hst3
            have ng := hG wr.heap.size _ D3 k0 wr Dd (Nat.le_refl _) (chk_small hok3) hs
            rw [show getF D3 (k0 : Int) = (z, 0) by unfold getF getOk; rw [hok3, decide_eq_true (by omega), Int.toNat_natCast, hz1]; rfl] at ng
            simp only [Sec.val] at ng
            obtain ⟨_, f0, f1, f2, f3⟩ := id Bx
            clear hok3 hz1 hR
            go_wp2_with fail
            refine ng.mono ?_
            rintro e wv ⟨rfl, hbv⟩
            have HBv := HB.trans (hbv.mono HB.size)
            have Bqv := Bq.far hbv
            obtain ⟨ww, ew, hbw, Bz, _⟩ := box_new wv 35 (.int .i64 z.n) (.string z.b)
            have HBw := HBv.trans (hbw.mono HBv.size)
            obtain ⟨_, h0, h1, h2, h3⟩ := Bqv.far hbw
            obtain ⟨_, i0, i1, i2, i3⟩ := id Bz
            have heq := fun W => run_sec_eql z ah W
            have nw := wakes_walk hN hP hG hC ww
            clear ng f0 f1 f2 f3 Bx Dd Bq Bqv Bz hbv hbw HB
            rcases hse : secEq z ah with _ | _
            · rw [hse] at heq
              have hlt3 : ah.n < z.n := by
                rcases hz3 with h | h
                · rw [secEq_iff.2 h] at hse
                  cases hse
                · exact h
              clear hse hz3
              go_wp2_with fail
              refine nw.mono ?_
              rintro e w9 ⟨rfl, hb9⟩
              go_wp2
              go_ret
              exact ⟨rfl, HBw.trans (hb9.mono HBw.size)⟩
            · rw [hse] at heq
              have hge2 := hz3.le
              clear hse hz3
              go_wp2_with fail
              refine nw.mono ?_
              rintro e w9 ⟨rfl, hb9⟩
              go_wp2
              go_ret
              exact ⟨rfl, HBw.trans (hb9.mono HBw.size)⟩
set_option maxHeartbeats 1600000 in
theorem walkDiskSure (hN : NewSpec 28) (hP : PutSpec 12) (hS : SyncSpec 15) (hC : CrashSpec 17) (hG : GetSpec 19)
    (a : Option Addr) (n c : Nat) (l : List DAct) (a' : Option Addr) (n' c' : Nat) (l' : List DAct) (s q : Int) (b : ByteArray) (w : World) (hr : Rg 5 w 0 w.heap.size a n (acts l)) (hr' : Rg 5 w 0 w.heap.size a' n' (acts l')) (hn : n ≤ 140737488351232) (hn' : n' ≤ 140737488351232)
    (hin : ∀ (k : Nat) (x : DAct), l[k]? = some x → x.In) (hin' : ∀ (k : Nat) (x : DAct), l'[k]? = some x → x.In) (hs : I64 s) (hq : I64 q) (hbm : b.size ≤ 140737488351232) :
    Calls Try.prog 5 #[.slice a n c, .slice a' n' c', .int .i64 s, .int .i64 q, .string b] w fun e w' => e = .returned (.bool true) ∧ Below w.heap.size w w' := by
  have g0 := greatA_walk w.heap.size a n c l w hr (Nat.le_refl _) hn
  rcases hsl : slimL l with _ | _
  · rw [hsl] at g0
    clear hsl hr hr' hin hin'
    go_enter Try.func5, Try.ntmps5
    go_wp2_with fail
    refine g0.mono ?_
    rintro e w1 ⟨rfl, HB⟩
    clear g0
    have nn := wakes_walk hN hP hG hC w1
    go_wp2_with fail
    refine nn.mono ?_
    rintro e w9 ⟨rfl, hb9⟩
    go_wp2
    go_ret
    exact ⟨rfl, HB.trans (hb9.mono HB.size)⟩
  · rcases hsl' : slimL l' with _ | _
    · rw [hsl] at g0
      have HR' := Lib.hid hr'
      have HS' := Lib.hid hsl'
      clear hsl hsl' hr hr' hin hin'
      go_enter Try.func5, Try.ntmps5
      go_wp2_with fail
      refine g0.mono ?_
      rintro e w0 ⟨rfl, hb0⟩
      clear g0
      have g1 := greatA_walk w.heap.size a' n' c' l' w0 (HR'.out.far hb0) hb0.size hn'
      rw [HS'.out] at g1
      go_wp2_with fail
      refine g1.mono ?_
      rintro e w1 ⟨rfl, hb1⟩
      have HB := hb0.trans (hb1.mono hb0.size)
      clear g1
      have nn := wakes_walk hN hP hG hC w1
      go_wp2_with fail
      refine nn.mono ?_
      rintro e w9 ⟨rfl, hb9⟩
      go_wp2
      go_ret
      exact ⟨rfl, HB.trans (hb9.mono HB.size)⟩
    · by_cases hb : b.size ≤ 1000
      · exact sure_in hN hP hS hC hG a n c l a' n' c' l' s q b w hr hr' hn hn' hin hin' hs hq hb hsl hsl'
      · rw [hsl] at g0
        have HR' := Lib.hid hr'
        have HS' := Lib.hid hsl'
        have hb2 : 1000 < b.size := by omega
        clear hsl hsl' hr hr' hin hin' hb
        go_enter Try.func5, Try.ntmps5
        go_wp2_with fail
        refine g0.mono ?_
        rintro e w0 ⟨rfl, hb0⟩
        clear g0
        have g1 := greatA_walk w.heap.size a' n' c' l' w0 (HR'.out.far hb0) hb0.size hn'
        rw [HS'.out] at g1
        go_wp2_with fail
        refine g1.mono ?_
        rintro e w1 ⟨rfl, hb1⟩
        have HB := hb0.trans (hb1.mono hb0.size)
        clear g1
        have nn := wakes_walk hN hP hG hC w1
        go_wp2_with fail
        refine nn.mono ?_
        rintro e w9 ⟨rfl, hb9⟩
        go_wp2
        go_ret
        exact ⟨rfl, HB.trans (hb9.mono HB.size)⟩
end Go.Proofs.Ytjahhheipeggeaa
