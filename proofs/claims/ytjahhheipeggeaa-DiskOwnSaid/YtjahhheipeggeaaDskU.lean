/- What is proved: the walk of DiskRises: it returns true at every list of acts, whenever the package disk's functions answer as the document says. -/
import Derived.Test.YtjahhheipeggeaaDskT
namespace Go.Proofs.Ytjahhheipeggeaa
open Go.RowKit

def runD (l : List DAct) (k : Nat) : Dsk := (l.take k).foldl doD newD
theorem runD_succ {l : List DAct} {k : Nat} {x : DAct} (h : l[k]? = some x) : runD l (k + 1) = doD (runD l k) x := by
  obtain ⟨hk, rfl⟩ := List.getElem?_eq_some_iff.1 h
  unfold runD
  rw [List.take_succ_eq_append_getElem hk, List.foldl_append]
  rfl
theorem fold_ok (l : List DAct) {d : Dsk} (h : chkB d = true) : chkB (l.foldl doD d) = true := by
  induction l generalizing d with
  | nil => exact h
  | cons x l ih => exact ih (do_ok x h)
theorem runD_ok (l : List DAct) (k : Nat) : chkB (runD l k) = true := fold_ok _ new_ok
/-- What holds at every round's head: the disk behind k acts stands in the box. -/
def RunR (W : World) (P : Nat) (d : Dsk) (w : World) : Prop :=
  Below W.heap.size W w ∧ ∃ a l c a' l' c', Box w P (.slice a l c) (.slice a' l' c') ∧ Dk w 0 w.heap.size (.agg #[.slice a l c, .slice a' l' c']) d
theorem slim_at {l : List DAct} (h : slimL l = true) {k : Nat} {x : DAct} (hx : l[k]? = some x) : x.b.size ≤ 1000 := by
  unfold slimL at h
  exact of_decide_eq_true (List.all_eq_true.1 (Bool.and_eq_true_iff.1 h).2 x (List.mem_of_getElem? hx))
set_option maxRecDepth 100000 in
set_option maxHeartbeats 16000000 in
theorem rises_in (hN : NewSpec 28) (hP : PutSpec 12) (hS : SyncSpec 15) (hC : CrashSpec 17) (hG : GetSpec 19) (hK : CheckSpec 21)
    (hi : Nat) (a : Option Addr) (n c : Nat) (l : List DAct) (w : World) (hr : Rg 5 w 0 hi a n (acts l)) (hh : hi ≤ w.heap.size) (hn : n ≤ 140737488351232) (hin : ∀ (k : Nat) (x : DAct), l[k]? = some x → x.In) (hsl : slimL l = true) :
    Calls Try.prog 4 #[.slice a n c] w fun e w' => e = .returned (.bool true) ∧ Below w.heap.size w w' := by
  have g0 := greatA_walk hi a n c l w hr hh hn
  rw [hsl] at g0
  have HL := Lib.hid (acts_len hr)
  have HI := Lib.hid hin
  have HSL := Lib.hid hsl
  clear hin hsl
  go_enter Try.func4, Try.ntmps4
  go_wp2_with fail
  refine g0.mono ?_
  rintro e w1 ⟨rfl, hb1⟩
  clear g0
  have n0 := hN w1
  go_wp2_with fail
  refine n0.mono ?_
  rintro e w2 ⟨_, rfl, Dn, hb2, _⟩
  clear n0
  obtain ⟨da, dl, dc, da', dl', dc', rfl, _⟩ := id Dn
  obtain ⟨w3, e3, hb3, B3, hz3⟩ := box_new w2 24 (.slice da dl dc) (.slice da' dl' dc')
  have HB := (hb1.trans (hb2.mono hb1.size)).trans (hb3.mono (Nat.le_trans hb1.size hb2.size))
  have hlP : w.heap.size ≤ w2.heap.size := Nat.le_trans hb1.size hb2.size
  have hR : RunR w w2.heap.size (runD l 0) w3 := ⟨HB, _, _, _, _, _, _, B3, Dn.on hb3⟩
  have HR := Lib.hid hr
  clear hb1 hb2 hb3 hz3 B3 Dn HB hr
  go_wp2
  go_loopw [14] (fun i wr => ∃ k : Nat, k ≤ n ∧ i = .int .i64 k ∧ RunR w w2.heap.size (runD l k) wr) (fun i _ => n - (intOf i).toNat)
  case atStart => exact ⟨0, Nat.zero_le _, rfl, hR⟩
  case round =>
    obtain ⟨k, hk, rfl, HB, ba, bl, bc, ba', bl', bc', Bx, Dd⟩ := hrel
    by_cases hlt : k < n
    · obtain ⟨x, hx⟩ : ∃ x, l[k]? = some x := ⟨_, List.getElem?_eq_getElem (by rw [HL.out]; exact hlt)⟩
      obtain ⟨g, o, rfl, _, _, hc⟩ := (HR.out.far (HB.mono hh)).addr (by omega)
      obtain ⟨c0, c1, c2, c3, c4⟩ := acts_cell hc hx
      have hok := runD_ok l k
      obtain ⟨w5, e5, hbx, B5⟩ := box5_new wr 47 (.int .i64 x.k) (.int .i64 x.s) (.int .i64 x.n) (.string x.b) (.int .u64 x.lost)
      obtain ⟨_, p0, p1, _, _⟩ := Bx.far hbx
      obtain ⟨_, y0, y1, y2, y3, y4⟩ := id B5
      have nn := do_walk hP hS hC _ (runD l k) x w5 (Dd.on hbx) (chk_small hok) (HI.out k x hx) (by have := slim_at HSL.out hx; omega)
      have HX := Lib.hid hx
      have HO := Lib.hid hok
      have neP : w2.heap.size ≠ wr.heap.size := fun h => absurd (h ▸ Bx.1) (Nat.lt_irrefl _)
      simp only [DAct.val] at nn
      clear hc hx hok hR
      go_wp2_with fail
      refine nn.mono ?_
      rintro e w6 ⟨_, rfl, Du, hby, _⟩
      obtain ⟨ua, ul, uc, ua', ul', uc', rfl, _⟩ := id Du
      have HB6 := (HB.trans (hbx.mono HB.size)).trans (hby.mono (HB.trans (hbx.mono HB.size)).size)
      have Bx6 := (Bx.far hbx).far hby
      have B56 := B5.far hby
      have Dd6 := (Dd.on hbx).on hby
      clear nn p0 p1 y0 y1 y2 y3 y4 c0 c1 c2 c3 c4 e5 HB hbx hby Bx B5 Dd
      have hok2 := do_ok x HO.out
      obtain ⟨w7, e7, hbz, B7, _⟩ := box_new w6 24 (.slice ua ul uc) (.slice ua' ul' uc')
      have HB7 := HB6.trans (hbz.mono HB6.size)
      have l6 : w.heap.size ≤ w6.heap.size := HB6.size
      have n67 : w2.heap.size ≠ w6.heap.size := fun h => absurd (h ▸ Bx6.1) (Nat.lt_irrefl _)
      have nn := hK w7.heap.size _ (doD (runD l k) x) w7 (Du.on hbz) (Nat.le_refl _) (chk_small hok2)
      rw [chk_yes hok2] at nn
      obtain ⟨_, p0, p1, p2, p3⟩ := id B7
      go_wp2_with fail
      refine nn.mono ?_
      rintro e w8 ⟨rfl, hbw⟩
      have HB8 := HB7.trans (hbw.mono HB7.size)
      have Bx8 := (Bx6.far hbz).far hbw
      have B58 := (B56.far hbz).far hbw
      have B78 := B7.far hbw
      have Dd8 := (Dd6.on hbz).on hbw
      have Du8 := (Du.on hbz).on hbw
      clear nn p0 p1 p2 p3 e7 HB6 HB7 hbz hbw Bx6 B56 B7 Dd6 Du
      obtain ⟨r1, r2, _⟩ := chkB_parts HO.out
      obtain ⟨r3, r4, _⟩ := chkB_parts hok2
      have eb1 : bl = 33 := by rw [← secs_len Dd8.rows.1]; exact rowB_length r1
      have eb2 : bl' = 33 := by rw [← secs_len Dd8.rows.2.1]; exact rowB_length r2
      have eu1 : ul = 33 := by rw [← secs_len Du8.rows.1]; exact rowB_length r3
      have eu2 : ul' = 33 := by rw [← secs_len Du8.rows.2.1]; exact rowB_length r4
      subst eb1 eb2 eu1 eu2
      have HR1 := Lib.hid (rowB_length r1)
      have HR2 := Lib.hid (rowB_length r2)
      have HR3 := Lib.hid (rowB_length r3)
      have HR4 := Lib.hid (rowB_length r4)
      have HE := Lib.hid (runD_succ HX.out)
      clear r1 r2 r3 r4 hok2
      generalize hD : runD l k = D at *
      generalize hE : doD D x = E at *
      have HDE := Lib.hid hE
      clear hD hE
      have hk33 : (33 : Int) ≤ 33 := Int.le_refl _
      obtain ⟨_, s0, s1, s2, s3⟩ := id Bx8
      obtain ⟨_, s4, s5, s6, s7⟩ := id B78
      obtain ⟨_, y0, _, _, _, _⟩ := id B58
      go_wp2
      go_loopw [39] (fun i wr' => ∃ j m : Nat, j ≤ 33 ∧ i = .int .i64 j ∧ wr' = w8.drewN m) (fun i _ => 33 - (intOf i).toNat)
      case atStart => exact ⟨0, 0, Nat.zero_le _, rfl, rfl⟩
      case round =>
        obtain ⟨j, m, hj, rfl, rfl⟩ := hrel
        by_cases hjt : j < 33
        · obtain ⟨s, hs⟩ : ∃ s, D.now[j]? = some s := ⟨_, List.getElem?_eq_getElem (by rw [HR1.out]; exact hjt)⟩
          obtain ⟨t, ht⟩ : ∃ s, D.sure[j]? = some s := ⟨_, List.getElem?_eq_getElem (by rw [HR2.out]; exact hjt)⟩
          obtain ⟨s', hs'⟩ : ∃ s, E.now[j]? = some s := ⟨_, List.getElem?_eq_getElem (by rw [HR3.out]; exact hjt)⟩
          obtain ⟨t', ht'⟩ : ∃ s, E.sure[j]? = some s := ⟨_, List.getElem?_eq_getElem (by rw [HR4.out]; exact hjt)⟩
          obtain ⟨q1, q2, q3⟩ := do_rises x HO.out hs ht (by rw [HDE.out]; exact hs') (by rw [HDE.out]; exact ht')
          obtain ⟨g1, o1, rfl, _, _, hc1⟩ := Dd8.rows.1.addr (by decide)
          obtain ⟨g2, o2, rfl, _, _, hc2⟩ := Dd8.rows.2.1.addr (by decide)
          obtain ⟨g3, o3, rfl, _, _, hc3⟩ := Du8.rows.1.addr (by decide)
          obtain ⟨g4, o4, rfl, _, _, hc4⟩ := Du8.rows.2.1.addr (by decide)
          have f1 := (secs_cell hc1 hs).1
          have f2 := (secs_cell hc2 ht).1
          have f3 := (secs_cell hc3 hs').1
          have f4 := (secs_cell hc4 ht').1
          have hki : (j : Int) < 33 := by omega
          have hk0 : (0 : Int) ≤ j := by omega
          have v1 : decide (t'.n < t.n) = false := by simpa using q1
          have v2 : decide (s'.n < t.n) = false := by simpa using q3
          have W1 := Lib.hid Dd8
          have W2 := Lib.hid Du8
          clear hs ht hs' ht' hc1 hc2 hc3 hc4 q1 q3 Dd8 Du8
          by_cases hx2 : x.k = 2
          · have v3 : (x.k != 2) = false := by simpa using hx2
            have v4 : (x.k == 2) = true := by simpa using hx2
            have VX := Lib.hid hx2
            clear hx2 q2
            go_wp2
            go_quiet (fail)
            go_wp2
            go_roundw
            case rel => exact ⟨j + 1, m + nq, by omega, by go_num, rfl⟩
            case measure => simp [intOf]; omega
          · have v3 : (x.k != 2) = true := by simpa using hx2
            have v4 : (x.k == 2) = false := by simpa using hx2
            have v5 : decide (s'.n < s.n) = false := by simpa using q2 hx2
            clear hx2 q2
            go_wp2
            go_quiet (fail)
            go_wp2
            go_roundw
            case rel => exact ⟨j + 1, m + nq, by omega, by go_num, rfl⟩
            case measure => simp [intOf]; omega
        · obtain rfl : j = 33 := by omega
          have bd := below_drewN w8 m w8.heap.size
          obtain ⟨wf, ef, Bf, hzf, _, kd, kb⟩ := (Bx8.far bd).put (isSl _ _ _) (isSl _ _ _) (.slice ua 33 uc) (.slice ua' 33 uc')
          have hR' : RunR w w2.heap.size (runD l (k + 1)) wf := ⟨kb w hlP (HB8.trans (bd.mono HB8.size)), ua, 33, uc, ua', 33, uc', Bf, by rw [HE.out]; exact (kd _ _ _ _ (Du8.on bd)).wide (Nat.le_refl _) (Nat.le_of_eq hzf.symm)⟩
          clear Bf kd kb hzf Dd8 Du8 Bx8 B58 B78
          go_wp2
          go_roundw
          case rel => exact ⟨k + 1, by omega, by go_num, hR'⟩
          case measure => simp [intOf]; omega
    · obtain rfl : k = n := by omega
      have nn := wakes_walk hN hP hG hC wr
      clear hR Bx Dd
      go_wp2_with fail
      refine nn.mono ?_
      rintro e w9 ⟨rfl, hb9⟩
      go_wp2
      go_ret
      exact ⟨rfl, HB.trans (hb9.mono HB.size)⟩
theorem walkDiskRises (hN : NewSpec 28) (hP : PutSpec 12) (hS : SyncSpec 15) (hC : CrashSpec 17) (hG : GetSpec 19) (hK : CheckSpec 21)
    (a : Option Addr) (n c : Nat) (l : List DAct) (w : World) (hr : Rg 5 w 0 w.heap.size a n (acts l)) (hn : n ≤ 140737488351232) (hin : ∀ (k : Nat) (x : DAct), l[k]? = some x → x.In) :
    Calls Try.prog 4 #[.slice a n c] w fun e w' => e = .returned (.bool true) ∧ Below w.heap.size w w' := by
  rcases hsl : slimL l with _ | _
  · have g0 := greatA_walk w.heap.size a n c l w hr (Nat.le_refl _) hn
    rw [hsl] at g0
    clear hsl hr hin
    go_enter Try.func4, Try.ntmps4
    go_wp2_with fail
    refine g0.mono ?_
    rintro e w1 ⟨rfl, hb1⟩
    have nn := wakes_walk hN hP hG hC w1
    clear g0
    go_wp2_with fail
    refine nn.mono ?_
    rintro e w2 ⟨rfl, hb2⟩
    go_wp2
    go_ret
    exact ⟨rfl, hb1.trans (hb2.mono hb1.size)⟩
  · exact rises_in hN hP hS hC hG hK w.heap.size a n c l w hr (Nat.le_refl _) hn hin hsl
end Go.Proofs.Ytjahhheipeggeaa
