/- What is proved: the walk of DiskGreatest: it returns true at every list of acts, whenever the package disk's functions answer as the document says. -/
import Derived.Test.YtjahhheipeggeaaDskW
namespace Go.Proofs.Ytjahhheipeggeaa
open Go.RowKit

theorem Dk.avo_set {w : World} {lo hi : Nat} {v : Value} {d : Dsk} (h : Dk w lo hi v d) {Q : Nat} (ha : Avo Q v) (o : Nat) (u : Value) : Dk (w.setCell ⟨Q, o, none⟩ u) lo hi v d := by
  obtain ⟨a, l, c, a', l', c', rfl, h1, h2, h3⟩ := h
  obtain ⟨n1, n2⟩ := ha _ _ _ _ _ _ rfl
  have key : ∀ {b : Option Addr} {n : Nat} {xs : List Value}, Rg 2 w lo hi b n xs → (∀ x, b = some x → x.block ≠ Q) → Rg 2 (w.setCell ⟨Q, o, none⟩ u) lo hi b n xs := by
    intro b n xs hr hn
    obtain ⟨r1, r2⟩ := hr
    refine ⟨r1, r2.imp id ?_⟩
    rintro ⟨g, p, rfl, hg, hg', hc⟩
    exact ⟨g, p, rfl, hg, hg', fun j x hx => (World.cell?_setCell_other _ _ _ _ (fun e => hn _ rfl (congrArg Addr.block e).symm)).trans (hc j x hx)⟩
  exact ⟨a, l, c, a', l', c', rfl, key h1 n1, key h2 n2, h3⟩
/-- A sector of the array is written: the world behind it under a name, and what is kept. -/
theorem Arr.putW {w : World} {Q : Nat} {e : TypeId} {l : List Sec} (h : Arr w Q e l) {k : Nat} (hk : k < l.length) (s : Sec) : ∃ W, (w.setCell ⟨Q, k * 2, none⟩ (.int .i64 s.n)).setCell ⟨Q, k * 2 + 1, none⟩ (.string s.b) = W ∧ Arr W Q e (l.set k s) ∧
    (∀ W0 : World, W0.heap.size ≤ Q → Below W0.heap.size W0 w → Below W0.heap.size W0 W) ∧ (∀ g x y, Q ≠ g → Box w g x y → Box W g x y) ∧ (∀ v d, Avo Q v → Dk w 0 w.heap.size v d → Dk W 0 W.heap.size v d) := by
  refine ⟨_, rfl, h.put hk s, fun W0 hW hb => (hb.setCell hW _).setCell hW _, fun g x y n hb => (hb.other n _ _).other n _ _, fun v d ha hd => ?_⟩
  have h2 := (hd.avo_set ha (k * 2) (.int .i64 s.n)).avo_set ha (k * 2 + 1) (.string s.b)
  exact h2.wide (Nat.le_refl _) (by simp)
theorem Box5.other {w : World} {g g' : Nat} {u0 u1 u2 u3 u4 : Value} (h : Box5 w g u0 u1 u2 u3 u4) (n : g' ≠ g) (o : Nat) (x : Value) : Box5 (w.setCell ⟨g', o, none⟩ x) g u0 u1 u2 u3 u4 := by
  obtain ⟨h0, h1, h2, h3, h4, h5⟩ := h
  have ne : ∀ k, (⟨g', o, none⟩ : Addr) ≠ ⟨g, k, none⟩ := fun k e => n (congrArg Addr.block e)
  exact ⟨by simpa using h0, (World.cell?_setCell_other _ _ _ _ (ne 0)).trans h1, (World.cell?_setCell_other _ _ _ _ (ne 1)).trans h2, (World.cell?_setCell_other _ _ _ _ (ne 2)).trans h3, (World.cell?_setCell_other _ _ _ _ (ne 3)).trans h4, (World.cell?_setCell_other _ _ _ _ (ne 4)).trans h5⟩
theorem Box5.putW {w W : World} {g g' o o' : Nat} {u0 u1 u2 u3 u4 x y : Value} (h : Box5 w g u0 u1 u2 u3 u4) (n : g' ≠ g) (e : (w.setCell ⟨g', o, none⟩ x).setCell ⟨g', o', none⟩ y = W) : Box5 W g u0 u1 u2 u3 u4 := by
  rw [← e]
  exact (h.other n _ _).other n _ _
def GrR2 (W : World) (P Q : Nat) (e : TypeId) (d : Dsk) (w : World) : Prop :=
  Below W.heap.size W w ∧ ∃ a l c a' l' c', Box w P (.slice a l c) (.slice a' l' c') ∧ Dk w 0 w.heap.size (.agg #[.slice a l c, .slice a' l' c']) d ∧ Avo Q (.agg #[.slice a l c, .slice a' l' c']) ∧ Arr w Q e d.now
/-- Rows that lie below a block do not lie in it. -/
theorem Dk.avo {w : World} {lo hi : Nat} {v : Value} {d : Dsk} (h : Dk w lo hi v d) (h1 : d.now.length = 33) (h2 : d.sure.length = 33) {Q : Nat} (hQ : hi ≤ Q) : Avo Q v := by
  obtain ⟨a, l, c, a', l', c', rfl, r1, r2, _⟩ := h
  intro b m k b' m' k' e
  cases e
  have e1 := secs_len r1
  have e2 := secs_len r2
  obtain ⟨g, o, rfl, _, hg, _⟩ := r1.addr (by omega)
  obtain ⟨g', o', rfl, _, hg', _⟩ := r2.addr (by omega)
  refine ⟨fun x hx => ?_, fun x hx => ?_⟩
  · cases hx
    show g ≠ Q
    omega
  · cases hx
    show g' ≠ Q
    omega
set_option maxRecDepth 100000 in
set_option maxHeartbeats 16000000 in
theorem greatest_in (hN : NewSpec 28) (hP : PutSpec 12) (hS : SyncSpec 15) (hC : CrashSpec 17) (hG : GetSpec 19)
    (a : Option Addr) (n c : Nat) (l : List DAct) (w : World) (hr : Rg 5 w 0 w.heap.size a n (acts l)) (hn : n ≤ 140737488351232) (hin : ∀ (k : Nat) (x : DAct), l[k]? = some x → x.In) (hsl : slimL l = true) :
    Calls Try.prog 9 #[.slice a n c] w fun e w' => e = .returned (.bool true) ∧ Below w.heap.size w w' := by
  have g0 := greatA_walk w.heap.size a n c l w hr (Nat.le_refl _) hn
  rw [hsl] at g0
  have HL := Lib.hid (acts_len hr)
  have HI := Lib.hid hin
  have HSL := Lib.hid hsl
  have hgd : Try.prog.eqGuardType Try.prog.depth 35 = false := by kernel_rfl
  clear hin hsl
  go_enter Try.func9, Try.ntmps9
  go_wp2_with fail
  refine g0.mono ?_
  rintro e w1 ⟨rfl, hb1⟩
  clear g0
  have n0 := hN w1
  go_wp2_with fail
  refine n0.mono ?_
  rintro e w2 ⟨_, rfl, Dn, hb2, _⟩
  clear n0
  obtain ⟨da, dl, dc, da', dl', dc', rfl, _⟩ := id Dn
  obtain ⟨w3, e3, hb3, B3, hz3⟩ := box_new w2 24 (.slice da dl dc) (.slice da' dl' dc')
  have HB := (hb1.trans (hb2.mono hb1.size)).trans (hb3.mono (Nat.le_trans hb1.size hb2.size))
  have hlP : w.heap.size ≤ w2.heap.size := Nat.le_trans hb1.size hb2.size
  obtain ⟨Z, hZ⟩ : ∃ Z, Z = (secs newD.now).toArray := ⟨_, rfl⟩
  have hzr : ∀ W, (zeroValue 54).run Try.prog W = .ok (.agg Z) W := by rw [hZ]; exact run_zero_arr
  have k4 : Arr (w3.alloc (.cells Z 54)) w3.heap.size 54 newD.now := by rw [hZ]; exact heap_alloc_new w3 _
  clear hZ
  obtain ⟨w4, e4⟩ : ∃ W, w3.alloc (.cells Z 54) = W := ⟨_, rfl⟩
  have hb4 : Below w3.heap.size w3 w4 := e4 ▸ (Below.refl _ _).alloc (Nat.le_refl _) _
  rw [e4] at k4
  have HB4 := HB.trans (hb4.mono HB.size)
  have nePQ : w2.heap.size ≠ w3.heap.size := fun h => absurd (h ▸ B3.1) (Nat.lt_irrefl _)
  have hlQ : w.heap.size ≤ w3.heap.size := HB.size
  have av : Avo w3.heap.size (.agg #[.slice da dl dc, .slice da' dl' dc']) := Dn.avo rfl rfl hb3.size
  have hR : GrR2 w w2.heap.size w3.heap.size 54 (runG l 0) w4 := ⟨HB4, _, _, _, _, _, _, B3.far hb4, (Dn.on hb3).on hb4, av, k4⟩
  have HR := Lib.hid hr
  clear hb1 hb2 hb3 hb4 B3 Dn HB HB4 k4 hr av
  go_wp2
  go_loopw [18] (fun i wr => ∃ k : Nat, k ≤ n ∧ i = .int .i64 k ∧ GrR2 w w2.heap.size w3.heap.size 54 (runG l k) wr) (fun i _ => n - (intOf i).toNat)
  case atStart => exact ⟨0, Nat.zero_le _, rfl, hR⟩
  case round =>
    obtain ⟨k, hk, rfl, HB, ba, bl, bc, ba', bl', bc', Bx, Dd, av0, hA⟩ := hrel
    by_cases hlt : k < n
    · obtain ⟨x, hx⟩ : ∃ x, l[k]? = some x := ⟨_, List.getElem?_eq_getElem (by rw [HL.out]; exact hlt)⟩
      obtain ⟨g, o, rfl, _, _, hc⟩ := (HR.out.far HB).addr (by omega)
      obtain ⟨c0, c1, c2, c3, c4⟩ := acts_cell hc hx
      have HE := Lib.hid (runG_succ hx)
      have HXI := Lib.hid (HI.out k x hx)
      have hxb := slim_at HSL.out hx
      obtain ⟨w5, e5, hbx, B5⟩ := box5_new wr 47 (.int .i64 x.k) (.int .i64 x.s) (.int .i64 x.n) (.string x.b) (.int .u64 x.lost)
      have HB5 := HB.trans (hbx.mono HB.size)
      have Bx5 := Bx.far hbx
      have Dd5 := Dd.on hbx
      have hAlt := hA.lt
      have hA5 := hA.far hbx
      obtain ⟨_, p0, p1, _, _⟩ := id Bx5
      obtain ⟨_, y0, y1, y2, y3, y4⟩ := id B5
      have HOK := Lib.hid (runG_ok l k)
      have neQA : w3.heap.size ≠ wr.heap.size := fun h => absurd (h ▸ hAlt) (Nat.lt_irrefl _)
      clear hc hx hR Bx Dd hA hAlt
      by_cases h2 : x.k = 2
      · have v1 : (x.k == 2) = true := by simpa using h2
        have hR' : GrR2 w w2.heap.size w3.heap.size 54 (runG l (k + 1)) w5 := by
          rw [HE.out]
          unfold gre
          rw [if_pos h2]
          exact ⟨HB5, _, _, _, _, _, _, Bx5, Dd5, av0, hA5⟩
        clear h2 HB5 Bx5 Dd5 hA5 B5 hbx HB
        go_wp2
        go_roundw
        case rel => exact ⟨k + 1, by omega, by go_num, hR'⟩
        case measure => simp [intOf]; omega
      · have v1 : (x.k == 2) = false := by simpa using h2
        obtain ⟨_, i1, i2, i3, i4⟩ := HXI.out
        have nn := hP w5.heap.size _ (runG l k) x.s x.n x.b w5 Dd5 (Nat.le_refl _) (chk_small HOK.out) i1 i2 (by omega)
        have HV := Lib.hid (show gre (runG l k) x = doD (runG l k) x by unfold gre; rw [if_neg h2])
        have HH2 := Lib.hid h2
        clear h2 HB hbx
        rcases hp : putOk (runG l k) x.s x.n x.b with _ | _
        · have E := show putF (runG l k) x.s x.n x.b = (none_, 2) by unfold putF; rw [hp]; rfl
          have HNOW := Lib.hid (do_now_no HH2.out (.inl hp))
          by_cases h0 : x.k = 0
          · have v2 : (x.k == 0) = true := by simpa using h0
            clear hp h0
            rw [E] at nn
            go_wp2_with fail
            refine nn.mono ?_
            rintro e w6 ⟨_, rfl, Dp, hb6, _⟩
            obtain ⟨pa, pl, pc, pa', pl', pc', rfl, _⟩ := id Dp
            have HB6 := HB5.trans (hb6.mono HB5.size)
            obtain ⟨w7, e7, hb7, B7, _⟩ := box_new w6 24 (.slice pa pl pc) (.slice pa' pl' pc')
            have HB7 := HB6.trans (hb7.mono HB6.size)
            have Bx7 := (Bx5.far hb6).far hb7
            have B57 := (B5.far hb6).far hb7
            have Dd7 := (Dd5.on hb6).on hb7
            have hA7 := (hA5.far hb6).far hb7
            obtain ⟨_, r0, r1, _, _⟩ := id Bx7
            obtain ⟨_, z0, z1, z2, z3, z4⟩ := id B57
            clear nn p0 p1 y0 y1 y2 y3 y4 e5 HB5 Bx5 B5 Dd5 hA5 Dp hb6 hb7 HB6 B7 E
            go_wp2
            go_quiet (fail)
            have bd := below_drewN w7 nq w7.heap.size
            obtain ⟨w8, e8⟩ : ∃ W, w7.drewN nq = W := ⟨_, rfl⟩
            rw [e8] at bd
            have hA8 := hA7.far bd
            have HB8 := HB7.trans (bd.mono HB7.size)
            have Bx8 := Bx7.far bd
            have B58 := B57.far bd
            have Dd8 := Dd7.on bd
            have hl8 : w3.heap.size < w8.heap.size := hA8.lt
            obtain ⟨_, s0, s1, s2, s3⟩ := id Bx8
            obtain ⟨_, t0, t1, t2, t3, t4⟩ := id B58
            have nd := do_walk hP hS hC _ (runG l k) x w8 Dd8 (chk_small HOK.out) HXI.out (by omega)
            simp only [DAct.val] at nd
            clear r0 r1 z0 z1 z2 z3 z4
            clear Bx7 B57 Dd7 hA7 HB7 bd
            go_wp2_with fail
            refine nd.mono ?_
            rintro e w9 ⟨_, rfl, Du, hb9, hav⟩
            obtain ⟨ua, ul, uc, ua', ul', uc', rfl, _⟩ := id Du
            have av1 := hav w3.heap.size hl8 av0
            have HB9 := HB8.trans (hb9.mono HB8.size)
            have Bx9 := Bx8.far hb9
            have hA9 := hA8.far hb9
            obtain ⟨_, q0, q1, q2, q3⟩ := id Bx9
            obtain ⟨wf, ef, Bf, hzf, ko, kd, kb⟩ := Bx9.put (isSl _ _ _) (isSl _ _ _) (.slice ua ul uc) (.slice ua' ul' uc')
            have hAf : Arr wf w3.heap.size 54 (doD (runG l k) x).now := by
              rw [HNOW.out, ← ef]
              exact (hA9.other (p := ⟨w2.heap.size, 0, none⟩) (Ne.symm nePQ) _).other (p := ⟨w2.heap.size, 1, none⟩) (Ne.symm nePQ) _
            have hR' : GrR2 w w2.heap.size w3.heap.size 54 (runG l (k + 1)) wf := by
              rw [HE.out, HV.out]
              exact ⟨kb w hlP HB9, ua, ul, uc, ua', ul', uc', Bf, (kd _ _ _ _ Du).wide (Nat.le_refl _) (Nat.le_of_eq hzf.symm), av1, hAf⟩
            clear nd s0 s1 s2 s3 t0 t1 t2 t3 t4 Bx8 B58 Dd8 hA8 HB8 hb9 HB9 Bx9 hA9 Bf ko kd kb hzf hAf Du hav av1 hl8
            go_wp2
            go_roundw
            case rel => exact ⟨k + 1, by omega, by go_num, hR'⟩
            case measure => simp [intOf]; omega
          · have v2 : (x.k == 0) = false := by simpa using h0
            clear hp h0
            rw [E] at nn
            go_wp2_with fail
            refine nn.mono ?_
            rintro e w6 ⟨_, rfl, Dp, hb6, _⟩
            obtain ⟨pa, pl, pc, pa', pl', pc', rfl, _⟩ := id Dp
            have HB6 := HB5.trans (hb6.mono HB5.size)
            obtain ⟨w7, e7, hb7, B7, _⟩ := box_new w6 24 (.slice pa pl pc) (.slice pa' pl' pc')
            have HB7 := HB6.trans (hb7.mono HB6.size)
            have Bx7 := (Bx5.far hb6).far hb7
            have B57 := (B5.far hb6).far hb7
            have Dd7 := (Dd5.on hb6).on hb7
            have hA7 := (hA5.far hb6).far hb7
            obtain ⟨_, r0, r1, _, _⟩ := id Bx7
            obtain ⟨_, z0, z1, z2, z3, z4⟩ := id B57
            clear nn p0 p1 y0 y1 y2 y3 y4 e5 HB5 Bx5 B5 Dd5 hA5 Dp hb6 hb7 HB6 B7 E
            go_wp2
            go_quiet (fail)
            have bd := below_drewN w7 nq w7.heap.size
            obtain ⟨w8, e8⟩ : ∃ W, w7.drewN nq = W := ⟨_, rfl⟩
            rw [e8] at bd
            have hA8 := hA7.far bd
            have HB8 := HB7.trans (bd.mono HB7.size)
            have Bx8 := Bx7.far bd
            have B58 := B57.far bd
            have Dd8 := Dd7.on bd
            have hl8 : w3.heap.size < w8.heap.size := hA8.lt
            obtain ⟨_, s0, s1, s2, s3⟩ := id Bx8
            obtain ⟨_, t0, t1, t2, t3, t4⟩ := id B58
            have nd := do_walk hP hS hC _ (runG l k) x w8 Dd8 (chk_small HOK.out) HXI.out (by omega)
            simp only [DAct.val] at nd
            clear r0 r1 z0 z1 z2 z3 z4
            clear Bx7 B57 Dd7 hA7 HB7 bd
            go_wp2_with fail
            refine nd.mono ?_
            rintro e w9 ⟨_, rfl, Du, hb9, hav⟩
            obtain ⟨ua, ul, uc, ua', ul', uc', rfl, _⟩ := id Du
            have av1 := hav w3.heap.size hl8 av0
            have HB9 := HB8.trans (hb9.mono HB8.size)
            have Bx9 := Bx8.far hb9
            have hA9 := hA8.far hb9
            obtain ⟨_, q0, q1, q2, q3⟩ := id Bx9
            obtain ⟨wf, ef, Bf, hzf, ko, kd, kb⟩ := Bx9.put (isSl _ _ _) (isSl _ _ _) (.slice ua ul uc) (.slice ua' ul' uc')
            have hAf : Arr wf w3.heap.size 54 (doD (runG l k) x).now := by
              rw [HNOW.out, ← ef]
              exact (hA9.other (p := ⟨w2.heap.size, 0, none⟩) (Ne.symm nePQ) _).other (p := ⟨w2.heap.size, 1, none⟩) (Ne.symm nePQ) _
            have hR' : GrR2 w w2.heap.size w3.heap.size 54 (runG l (k + 1)) wf := by
              rw [HE.out, HV.out]
              exact ⟨kb w hlP HB9, ua, ul, uc, ua', ul', uc', Bf, (kd _ _ _ _ Du).wide (Nat.le_refl _) (Nat.le_of_eq hzf.symm), av1, hAf⟩
            clear nd s0 s1 s2 s3 t0 t1 t2 t3 t4 Bx8 B58 Dd8 hA8 HB8 hb9 HB9 Bx9 hA9 Bf ko kd kb hzf hAf Du hav av1 hl8
            go_wp2
            go_roundw
            case rel => exact ⟨k + 1, by omega, by go_num, hR'⟩
            case measure => simp [intOf]; omega
        · have E := show putF (runG l k) x.s x.n x.b = (putD (runG l k) x.s.toNat x.n x.b, 0) by unfold putF; rw [hp]; rfl
          by_cases h0 : x.k = 0
          · have v2 : (x.k == 0) = true := by simpa using h0
            have ha := of_decide_eq_true (Bool.and_eq_true_iff.1 hp).2
            obtain ⟨so, hs⟩ := Int.eq_ofNat_of_zero_le ha.1
            have hlen := rowB_length (chkB_parts HOK.out).1
            have h33 : so < 33 := by omega
            have h34 : (so : Int) < 33 := by omega
            have hs0 : so < (runG l k).now.length := by omega
            obtain ⟨z, hz⟩ : ∃ z, (runG l k).now[so]? = some z := ⟨_, List.getElem?_eq_getElem hs0⟩
            have ht : x.s.toNat = so := by omega
            rw [ht] at E
            rw [hs] at y1 B5
            have HD := Lib.hid (show (doD (runG l k) x).now = (if z.n < x.n then (runG l k).now.set so ⟨x.n, x.b⟩ else (runG l k).now) by
              unfold doD putD
              rw [if_pos h0, if_pos hp, ht, hz]
              simp only [Option.getD_some]
              split <;> rfl)
            have HS := Lib.hid hs
            have HP := Lib.hid hp
            clear hp h0 ha hlen ht
            rw [E, hs] at nn
            clear hs
            go_wp2_with fail
            refine nn.mono ?_
            rintro e w6 ⟨_, rfl, Dp, hb6, _⟩
            obtain ⟨pa, pl, pc, pa', pl', pc', rfl, _⟩ := id Dp
            have HB6 := HB5.trans (hb6.mono HB5.size)
            obtain ⟨w7, e7, hb7, B7, _⟩ := box_new w6 24 (.slice pa pl pc) (.slice pa' pl' pc')
            have HB7 := HB6.trans (hb7.mono HB6.size)
            have Bx7 := (Bx5.far hb6).far hb7
            have B57 := (B5.far hb6).far hb7
            have Dd7 := (Dd5.on hb6).on hb7
            have hA7 := (hA5.far hb6).far hb7
            obtain ⟨_, r0, r1, _, _⟩ := id Bx7
            obtain ⟨_, z0, z1, z2, z3, z4⟩ := id B57
            clear nn p0 p1 y0 y1 y2 y3 y4 e5 HB5 Bx5 B5 Dd5 hA5 Dp hb6 hb7 HB6 B7 E
            obtain ⟨m0, m1⟩ := hA7.cell hz
            rw [hz3] at m0 m1
            go_wp2
            by_cases hgt : z.n < x.n
            · have v3 : (z.n < x.n) = True := by simpa using hgt
              have v4 : decide (z.n < x.n) = true := by simpa using hgt
              go_quiet (fail)
              have HNOW := Lib.hid (HD.out.trans (if_pos hgt))
              obtain ⟨i0, hi0, hy0, _, _⟩ := info_parts info_sec
              have f0 := hA7.frozen (so * 2)
              have f1 := hA7.frozen (so * 2 + 1)
              rw [hz3] at f0 f1
              clear hgt HD
              go_wp2_with fail
              have bd := below_drewN w7 nq w7.heap.size
              obtain ⟨w8, e8, hA8, hB8, hk8, hd8⟩ := (hA7.far bd).putW hs0 ⟨x.n, x.b⟩
              have HB8 := hB8 w hlQ (HB7.trans (bd.mono HB7.size))
              have Bx8 := hk8 _ _ _ (Ne.symm nePQ) (Bx7.far bd)
              have Dd8 := hd8 _ _ (av0) (Dd7.on bd)
              have T8 := B57.far bd
              have B58 := T8.putW neQA e8
              rw [hz3] at e8
              simp only at e8
              rw [e8]
              clear hB8 hk8 hd8 T8 m0 m1 f0 f1 z0 z1 z2 z3 z4 r0 r1
              have hl8 : w3.heap.size < w8.heap.size := hA8.lt
              obtain ⟨_, s0, s1, s2, s3⟩ := id Bx8
              obtain ⟨_, t0, t1, t2, t3, t4⟩ := id B58
              have nd := do_walk hP hS hC _ (runG l k) x w8 Dd8 (chk_small HOK.out) HXI.out (by omega)
              simp only [DAct.val, HS.out] at nd
              clear Bx7 B57 Dd7 hA7 HB7 bd
              refine nd.mono ?_
              rintro e w9 ⟨_, rfl, Du, hb9, hav⟩
              obtain ⟨ua, ul, uc, ua', ul', uc', rfl, _⟩ := id Du
              have av1 := hav w3.heap.size hl8 av0
              have HB9 := HB8.trans (hb9.mono HB8.size)
              have Bx9 := Bx8.far hb9
              have hA9 := hA8.far hb9
              obtain ⟨_, q0, q1, q2, q3⟩ := id Bx9
              obtain ⟨wf, ef, Bf, hzf, ko, kd, kb⟩ := Bx9.put (isSl _ _ _) (isSl _ _ _) (.slice ua ul uc) (.slice ua' ul' uc')
              have hAf : Arr wf w3.heap.size 54 (doD (runG l k) x).now := by
                rw [HNOW.out, ← ef]
                exact (hA9.other (p := ⟨w2.heap.size, 0, none⟩) (Ne.symm nePQ) _).other (p := ⟨w2.heap.size, 1, none⟩) (Ne.symm nePQ) _
              have hR' : GrR2 w w2.heap.size w3.heap.size 54 (runG l (k + 1)) wf := by
                rw [HE.out, HV.out]
                exact ⟨kb w hlP HB9, ua, ul, uc, ua', ul', uc', Bf, (kd _ _ _ _ Du).wide (Nat.le_refl _) (Nat.le_of_eq hzf.symm), av1, hAf⟩
              clear nd s0 s1 s2 s3 t0 t1 t2 t3 t4 Bx8 B58 Dd8 hA8 HB8 hb9 HB9 Bx9 hA9 Bf ko kd kb hzf hAf Du hav av1 hl8
              go_wp2
              go_roundw
              case rel => exact ⟨k + 1, by omega, by go_num, hR'⟩
              case measure => simp [intOf]; omega
            · have v3 : (z.n < x.n) = False := by simpa using hgt
              have v4 : decide (z.n < x.n) = false := by simpa using hgt
              go_quiet (fail)
              have HNOW := Lib.hid (HD.out.trans (if_neg hgt))
              clear hgt HD m0 m1
              have bd := below_drewN w7 nq w7.heap.size
              obtain ⟨w8, e8⟩ : ∃ W, w7.drewN nq = W := ⟨_, rfl⟩
              rw [e8] at bd
              have hA8 := hA7.far bd
              have HB8 := HB7.trans (bd.mono HB7.size)
              have Bx8 := Bx7.far bd
              have B58 := B57.far bd
              have Dd8 := Dd7.on bd
              have hl8 : w3.heap.size < w8.heap.size := hA8.lt
              obtain ⟨_, s0, s1, s2, s3⟩ := id Bx8
              obtain ⟨_, t0, t1, t2, t3, t4⟩ := id B58
              have nd := do_walk hP hS hC _ (runG l k) x w8 Dd8 (chk_small HOK.out) HXI.out (by omega)
              simp only [DAct.val, HS.out] at nd
              clear r0 r1 z0 z1 z2 z3 z4
              clear Bx7 B57 Dd7 hA7 HB7 bd
              go_wp2_with fail
              refine nd.mono ?_
              rintro e w9 ⟨_, rfl, Du, hb9, hav⟩
              obtain ⟨ua, ul, uc, ua', ul', uc', rfl, _⟩ := id Du
              have av1 := hav w3.heap.size hl8 av0
              have HB9 := HB8.trans (hb9.mono HB8.size)
              have Bx9 := Bx8.far hb9
              have hA9 := hA8.far hb9
              obtain ⟨_, q0, q1, q2, q3⟩ := id Bx9
              obtain ⟨wf, ef, Bf, hzf, ko, kd, kb⟩ := Bx9.put (isSl _ _ _) (isSl _ _ _) (.slice ua ul uc) (.slice ua' ul' uc')
              have hAf : Arr wf w3.heap.size 54 (doD (runG l k) x).now := by
                rw [HNOW.out, ← ef]
                exact (hA9.other (p := ⟨w2.heap.size, 0, none⟩) (Ne.symm nePQ) _).other (p := ⟨w2.heap.size, 1, none⟩) (Ne.symm nePQ) _
              have hR' : GrR2 w w2.heap.size w3.heap.size 54 (runG l (k + 1)) wf := by
                rw [HE.out, HV.out]
                exact ⟨kb w hlP HB9, ua, ul, uc, ua', ul', uc', Bf, (kd _ _ _ _ Du).wide (Nat.le_refl _) (Nat.le_of_eq hzf.symm), av1, hAf⟩
              clear nd s0 s1 s2 s3 t0 t1 t2 t3 t4 Bx8 B58 Dd8 hA8 HB8 hb9 HB9 Bx9 hA9 Bf ko kd kb hzf hAf Du hav av1 hl8
              go_wp2
              go_roundw
              case rel => exact ⟨k + 1, by omega, by go_num, hR'⟩
              case measure => simp [intOf]; omega
          · have v2 : (x.k == 0) = false := by simpa using h0
            have HNOW := Lib.hid (do_now_no (d := runG l k) HH2.out (.inr h0))
            clear hp h0
            rw [E] at nn
            go_wp2_with fail
            refine nn.mono ?_
            rintro e w6 ⟨_, rfl, Dp, hb6, _⟩
            obtain ⟨pa, pl, pc, pa', pl', pc', rfl, _⟩ := id Dp
            have HB6 := HB5.trans (hb6.mono HB5.size)
            obtain ⟨w7, e7, hb7, B7, _⟩ := box_new w6 24 (.slice pa pl pc) (.slice pa' pl' pc')
            have HB7 := HB6.trans (hb7.mono HB6.size)
            have Bx7 := (Bx5.far hb6).far hb7
            have B57 := (B5.far hb6).far hb7
            have Dd7 := (Dd5.on hb6).on hb7
            have hA7 := (hA5.far hb6).far hb7
            obtain ⟨_, r0, r1, _, _⟩ := id Bx7
            obtain ⟨_, z0, z1, z2, z3, z4⟩ := id B57
            clear nn p0 p1 y0 y1 y2 y3 y4 e5 HB5 Bx5 B5 Dd5 hA5 Dp hb6 hb7 HB6 B7 E
            go_wp2
            go_quiet (fail)
            have bd := below_drewN w7 nq w7.heap.size
            obtain ⟨w8, e8⟩ : ∃ W, w7.drewN nq = W := ⟨_, rfl⟩
            rw [e8] at bd
            have hA8 := hA7.far bd
            have HB8 := HB7.trans (bd.mono HB7.size)
            have Bx8 := Bx7.far bd
            have B58 := B57.far bd
            have Dd8 := Dd7.on bd
            have hl8 : w3.heap.size < w8.heap.size := hA8.lt
            obtain ⟨_, s0, s1, s2, s3⟩ := id Bx8
            obtain ⟨_, t0, t1, t2, t3, t4⟩ := id B58
            have nd := do_walk hP hS hC _ (runG l k) x w8 Dd8 (chk_small HOK.out) HXI.out (by omega)
            simp only [DAct.val] at nd
            clear r0 r1 z0 z1 z2 z3 z4
            clear Bx7 B57 Dd7 hA7 HB7 bd
            go_wp2_with fail
            refine nd.mono ?_
            rintro e w9 ⟨_, rfl, Du, hb9, hav⟩
            obtain ⟨ua, ul, uc, ua', ul', uc', rfl, _⟩ := id Du
            have av1 := hav w3.heap.size hl8 av0
            have HB9 := HB8.trans (hb9.mono HB8.size)
            have Bx9 := Bx8.far hb9
            have hA9 := hA8.far hb9
            obtain ⟨_, q0, q1, q2, q3⟩ := id Bx9
            obtain ⟨wf, ef, Bf, hzf, ko, kd, kb⟩ := Bx9.put (isSl _ _ _) (isSl _ _ _) (.slice ua ul uc) (.slice ua' ul' uc')
            have hAf : Arr wf w3.heap.size 54 (doD (runG l k) x).now := by
              rw [HNOW.out, ← ef]
              exact (hA9.other (p := ⟨w2.heap.size, 0, none⟩) (Ne.symm nePQ) _).other (p := ⟨w2.heap.size, 1, none⟩) (Ne.symm nePQ) _
            have hR' : GrR2 w w2.heap.size w3.heap.size 54 (runG l (k + 1)) wf := by
              rw [HE.out, HV.out]
              exact ⟨kb w hlP HB9, ua, ul, uc, ua', ul', uc', Bf, (kd _ _ _ _ Du).wide (Nat.le_refl _) (Nat.le_of_eq hzf.symm), av1, hAf⟩
            clear nd s0 s1 s2 s3 t0 t1 t2 t3 t4 Bx8 B58 Dd8 hA8 HB8 hb9 HB9 Bx9 hA9 Bf ko kd kb hzf hAf Du hav av1 hl8
            go_wp2
            go_roundw
            case rel => exact ⟨k + 1, by omega, by go_num, hR'⟩
            case measure => simp [intOf]; omega
    · have hkn : k = n := by omega
      subst hkn
      clear hlt hk hR HR HI HSL
      go_wp2
      go_loopw [75] (fun i wr => ∃ j : Nat, j ≤ 33 ∧ i = .int .i64 j ∧ GrR2 w w2.heap.size w3.heap.size 54 (runG l k) wr) (fun i _ => 33 - (intOf i).toNat)
      case atStart => exact ⟨0, Nat.zero_le _, rfl, HB, _, _, _, _, _, _, Bx, Dd, av0, hA⟩
      case round =>
        clear Bx Dd hA HB av0
        obtain ⟨j, hj, rfl, HB, ba, bl, bc, ba', bl', bc', Bx, Dd, av0, hA⟩ := hrel
        by_cases hlt : j < 33
        · have hlen := rowB_length (chkB_parts (runG_ok l k)).1
          obtain ⟨z, hz⟩ : ∃ z, (runG l k).now[j]? = some z := ⟨_, List.getElem?_eq_getElem (by omega)⟩
          have nn := hG wr.heap.size _ (runG l k) j wr Dd (Nat.le_refl _) (chk_small (runG_ok l k)) (by unfold I64; omega)
          have E : getF (runG l k) (j : Int) = (z, 0) := by
            unfold getF getOk
            rw [runG_ok, decide_eq_true (show (0 : Int) ≤ j ∧ (j : Int) < 33 by omega)]
            simp [hz]
          rw [E] at nn
          simp only [Sec.val] at nn
          obtain ⟨_, p0, p1, _, _⟩ := id Bx
          clear E
          go_wp2_with fail
          refine nn.mono ?_
          rintro e w6 ⟨rfl, hb6⟩
          have HB6 := HB.trans (hb6.mono HB.size)
          obtain ⟨w7, e7, hb7, B7, _⟩ := box_new w6 35 (.int .i64 z.n) (.string z.b)
          have HB7 := HB6.trans (hb7.mono HB6.size)
          have hA7 := (hA.far hb6).far hb7
          obtain ⟨m0, m1⟩ := hA7.cell hz
          rw [hz3] at m0 m1
          have hneq := fun W => run_sec_neq z z W
          rw [secEq_iff.2 rfl] at hneq
          obtain ⟨_, z0, z1, _, _⟩ := id B7
          have h34 : (j : Int) < 33 := by omega
          have hcl2 := Lib.hid (fun n : Nat => (show GrR2 w w2.heap.size w3.heap.size 54 (runG l k) (w7.drewN n) from
            ⟨HB7.trans ((below_drewN w7 n w7.heap.size).mono HB7.size), _, _, _, _, _, _, ((Bx.far hb6).far hb7).far (below_drewN w7 n w7.heap.size), ((Dd.on hb6).on hb7).on (below_drewN w7 n w7.heap.size), av0, hA7.far (below_drewN w7 n w7.heap.size)⟩))
          clear nn p0 p1 Bx Dd hA HB HB6 HB7 hA7 hb6 hb7 B7 av0 hlen hz
          go_wp2
          go_quiet (fail)
          go_wp2
          go_roundw
          case rel => exact ⟨j + 1, by omega, by go_num, hcl2.out _⟩
          case measure => simp [intOf]; omega
        · obtain rfl : j = 33 := by omega
          have nn := wakes_walk hN hP hG hC wr
          clear Bx Dd hA av0
          go_wp2_with fail
          refine nn.mono ?_
          rintro e w9 ⟨rfl, hb9⟩
          go_wp2
          go_ret
          exact ⟨rfl, HB.trans (hb9.mono HB.size)⟩
theorem walkDiskGreatest (hN : NewSpec 28) (hP : PutSpec 12) (hS : SyncSpec 15) (hC : CrashSpec 17) (hG : GetSpec 19)
    (a : Option Addr) (n c : Nat) (l : List DAct) (w : World) (hr : Rg 5 w 0 w.heap.size a n (acts l)) (hn : n ≤ 140737488351232) (hin : ∀ (k : Nat) (x : DAct), l[k]? = some x → x.In) :
    Calls Try.prog 9 #[.slice a n c] w fun e w' => e = .returned (.bool true) ∧ Below w.heap.size w w' := by
  rcases hsl : slimL l with _ | _
  · have g0 := greatA_walk w.heap.size a n c l w hr (Nat.le_refl _) hn
    rw [hsl] at g0
    clear hsl hr hin
    go_enter Try.func9, Try.ntmps9
    go_wp2_with fail
    refine g0.mono ?_
    rintro e w1 ⟨rfl, hb1⟩
    have nn := wakes_walk hN hP hG hC w1
    clear g0
    go_wp2_with fail
    refine nn.mono ?_
    rintro e w2 ⟨rfl, hb2⟩
    go_wp2
    go_ret
    exact ⟨rfl, hb1.trans (hb2.mono hb1.size)⟩
  · exact greatest_in hN hP hS hC hG a n c l w hr hn hin hsl
end Go.Proofs.Ytjahhheipeggeaa
