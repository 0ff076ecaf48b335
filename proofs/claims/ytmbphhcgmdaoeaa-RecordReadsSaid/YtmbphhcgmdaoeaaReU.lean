/- What is proved: flumeref05's ReadState answers as the spec says. -/
import Derived.Test.YtmbphhcgmdaoeaaReV
import Derived.Test.YtmbphhcgmdaoeaaReK
import Derived.Test.YtmbphhcgmdaoeaaRvM
import Derived.Test.YtmbphhcgmdaoeaaRvN
import Derived.Deep.RegionLaw
import Derived.Deep.LoopGhost
import Derived.Deep.CutBlock
import Derived.Deep.DeepCutAuto
namespace Go.Proofs.Ytmbphhcgmdaoeaa
open Go.RowKit

set_option maxRecDepth 100000 in
set_option maxHeartbeats 12800000 in
theorem rsread_spec : ReadStateSpec 30 := by
  intro v xs w h hx hl
  obtain ⟨a, c, rfl, hnc, hcm, hr⟩ := id h
  obtain ⟨W1, E1, B1, X1, S1⟩ := Blk.new w 30 z8
  obtain ⟨W2, E2, B2, X2, S2⟩ := Blk.new W1 88 #[.slice a xs.length c, .int .i64 0, .bool false]
  obtain ⟨W3, E3, B3, X3, S3⟩ := Blk.new W2 30 z8
  have hPQ : w.heap.size < W1.heap.size := by omega
  have hQR : W1.heap.size < W2.heap.size := by omega
  have hrd : Rd w w.heap.size a xs.length (u8s xs) := Rd_of hr
  have hsx : SX w W3 w.heap.size W1.heap.size W2.heap.size a xs.length c 0 false z8 := ⟨(X1.far B2 (by omega)).far B3 (by omega), X2.far B3 (by omega), X3, (B1.trans (B2.mono (by omega))).trans (B3.mono (by omega)), hPQ, hQR⟩
  clear S1 S2 S3 X1 X2 X3
  have n1 := sx_num w W3 w.heap.size W1.heap.size W2.heap.size a xs c 0 false z8 3 hsx hrd (by decide) (by decide) hx hl (Nat.zero_le _)
  unfold z8 at E1 E3
  go_enter Try.func30, Try.ntmps30
  go_wp2_with fail
  refine n1.mono ?_
  rintro e w1 ⟨p, at1, sh1, rfl, sx1, g1, N1⟩
  have hat1 := N1.1
  have c1 : w1.cell? ⟨W2.heap.size, 0, none⟩ = some (.int .i64 0) := sx1.2.2.1.cell 0
  have f1 : w1.frozen? ⟨W2.heap.size, 0, none⟩ = false := sx1.2.2.1.free 0
  have sx2 := sx1.set 0 (.int .i64 p)
  have n2 := sx_num w _ w.heap.size W1.heap.size W2.heap.size a xs c at1 sh1 _ 1 sx2 hrd (by decide) (by decide) hx hl hat1
  clear n1 E1 E2 E3 B1 B2 B3
  go_wp2_with fail
  refine n2.mono ?_
  rintro e w2 ⟨n, at2, sh2, rfl, sx3, g2, N2⟩
  clear n2 c1 f1
  obtain ⟨hat2, hg2, hh2⟩ := head_two N1 N2
  have hnb := N2.2.1
  clear N1 N2
  go_upto_block 0 with fail
  obtain ⟨N, rfl⟩ := Int.eq_ofNat_of_zero_le hnb.1
  have hN : N < 256 := by omega
  obtain ⟨i0, hi, hz0, hz1, hz2⟩ := info_parts info_it'
  have hn5 : Hs xs → 5 * N ≤ (zI xs).length := fun H => by
    obtain ⟨⟨_, e, l⟩, _⟩ := hg2 (hh2 H)
    have := (hs_facts H).1
    rw [← e] at this
    omega
  have HI := Lib.hid (rowI_zero itStep hat2 hg2 hh2)
  clear hg2 hh2 hnb
  go_cut [7, 8, 9, 10] (fun _ _ _ _ wx => ∃ (k at_ : Nat) (sh : Bool) (v0 : Value) (its : List It), k ≤ N ∧ (sh = false → k = N) ∧ SX w wx w.heap.size W1.heap.size W2.heap.size a xs.length c at_ sh #[.int .i64 p, v0, .slice none 0 0, .slice none 0 0, .slice none 0 0, .int .i64 0, .int .i64 0, .int .i64 0] ∧ wx.ownsRow (W2.heap.size + 1) 51 3 v0 k (itC its) ∧ RowI (Hs xs) (p = (cutN 3 xs).1 ∧ (N : Int) = nI xs ∧ (zI xs).length + 4 = xs.length) xs (zI xs) itStep k at_ sh its)
  case first =>
    go_wp2_with fail
    go_loopw [7] (fun i wr => ∃ (k at_ : Nat) (sh : Bool) (v0 : Value) (its : List It), i = .int .i64 k ∧ k ≤ N ∧ SX w wr w.heap.size W1.heap.size W2.heap.size a xs.length c at_ sh #[.int .i64 p, v0, .slice none 0 0, .slice none 0 0, .slice none 0 0, .int .i64 0, .int .i64 0, .int .i64 0] ∧ wr.ownsRow (W2.heap.size + 1) 51 3 v0 k (itC its) ∧ RowI (Hs xs) (p = (cutN 3 xs).1 ∧ (N : Int) = nI xs ∧ (zI xs).length + 4 = xs.length) xs (zI xs) itStep k at_ sh its) (fun i _ => N - (intOf i).toNat)
    case atStart => exact ⟨0, at2, sh2, .slice none 0 0, [], rfl, Nat.zero_le _, sx3, World.ownsRow_nil _ _ _ 3, HI.out⟩
    case round =>
      clear sx3 HI
      obtain ⟨k, at_, sh, v0, its, rfl, hkN, sx, ho, hI⟩ := hrel
      have hat := hI.1
      by_cases hlt : k < N
      · have hki : (k : Int) < (N : Int) := by omega
        have y2 : wr.cell? ⟨W1.heap.size, 2, none⟩ = some (.bool sh) := sx.2.1.cell 2
        rcases sh with _ | _
        · have n1 := sx_num w wr w.heap.size W1.heap.size W2.heap.size a xs c at_ false _ 1 sx hrd (by decide) (by decide) hx hl hat
          have HH := Lib.hid hI
          clear hI
          go_wp2_with fail
          refine n1.mono ?_
          rintro e w1 ⟨z1, a1, s1, rfl, sx1, g1, N1⟩
          have n2 := sx_num w w1 w.heap.size W1.heap.size W2.heap.size a xs c a1 s1 _ 3 sx1 hrd (by decide) (by decide) hx hl N1.1
          have o1 := own_grown ho g1 (show W1.heap.size < W2.heap.size + 1 by omega)
          clear n1 y2 sx ho
          go_wp2_with fail
          refine n2.mono ?_
          rintro e w2' ⟨z2, a2, s2, rfl, sx2', g2, N2⟩
          have n3 := sx_num w w2' w.heap.size W1.heap.size W2.heap.size a xs c a2 s2 _ 1 sx2' hrd (by decide) (by decide) hx hl N2.1
          have o2 := own_grown o1 g2 (show W1.heap.size < W2.heap.size + 1 by omega)
          clear n2 sx1 o1
          go_wp2_with fail
          refine n3.mono ?_
          rintro e w4 ⟨z3, a3, s3, rfl, sx4, g3, N3⟩
          have o4 := own_grown o2 g3 (show W1.heap.size < W2.heap.size + 1 by omega)
          have HN := Lib.hid (rowI_next (x := (⟨z1, z2, z3⟩ : It)) HH.out hlt hn5 N3.1 (fun ys e => it_three e N1 N2 N3) (fun ys e => itStep_len5 k ys e))
          have b1 := N1.2.1
          have b2 := N2.2.1
          have b3 := N3.2.1
          have c1 : w4.cell? ⟨W2.heap.size, 1, none⟩ = some v0 := sx4.2.2.1.cell 1
          clear n3 sx2' o2 HH N1 N2 N3 g1 g2 g3 hat
          go_wp2_with (at_builtin; refine wpList_append_base _ rfl (.tmp 44) (.tmp 49) _ rfl (W2.heap.size + 1) i0 (.agg #[.int .i64 0, .int .i64 0, .int .i64 0]) 3 24 Try.underlying25 hi hz0 hz1 hz2 rfl (by decide) rfl (World.ownsRow.alloc o4 _) rfl (news := [.int .i64 z1, .int .i64 z2, .int .i64 z3]) (by rfl) (fun j u hu => by rw [Addr.add_lit, Nat.zero_add]; exact (cell_of_row _ _ j _ _ _ (heap_alloc_new w4 _)).trans (by simpa using hu)) (by simp [Value.oneCell']) (by unfold maxLen; omega) (by omega) (by have := sx4.lt; simp; omega) ?_; intro v5 w5 o5 g5 _; obtain ⟨g6, c6, rfl, hb6, _⟩ := own_at o5 (by omega); have sx5 := (sx4.alloc _).grow g5 (fun j e => by have := o4.lt j e; omega); have t0 : w5.cell? ⟨W2.heap.size, 1, none⟩ = some v0 := sx5.2.2.1.cell 1; have t1 : w5.frozen? ⟨W2.heap.size, 1, none⟩ = false := sx5.2.2.1.free 1)
          have sx6 := sx5.set 1 (.slice (some ⟨g6, 0, none⟩) (k + 1) c6)
          have o6 : (w5.setCell ⟨W2.heap.size, 1, none⟩ (.slice (some ⟨g6, 0, none⟩) (k + 1) c6)).ownsRow (W2.heap.size + 1) 51 3 (.slice (some ⟨g6, 0, none⟩) (k + 1) c6) (k + 1) (itC (its ++ [⟨z1, z2, z3⟩])) := by
            rw [show itC (its ++ [⟨z1, z2, z3⟩]) = itC its ++ [.int .i64 z1, .int .i64 z2, .int .i64 z3] by simp [itC, It.cells]]
            exact own_setS o5 (show W2.heap.size < W2.heap.size + 1 by omega) _
          go_roundw
          case rel => exact ⟨k + 1, a3, s3, _, _, by go_num, by omega, sx6, o6, HN.out⟩
          case measure => simp [intOf]; omega
        · go_wp2_with fail
          go_meet
          exact ⟨k, at_, true, v0, its, hkN, fun h => absurd h (by decide), sx, ho, hI⟩
      · obtain rfl : k = N := by omega
        go_wp2_with fail
        go_meet
        exact ⟨k, at_, sh, v0, its, Nat.le_refl _, fun _ => rfl, sx, ho, hI⟩
  case rest =>
    clear sx3 HI
    obtain ⟨k, at_, sh, v0, its, hkN, hend, sx, ho, hI⟩ := hcut
    obtain ⟨j0, hj, jz0, jz1, jz2⟩ := info_parts info_ln'
    have hie := items_end hI hend
    have hsl : Sl 3 wc (W2.heap.size + 1) wc.heap.size v0 its.length (itC its) := by
      rw [hI.2.1]
      exact Rg.own ho
    have hst : StX w wc w.heap.size W1.heap.size W2.heap.size a c xs p v0 its 0 := ⟨at_, sh, _, _, _, 0, 0, 0, [], [], [], sx, hsl, Sl.nil _ _ _ _, Sl.nil _ _ _ _, Sl.nil _ _ _ _, fun _ => rfl, fun _ => rfl, fun _ => rfl, hI.1, fun e => ⟨⟨(hie e).1, fun e => absurd e (by decide), fun e => absurd e (by decide), fun e => absurd e (by decide)⟩, by rw [remS_0]; exact (hie e).2⟩, hI.2.2.2⟩
    clear hie hsl sx ho hI hend hn5 hi hz0 hz1 hz2
    go_wp2_with fail
    go_loopw [11] (fun i wr => ∃ q : Int, (0 ≤ q ∧ q ≤ 3) ∧ i = .int .i64 q ∧ StX w wr w.heap.size W1.heap.size W2.heap.size a c xs p v0 its q) (fun i _ => 3 - (intOf i).toNat)
    case atStart => exact ⟨0, by decide, rfl, hst⟩
    case round =>
      clear hst
      obtain ⟨q, hq, rfl, at_, sh, u0, u1, u2, d0, d1, d2, l0, l1, l2, sx, hv, hs0, hs1, hs2, hn0, hn1, hn2, hat, hok, hH⟩ := hrel
      obtain rfl | rfl | rfl | rfl : q = 0 ∨ q = 1 ∨ q = 2 ∨ q = 3 := by omega
      · obtain rfl : u0 = .slice none 0 0 := hn0 (by decide)
        rw [remS_0] at hok
        have hPH : Hs xs → PartH (lenI xs).2 := fun H => (hs_facts H).2.1
        have n1 := sx_num w wr w.heap.size W1.heap.size W2.heap.size a xs c at_ sh _ 3 sx hrd (by decide) (by decide) hx hl hat
        have hlt0 := sx.lt
        go_wp2_with fail
        refine n1.mono ?_
        rintro e w1 ⟨d, a1, s1, rfl, sx1, g1, N1⟩
        have c1 : w1.cell? ⟨W2.heap.size, 5, none⟩ = some (.int .i64 d0) := sx1.2.2.1.cell 5
        have f1 : w1.frozen? ⟨W2.heap.size, 5, none⟩ = false := sx1.2.2.1.free 5
        have sx2 := sx1.set 5 (.int .i64 d)
        have n2 := sx_num w _ w.heap.size W1.heap.size W2.heap.size a xs c a1 s1 _ 1 sx2 hrd (by decide) (by decide) hx hl N1.1
        have z1 := g1.size
        clear n1
        go_wp2_with fail
        refine n2.mono ?_
        rintro e w2' ⟨n, a2, s2, rfl, sx3, g2, N2⟩
        have n3 := sx_num w w2' w.heap.size W1.heap.size W2.heap.size a xs c a2 s2 _ 3 sx3 hrd (by decide) (by decide) hx hl N2.1
        have z2 := g2.size
        have z2' : w1.heap.size ≤ w2'.heap.size := by simpa using z2
        clear n2 c1 f1
        go_wp2_with fail
        refine n3.mono ?_
        rintro e w8 ⟨f, a3, s3, rfl, sx4, g3, N3⟩
        have z3 := g3.size
        have hk8 : Kp (W2.heap.size + 1) wr.heap.size wr w8 := ((((Kp.refl _ _ wr).grow g1 (Nat.le_refl _) (fun k e => by cases e; left; omega)).set (p := ⟨W2.heap.size, 5, none⟩) (show W2.heap.size < W2.heap.size + 1 from Nat.lt_succ_self _) (.int .i64 d)).grow g2 (by simp; omega) (fun k e => by cases e; left; omega)).grow g3 (by omega) (fun k e => by cases e; left; omega)
        have hle8 : wr.heap.size ≤ w8.heap.size := by omega
        have hv8 := hv.on hk8 hle8
        have hA8 := hs1.on hk8 hle8
        have hB8 := hs2.on hk8 hle8
        obtain ⟨hat3, hg3, hh3⟩ := part_three hok hH hPH N1 N2 N3
        obtain ⟨M, rfl⟩ := Int.eq_ofNat_of_zero_le N2.2.1.1
        have hM : M < 256 := by have := N2.2.1.2; omega
        have hf : 0 ≤ f ∧ f < 16777216 := N3.2.1
        have hn5 : Hs xs → 5 * M ≤ (zL (lenI xs).2).length := fun H => by
          have := hs_five hPH hh3 (fun e => ⟨(hg3 e).1.2.2.1, (hg3 e).1.2.2.2.2⟩) H
          rwa [Int.toNat_natCast] at this
        have hbadf : (M : Int) = 0 → f ≠ 0 → ¬ Hs xs := fun h0 hf0 => part_bad hPH (fun e => (hg3 e).1) hh3 h0 hf0
        have hR8 := sx4.lt
        have HI := Lib.hid (show LnX w w8 w8 w.heap.size W1.heap.size W2.heap.size w8.heap.size a c xs (lenI xs).2 _ f M (fun u => #[.int .i64 p, v0, u, u1, u2, .int .i64 d, .int .i64 d1, .int .i64 d2]) 0 a3 s3 (.slice none 0 0) [] from ⟨Nat.zero_le _, sx4, World.ownsRow_nil _ _ _ 5, Kp.refl _ _ _, Nat.le_refl _, rowI_zero (lnStep f) hat3 hg3 hh3⟩)
        clear hk8 hle8 hv hs0 hs1 hs2 hok hH hPH N1 N2 N3 sx sx1 sx2 sx3 sx4 g1 g2 g3 n3 hg3 hh3 hat3 hat z1 z2 z2' z3 hlt0
        go_wp2_with fail
        go_loopw [13] (fun i wr => ∃ (k at_ : Nat) (sh : Bool) (u : Value) (ls : List Ln), i = .int .i64 k ∧ LnX w w8 wr w.heap.size W1.heap.size W2.heap.size w8.heap.size a c xs (lenI xs).2 (OkQ xs p its 0 d0 d1 d2 l0 l1 l2 ∧ d = (cutN 3 (lenI xs).2).1 ∧ (M : Int) = nL (lenI xs).2 ∧ f = fL (lenI xs).2 ∧ (zL (lenI xs).2).length + 7 = (lenI xs).2.length) f M (fun u => #[.int .i64 p, v0, u, u1, u2, .int .i64 d, .int .i64 d1, .int .i64 d2]) k at_ sh u ls) (fun i _ => M - (intOf i).toNat)
        case atStart => exact ⟨0, a3, s3, _, _, rfl, HI.out⟩
        case round =>
          clear HI
          obtain ⟨k, at_, sh, u, ls, rfl, hLn⟩ := hrel
          have HL := Lib.hid hLn
          obtain ⟨hkM, sx, ho, hkp, hle, hI⟩ := hLn
          by_cases hlt : k < M
          · have hki : (k : Int) < (M : Int) := by omega
            have y2 : wr.cell? ⟨W1.heap.size, 2, none⟩ = some (.bool sh) := sx.2.1.cell 2
            rcases sh with _ | _
            · have n1 := sx_num w wr w.heap.size W1.heap.size W2.heap.size a xs c at_ false _ 3 sx hrd (by decide) (by decide) hx hl hI.1
              have HH := Lib.hid hI
              clear hI HL
              go_wp2_with fail
              refine n1.mono ?_
              rintro e w1 ⟨z1, a1, s1, rfl, sx1, g1, N1⟩
              have n2 := sx_num w w1 w.heap.size W1.heap.size W2.heap.size a xs c a1 s1 _ 1 sx1 hrd (by decide) (by decide) hx hl N1.1
              have o1 := own_grown ho g1 (show W1.heap.size < w8.heap.size by omega)
              have k1 := hkp.grow g1 hle (fun k e => by cases e; left; omega)
              have e1 := Nat.le_trans hle g1.size
              clear n1 y2 sx ho hkp hle
              go_wp2_with fail
              refine n2.mono ?_
              rintro e w2' ⟨z2, a2, s2, rfl, sx2', g2, N2⟩
              have n3 := sx_num w w2' w.heap.size W1.heap.size W2.heap.size a xs c a2 s2 _ 1 sx2' hrd (by decide) (by decide) hx hl N2.1
              have o2 := own_grown o1 g2 (show W1.heap.size < w8.heap.size by omega)
              have k2 := k1.grow g2 e1 (fun k e => by cases e; left; omega)
              have e2 := Nat.le_trans e1 g2.size
              clear n2 sx1 o1 k1 e1
              go_wp2_with fail
              refine n3.mono ?_
              rintro e w4 ⟨z3, a3, s3, rfl, sx4, g3, N3⟩
              have o4 := own_grown o2 g3 (show W1.heap.size < w8.heap.size by omega)
              have k4 := k2.grow g3 e2 (fun k e => by cases e; left; omega)
              have e4 := Nat.le_trans e2 g3.size
              have HN := Lib.hid (rowI_next (x := (⟨f + k, z1, z2 % 16, z2 / 16, z3⟩ : Ln)) HH.out hlt hn5 N3.1 (fun ys e => ln_three e N1 N2 N3) (fun ys e => lnStep_len5 f k ys e))
              have b1 := N1.2.1
              have b2 := N2.2.1
              have b3 := N3.2.1
              have c1 : w4.cell? ⟨W2.heap.size, 2, none⟩ = some u := sx4.2.2.1.cell 2
              have r1 : IntKind.i64.wrap (f + (k : Int)) = f + (k : Int) := IntWalk.i64_in _ (by omega)
              have r2 : z2.tmod 16 = z2 % 16 := Int.tmod_eq_emod_of_nonneg b2.1
              have r3 : z2.tdiv 16 = z2 / 16 := Int.tdiv_eq_ediv_of_nonneg b2.1
              have r4 : IntKind.i64.wrap (z2 % 16) = z2 % 16 := IntWalk.i64_in _ (by omega)
              have r5 : IntKind.i64.wrap (z2 / 16) = z2 / 16 := IntWalk.i64_in _ (by omega)
              clear n3 sx2' o2 k2 e2 HH N1 N2 N3 g1 g2 g3
              go_wp2_with (at_builtin; refine wpList_append_base _ rfl (.tmp 87) (.tmp 98) _ rfl w8.heap.size j0 (.agg #[.int .i64 0, .int .i64 0, .int .i64 0, .int .i64 0, .int .i64 0]) 5 40 Try.underlying26 hj jz0 jz1 jz2 rfl (by decide) rfl (World.ownsRow.alloc o4 _) rfl (news := [.int .i64 (f + k), .int .i64 z1, .int .i64 (z2 % 16), .int .i64 (z2 / 16), .int .i64 z3]) (by rfl) (fun j u hu => by rw [Addr.add_lit, Nat.zero_add]; exact (cell_of_row _ _ j _ _ _ (heap_alloc_new w4 _)).trans (by simpa using hu)) (by simp [Value.oneCell']) (by unfold maxLen; omega) (by omega) (by simp; omega) ?_; intro v5 w5 o5 g5 _; obtain ⟨g6, c6, rfl, hb6, _⟩ := own_at o5 (by omega); have sx5 := (sx4.alloc _).grow g5 (fun j e => by have := o4.lt j e; omega); have k5 := (k4.alloc e4 _).grow g5 (by simp; omega) (fun j e => by right; have := o4.lt j e; omega); have z5 := g5.size; have t0 : w5.cell? ⟨W2.heap.size, 2, none⟩ = some u := sx5.2.2.1.cell 2; have t1 : w5.frozen? ⟨W2.heap.size, 2, none⟩ = false := sx5.2.2.1.free 2)
              have sx6 := sx5.set 2 (.slice (some ⟨g6, 0, none⟩) (k + 1) c6)
              have o6 : (w5.setCell ⟨W2.heap.size, 2, none⟩ (.slice (some ⟨g6, 0, none⟩) (k + 1) c6)).ownsRow w8.heap.size 53 5 (.slice (some ⟨g6, 0, none⟩) (k + 1) c6) (k + 1) (lnC (ls ++ [⟨f + k, z1, z2 % 16, z2 / 16, z3⟩])) := by
                rw [show lnC (ls ++ [⟨f + k, z1, z2 % 16, z2 / 16, z3⟩]) = lnC ls ++ [.int .i64 (f + k), .int .i64 z1, .int .i64 (z2 % 16), .int .i64 (z2 / 16), .int .i64 z3] by simp [lnC, Ln.cells]]
                exact own_setS o5 (show W2.heap.size < w8.heap.size by omega) _
              have k6 := k5.set (p := ⟨W2.heap.size, 2, none⟩) (show W2.heap.size < W2.heap.size + 1 from Nat.lt_succ_self _) (.slice (some ⟨g6, 0, none⟩) (k + 1) c6)
              have e6 : w8.heap.size ≤ (w5.setCell ⟨W2.heap.size, 2, none⟩ (.slice (some ⟨g6, 0, none⟩) (k + 1) c6)).heap.size := by
                have z5' : w4.heap.size + 1 ≤ w5.heap.size := by simpa using z5
                simp
                omega
              go_roundw
              case rel => exact ⟨k + 1, a3, s3, _, _, by go_num, by omega, sx6, o6, k6, e6, HN.out⟩
              case measure => simp [intOf]; omega
            · have hm0 : ((M : Int) == 0) = false := beq_eq_false_iff_ne.2 (by omega)
              have hm1 : ((M : Int) = 0) = False := eq_false (by omega)
              have hm2 : (M = 0) = False := eq_false (by omega)
              have HX := Lib.hid (stx_0 HL.out hv8 hA8 hB8 (fun e => hn1 (by omega)) (fun e => hn2 (by omega)) (by omega) (fun e => absurd e (by decide)) (fun e => absurd e (by decide)))
              clear HL hI
              go_wp2_with fail
              go_roundw
              case rel => exact ⟨1, by omega, by go_num, HX.out⟩
              case measure => simp [intOf]
          · obtain rfl : k = M := by omega
            by_cases hk0 : k = 0
            · by_cases hf0 : f = 0
              · have HX := Lib.hid (stx_0 HL.out hv8 hA8 hB8 (fun e => hn1 (by omega)) (fun e => hn2 (by omega)) (by omega) (fun _ => rfl) (fun _ _ => hf0))
                have hm0 : ((k : Int) == 0) = true := beq_iff_eq.2 (by omega)
                have hm1 : ((k : Int) = 0) = True := eq_true (by omega)
                have hf1 : (f == 0) = true := beq_iff_eq.2 hf0
                have hf2 : (f != 0) = false := by rw [bne, hf1]; rfl
                clear HL hI hk0 hf0
                go_wp2_with fail
                go_roundw
                case rel => exact ⟨1, by omega, by go_num, HX.out⟩
                case measure => simp [intOf]
              · have hnot := hbadf (by omega) hf0
                have hm0 : ((k : Int) == 0) = true := beq_iff_eq.2 (by omega)
                have hm1 : ((k : Int) = 0) = True := eq_true (by omega)
                have hf1 : (f == 0) = false := beq_eq_false_iff_ne.2 hf0
                have hf2 : (f != 0) = true := by rw [bne, hf1]; rfl
                clear HL hI hk0
                obtain ⟨m2, m3⟩ := not_hs hx (hnot)
                have HM2 := Lib.hid m2
                have HM3 := Lib.hid m3
                clear m2 m3
                have XP := sx.1
                have hbt := sx.2.2.2.1
                have q0 : wr.cell? ⟨w.heap.size, 0, none⟩ = some (.int .i64 0) := XP.cell 0
                have fq0 : wr.frozen? ⟨w.heap.size, 0, none⟩ = false := XP.free 0
                have q1 : wr.cell? ⟨w.heap.size, 1, none⟩ = some (.slice none 0 0) := XP.cell 1
                have fq1 : wr.frozen? ⟨w.heap.size, 1, none⟩ = false := XP.free 1
                have q2 : wr.cell? ⟨w.heap.size, 2, none⟩ = some (.slice none 0 0) := XP.cell 2
                have fq2 : wr.frozen? ⟨w.heap.size, 2, none⟩ = false := XP.free 2
                have q3 : wr.cell? ⟨w.heap.size, 3, none⟩ = some (.slice none 0 0) := XP.cell 3
                have fq3 : wr.frozen? ⟨w.heap.size, 3, none⟩ = false := XP.free 3
                have q4 : wr.cell? ⟨w.heap.size, 4, none⟩ = some (.slice none 0 0) := XP.cell 4
                have fq4 : wr.frozen? ⟨w.heap.size, 4, none⟩ = false := XP.free 4
                have q5 : wr.cell? ⟨w.heap.size, 5, none⟩ = some (.int .i64 0) := XP.cell 5
                have fq5 : wr.frozen? ⟨w.heap.size, 5, none⟩ = false := XP.free 5
                have q6 : wr.cell? ⟨w.heap.size, 6, none⟩ = some (.int .i64 0) := XP.cell 6
                have fq6 : wr.frozen? ⟨w.heap.size, 6, none⟩ = false := XP.free 6
                have q7 : wr.cell? ⟨w.heap.size, 7, none⟩ = some (.int .i64 0) := XP.cell 7
                have fq7 : wr.frozen? ⟨w.heap.size, 7, none⟩ = false := XP.free 7
                have hend : Below w.heap.size w ((((((((wr.setCell ⟨w.heap.size, 0, none⟩ (.int .i64 0)).setCell ⟨w.heap.size, 1, none⟩ (.slice none 0 0)).setCell ⟨w.heap.size, 2, none⟩ (.slice none 0 0)).setCell ⟨w.heap.size, 3, none⟩ (.slice none 0 0)).setCell ⟨w.heap.size, 4, none⟩ (.slice none 0 0)).setCell ⟨w.heap.size, 5, none⟩ (.int .i64 0)).setCell ⟨w.heap.size, 6, none⟩ (.int .i64 0)).setCell ⟨w.heap.size, 7, none⟩ (.int .i64 0)) := ((((((((hbt.setCell (Nat.le_refl _) _).setCell (Nat.le_refl _) _).setCell (Nat.le_refl _) _).setCell (Nat.le_refl _) _).setCell (Nat.le_refl _) _).setCell (Nat.le_refl _) _).setCell (Nat.le_refl _) _).setCell (Nat.le_refl _) _)
                go_wp2
                exact bodyPost_ret (v := .tuple #[.agg #[.int .i64 0, .slice none 0 0, .slice none 0 0, .slice none 0 0, .slice none 0 0, .int .i64 0, .int .i64 0, .int .i64 0], .int .i64 50]) (by simp [results, Try.results30, go_sem, q0, q1, q2, q3, q4, q5, q6, q7]) rfl ⟨.agg #[.int .i64 0, .slice none 0 0, .slice none 0 0, .slice none 0 0, .slice none 0 0, .int .i64 0, .int .i64 0, .int .i64 0], by rw [HM2.out], by rw [HM3.out]; exact ⟨_, _, _, _, rfl, Sl.nil _ _ _ _, Sl.nil _ _ _ _, Sl.nil _ _ _ _, Sl.nil _ _ _ _⟩, hend⟩
            · have HX := Lib.hid (stx_0 HL.out hv8 hA8 hB8 (fun e => hn1 (by omega)) (fun e => hn2 (by omega)) (by omega) (fun _ => rfl) (fun _ e => absurd e (by omega)))
              have hm0 : ((k : Int) == 0) = false := beq_eq_false_iff_ne.2 (by omega)
              have hm1 : ((k : Int) = 0) = False := eq_false (by omega)
              have hm2 : (k = 0) = False := eq_false (by omega)
              clear HL hI
              go_wp2_with fail
              go_roundw
              case rel => exact ⟨1, by omega, by go_num, HX.out⟩
              case measure => simp [intOf]
      · obtain rfl : u1 = .slice none 0 0 := hn1 (by decide)
        rw [remS_1] at hok
        have hPH : Hs xs → PartH (tl0 xs) := fun H => (hs_facts H).2.2.1
        have n1 := sx_num w wr w.heap.size W1.heap.size W2.heap.size a xs c at_ sh _ 3 sx hrd (by decide) (by decide) hx hl hat
        have hlt0 := sx.lt
        go_wp2_with fail
        refine n1.mono ?_
        rintro e w1 ⟨d, a1, s1, rfl, sx1, g1, N1⟩
        have c1 : w1.cell? ⟨W2.heap.size, 6, none⟩ = some (.int .i64 d1) := sx1.2.2.1.cell 6
        have f1 : w1.frozen? ⟨W2.heap.size, 6, none⟩ = false := sx1.2.2.1.free 6
        have sx2 := sx1.set 6 (.int .i64 d)
        have n2 := sx_num w _ w.heap.size W1.heap.size W2.heap.size a xs c a1 s1 _ 1 sx2 hrd (by decide) (by decide) hx hl N1.1
        have z1 := g1.size
        clear n1
        go_wp2_with fail
        refine n2.mono ?_
        rintro e w2' ⟨n, a2, s2, rfl, sx3, g2, N2⟩
        have n3 := sx_num w w2' w.heap.size W1.heap.size W2.heap.size a xs c a2 s2 _ 3 sx3 hrd (by decide) (by decide) hx hl N2.1
        have z2 := g2.size
        have z2' : w1.heap.size ≤ w2'.heap.size := by simpa using z2
        clear n2 c1 f1
        go_wp2_with fail
        refine n3.mono ?_
        rintro e w8 ⟨f, a3, s3, rfl, sx4, g3, N3⟩
        have z3 := g3.size
        have hk8 : Kp (W2.heap.size + 1) wr.heap.size wr w8 := ((((Kp.refl _ _ wr).grow g1 (Nat.le_refl _) (fun k e => by cases e; left; omega)).set (p := ⟨W2.heap.size, 6, none⟩) (show W2.heap.size < W2.heap.size + 1 from Nat.lt_succ_self _) (.int .i64 d)).grow g2 (by simp; omega) (fun k e => by cases e; left; omega)).grow g3 (by omega) (fun k e => by cases e; left; omega)
        have hle8 : wr.heap.size ≤ w8.heap.size := by omega
        have hv8 := hv.on hk8 hle8
        have hA8 := hs0.on hk8 hle8
        have hB8 := hs2.on hk8 hle8
        obtain ⟨hat3, hg3, hh3⟩ := part_three hok hH hPH N1 N2 N3
        obtain ⟨M, rfl⟩ := Int.eq_ofNat_of_zero_le N2.2.1.1
        have hM : M < 256 := by have := N2.2.1.2; omega
        have hf : 0 ≤ f ∧ f < 16777216 := N3.2.1
        have hn5 : Hs xs → 5 * M ≤ (zL (tl0 xs)).length := fun H => by
          have := hs_five hPH hh3 (fun e => ⟨(hg3 e).1.2.2.1, (hg3 e).1.2.2.2.2⟩) H
          rwa [Int.toNat_natCast] at this
        have hbadf : (M : Int) = 0 → f ≠ 0 → ¬ Hs xs := fun h0 hf0 => part_bad hPH (fun e => (hg3 e).1) hh3 h0 hf0
        have hR8 := sx4.lt
        have HI := Lib.hid (show LnX w w8 w8 w.heap.size W1.heap.size W2.heap.size w8.heap.size a c xs (tl0 xs) _ f M (fun u => #[.int .i64 p, v0, u0, u, u2, .int .i64 d0, .int .i64 d, .int .i64 d2]) 0 a3 s3 (.slice none 0 0) [] from ⟨Nat.zero_le _, sx4, World.ownsRow_nil _ _ _ 5, Kp.refl _ _ _, Nat.le_refl _, rowI_zero (lnStep f) hat3 hg3 hh3⟩)
        clear hk8 hle8 hv hs0 hs1 hs2 hok hH hPH N1 N2 N3 sx sx1 sx2 sx3 sx4 g1 g2 g3 n3 hg3 hh3 hat3 hat z1 z2 z2' z3 hlt0
        go_wp2_with fail
        go_loopw [13] (fun i wr => ∃ (k at_ : Nat) (sh : Bool) (u : Value) (ls : List Ln), i = .int .i64 k ∧ LnX w w8 wr w.heap.size W1.heap.size W2.heap.size w8.heap.size a c xs (tl0 xs) (OkQ xs p its 1 d0 d1 d2 l0 l1 l2 ∧ d = (cutN 3 (tl0 xs)).1 ∧ (M : Int) = nL (tl0 xs) ∧ f = fL (tl0 xs) ∧ (zL (tl0 xs)).length + 7 = (tl0 xs).length) f M (fun u => #[.int .i64 p, v0, u0, u, u2, .int .i64 d0, .int .i64 d, .int .i64 d2]) k at_ sh u ls) (fun i _ => M - (intOf i).toNat)
        case atStart => exact ⟨0, a3, s3, _, _, rfl, HI.out⟩
        case round =>
          clear HI
          obtain ⟨k, at_, sh, u, ls, rfl, hLn⟩ := hrel
          have HL := Lib.hid hLn
          obtain ⟨hkM, sx, ho, hkp, hle, hI⟩ := hLn
          by_cases hlt : k < M
          · have hki : (k : Int) < (M : Int) := by omega
            have y2 : wr.cell? ⟨W1.heap.size, 2, none⟩ = some (.bool sh) := sx.2.1.cell 2
            rcases sh with _ | _
            · have n1 := sx_num w wr w.heap.size W1.heap.size W2.heap.size a xs c at_ false _ 3 sx hrd (by decide) (by decide) hx hl hI.1
              have HH := Lib.hid hI
              clear hI HL
              go_wp2_with fail
              refine n1.mono ?_
              rintro e w1 ⟨z1, a1, s1, rfl, sx1, g1, N1⟩
              have n2 := sx_num w w1 w.heap.size W1.heap.size W2.heap.size a xs c a1 s1 _ 1 sx1 hrd (by decide) (by decide) hx hl N1.1
              have o1 := own_grown ho g1 (show W1.heap.size < w8.heap.size by omega)
              have k1 := hkp.grow g1 hle (fun k e => by cases e; left; omega)
              have e1 := Nat.le_trans hle g1.size
              clear n1 y2 sx ho hkp hle
              go_wp2_with fail
              refine n2.mono ?_
              rintro e w2' ⟨z2, a2, s2, rfl, sx2', g2, N2⟩
              have n3 := sx_num w w2' w.heap.size W1.heap.size W2.heap.size a xs c a2 s2 _ 1 sx2' hrd (by decide) (by decide) hx hl N2.1
              have o2 := own_grown o1 g2 (show W1.heap.size < w8.heap.size by omega)
              have k2 := k1.grow g2 e1 (fun k e => by cases e; left; omega)
              have e2 := Nat.le_trans e1 g2.size
              clear n2 sx1 o1 k1 e1
              go_wp2_with fail
              refine n3.mono ?_
              rintro e w4 ⟨z3, a3, s3, rfl, sx4, g3, N3⟩
              have o4 := own_grown o2 g3 (show W1.heap.size < w8.heap.size by omega)
              have k4 := k2.grow g3 e2 (fun k e => by cases e; left; omega)
              have e4 := Nat.le_trans e2 g3.size
              have HN := Lib.hid (rowI_next (x := (⟨f + k, z1, z2 % 16, z2 / 16, z3⟩ : Ln)) HH.out hlt hn5 N3.1 (fun ys e => ln_three e N1 N2 N3) (fun ys e => lnStep_len5 f k ys e))
              have b1 := N1.2.1
              have b2 := N2.2.1
              have b3 := N3.2.1
              have c1 : w4.cell? ⟨W2.heap.size, 3, none⟩ = some u := sx4.2.2.1.cell 3
              have r1 : IntKind.i64.wrap (f + (k : Int)) = f + (k : Int) := IntWalk.i64_in _ (by omega)
              have r2 : z2.tmod 16 = z2 % 16 := Int.tmod_eq_emod_of_nonneg b2.1
              have r3 : z2.tdiv 16 = z2 / 16 := Int.tdiv_eq_ediv_of_nonneg b2.1
              have r4 : IntKind.i64.wrap (z2 % 16) = z2 % 16 := IntWalk.i64_in _ (by omega)
              have r5 : IntKind.i64.wrap (z2 / 16) = z2 / 16 := IntWalk.i64_in _ (by omega)
              clear n3 sx2' o2 k2 e2 HH N1 N2 N3 g1 g2 g3
              go_wp2_with (at_builtin; refine wpList_append_base _ rfl (.tmp 87) (.tmp 98) _ rfl w8.heap.size j0 (.agg #[.int .i64 0, .int .i64 0, .int .i64 0, .int .i64 0, .int .i64 0]) 5 40 Try.underlying26 hj jz0 jz1 jz2 rfl (by decide) rfl (World.ownsRow.alloc o4 _) rfl (news := [.int .i64 (f + k), .int .i64 z1, .int .i64 (z2 % 16), .int .i64 (z2 / 16), .int .i64 z3]) (by rfl) (fun j u hu => by rw [Addr.add_lit, Nat.zero_add]; exact (cell_of_row _ _ j _ _ _ (heap_alloc_new w4 _)).trans (by simpa using hu)) (by simp [Value.oneCell']) (by unfold maxLen; omega) (by omega) (by simp; omega) ?_; intro v5 w5 o5 g5 _; obtain ⟨g6, c6, rfl, hb6, _⟩ := own_at o5 (by omega); have sx5 := (sx4.alloc _).grow g5 (fun j e => by have := o4.lt j e; omega); have k5 := (k4.alloc e4 _).grow g5 (by simp; omega) (fun j e => by right; have := o4.lt j e; omega); have z5 := g5.size; have t0 : w5.cell? ⟨W2.heap.size, 3, none⟩ = some u := sx5.2.2.1.cell 3; have t1 : w5.frozen? ⟨W2.heap.size, 3, none⟩ = false := sx5.2.2.1.free 3)
              have sx6 := sx5.set 3 (.slice (some ⟨g6, 0, none⟩) (k + 1) c6)
              have o6 : (w5.setCell ⟨W2.heap.size, 3, none⟩ (.slice (some ⟨g6, 0, none⟩) (k + 1) c6)).ownsRow w8.heap.size 53 5 (.slice (some ⟨g6, 0, none⟩) (k + 1) c6) (k + 1) (lnC (ls ++ [⟨f + k, z1, z2 % 16, z2 / 16, z3⟩])) := by
                rw [show lnC (ls ++ [⟨f + k, z1, z2 % 16, z2 / 16, z3⟩]) = lnC ls ++ [.int .i64 (f + k), .int .i64 z1, .int .i64 (z2 % 16), .int .i64 (z2 / 16), .int .i64 z3] by simp [lnC, Ln.cells]]
                exact own_setS o5 (show W2.heap.size < w8.heap.size by omega) _
              have k6 := k5.set (p := ⟨W2.heap.size, 3, none⟩) (show W2.heap.size < W2.heap.size + 1 from Nat.lt_succ_self _) (.slice (some ⟨g6, 0, none⟩) (k + 1) c6)
              have e6 : w8.heap.size ≤ (w5.setCell ⟨W2.heap.size, 3, none⟩ (.slice (some ⟨g6, 0, none⟩) (k + 1) c6)).heap.size := by
                have z5' : w4.heap.size + 1 ≤ w5.heap.size := by simpa using z5
                simp
                omega
              go_roundw
              case rel => exact ⟨k + 1, a3, s3, _, _, by go_num, by omega, sx6, o6, k6, e6, HN.out⟩
              case measure => simp [intOf]; omega
            · have hm0 : ((M : Int) == 0) = false := beq_eq_false_iff_ne.2 (by omega)
              have hm1 : ((M : Int) = 0) = False := eq_false (by omega)
              have hm2 : (M = 0) = False := eq_false (by omega)
              have HX := Lib.hid (stx_1 HL.out hv8 hA8 hB8 (fun e => hn0 (by omega)) (fun e => hn2 (by omega)) (by omega) (fun e => absurd e (by decide)) (fun e => absurd e (by decide)))
              clear HL hI
              go_wp2_with fail
              go_roundw
              case rel => exact ⟨2, by omega, by go_num, HX.out⟩
              case measure => simp [intOf]
          · obtain rfl : k = M := by omega
            by_cases hk0 : k = 0
            · by_cases hf0 : f = 0
              · have HX := Lib.hid (stx_1 HL.out hv8 hA8 hB8 (fun e => hn0 (by omega)) (fun e => hn2 (by omega)) (by omega) (fun _ => rfl) (fun _ _ => hf0))
                have hm0 : ((k : Int) == 0) = true := beq_iff_eq.2 (by omega)
                have hm1 : ((k : Int) = 0) = True := eq_true (by omega)
                have hf1 : (f == 0) = true := beq_iff_eq.2 hf0
                have hf2 : (f != 0) = false := by rw [bne, hf1]; rfl
                clear HL hI hk0 hf0
                go_wp2_with fail
                go_roundw
                case rel => exact ⟨2, by omega, by go_num, HX.out⟩
                case measure => simp [intOf]
              · have hnot := hbadf (by omega) hf0
                have hm0 : ((k : Int) == 0) = true := beq_iff_eq.2 (by omega)
                have hm1 : ((k : Int) = 0) = True := eq_true (by omega)
                have hf1 : (f == 0) = false := beq_eq_false_iff_ne.2 hf0
                have hf2 : (f != 0) = true := by rw [bne, hf1]; rfl
                clear HL hI hk0
                obtain ⟨m2, m3⟩ := not_hs hx (hnot)
                have HM2 := Lib.hid m2
                have HM3 := Lib.hid m3
                clear m2 m3
                have XP := sx.1
                have hbt := sx.2.2.2.1
                have q0 : wr.cell? ⟨w.heap.size, 0, none⟩ = some (.int .i64 0) := XP.cell 0
                have fq0 : wr.frozen? ⟨w.heap.size, 0, none⟩ = false := XP.free 0
                have q1 : wr.cell? ⟨w.heap.size, 1, none⟩ = some (.slice none 0 0) := XP.cell 1
                have fq1 : wr.frozen? ⟨w.heap.size, 1, none⟩ = false := XP.free 1
                have q2 : wr.cell? ⟨w.heap.size, 2, none⟩ = some (.slice none 0 0) := XP.cell 2
                have fq2 : wr.frozen? ⟨w.heap.size, 2, none⟩ = false := XP.free 2
                have q3 : wr.cell? ⟨w.heap.size, 3, none⟩ = some (.slice none 0 0) := XP.cell 3
                have fq3 : wr.frozen? ⟨w.heap.size, 3, none⟩ = false := XP.free 3
                have q4 : wr.cell? ⟨w.heap.size, 4, none⟩ = some (.slice none 0 0) := XP.cell 4
                have fq4 : wr.frozen? ⟨w.heap.size, 4, none⟩ = false := XP.free 4
                have q5 : wr.cell? ⟨w.heap.size, 5, none⟩ = some (.int .i64 0) := XP.cell 5
                have fq5 : wr.frozen? ⟨w.heap.size, 5, none⟩ = false := XP.free 5
                have q6 : wr.cell? ⟨w.heap.size, 6, none⟩ = some (.int .i64 0) := XP.cell 6
                have fq6 : wr.frozen? ⟨w.heap.size, 6, none⟩ = false := XP.free 6
                have q7 : wr.cell? ⟨w.heap.size, 7, none⟩ = some (.int .i64 0) := XP.cell 7
                have fq7 : wr.frozen? ⟨w.heap.size, 7, none⟩ = false := XP.free 7
                have hend : Below w.heap.size w ((((((((wr.setCell ⟨w.heap.size, 0, none⟩ (.int .i64 0)).setCell ⟨w.heap.size, 1, none⟩ (.slice none 0 0)).setCell ⟨w.heap.size, 2, none⟩ (.slice none 0 0)).setCell ⟨w.heap.size, 3, none⟩ (.slice none 0 0)).setCell ⟨w.heap.size, 4, none⟩ (.slice none 0 0)).setCell ⟨w.heap.size, 5, none⟩ (.int .i64 0)).setCell ⟨w.heap.size, 6, none⟩ (.int .i64 0)).setCell ⟨w.heap.size, 7, none⟩ (.int .i64 0)) := ((((((((hbt.setCell (Nat.le_refl _) _).setCell (Nat.le_refl _) _).setCell (Nat.le_refl _) _).setCell (Nat.le_refl _) _).setCell (Nat.le_refl _) _).setCell (Nat.le_refl _) _).setCell (Nat.le_refl _) _).setCell (Nat.le_refl _) _)
                go_wp2
                exact bodyPost_ret (v := .tuple #[.agg #[.int .i64 0, .slice none 0 0, .slice none 0 0, .slice none 0 0, .slice none 0 0, .int .i64 0, .int .i64 0, .int .i64 0], .int .i64 50]) (by simp [results, Try.results30, go_sem, q0, q1, q2, q3, q4, q5, q6, q7]) rfl ⟨.agg #[.int .i64 0, .slice none 0 0, .slice none 0 0, .slice none 0 0, .slice none 0 0, .int .i64 0, .int .i64 0, .int .i64 0], by rw [HM2.out], by rw [HM3.out]; exact ⟨_, _, _, _, rfl, Sl.nil _ _ _ _, Sl.nil _ _ _ _, Sl.nil _ _ _ _, Sl.nil _ _ _ _⟩, hend⟩
            · have HX := Lib.hid (stx_1 HL.out hv8 hA8 hB8 (fun e => hn0 (by omega)) (fun e => hn2 (by omega)) (by omega) (fun _ => rfl) (fun _ e => absurd e (by omega)))
              have hm0 : ((k : Int) == 0) = false := beq_eq_false_iff_ne.2 (by omega)
              have hm1 : ((k : Int) = 0) = False := eq_false (by omega)
              have hm2 : (k = 0) = False := eq_false (by omega)
              clear HL hI
              go_wp2_with fail
              go_roundw
              case rel => exact ⟨2, by omega, by go_num, HX.out⟩
              case measure => simp [intOf]
      · obtain rfl : u2 = .slice none 0 0 := hn2 (by decide)
        rw [remS_2] at hok
        have hPH : Hs xs → PartH (tl1 xs) := fun H => (hs_facts H).2.2.2.1
        have n1 := sx_num w wr w.heap.size W1.heap.size W2.heap.size a xs c at_ sh _ 3 sx hrd (by decide) (by decide) hx hl hat
        have hlt0 := sx.lt
        go_wp2_with fail
        refine n1.mono ?_
        rintro e w1 ⟨d, a1, s1, rfl, sx1, g1, N1⟩
        have c1 : w1.cell? ⟨W2.heap.size, 7, none⟩ = some (.int .i64 d2) := sx1.2.2.1.cell 7
        have f1 : w1.frozen? ⟨W2.heap.size, 7, none⟩ = false := sx1.2.2.1.free 7
        have sx2 := sx1.set 7 (.int .i64 d)
        have n2 := sx_num w _ w.heap.size W1.heap.size W2.heap.size a xs c a1 s1 _ 1 sx2 hrd (by decide) (by decide) hx hl N1.1
        have z1 := g1.size
        clear n1
        go_wp2_with fail
        refine n2.mono ?_
        rintro e w2' ⟨n, a2, s2, rfl, sx3, g2, N2⟩
        have n3 := sx_num w w2' w.heap.size W1.heap.size W2.heap.size a xs c a2 s2 _ 3 sx3 hrd (by decide) (by decide) hx hl N2.1
        have z2 := g2.size
        have z2' : w1.heap.size ≤ w2'.heap.size := by simpa using z2
        clear n2 c1 f1
        go_wp2_with fail
        refine n3.mono ?_
        rintro e w8 ⟨f, a3, s3, rfl, sx4, g3, N3⟩
        have z3 := g3.size
        have hk8 : Kp (W2.heap.size + 1) wr.heap.size wr w8 := ((((Kp.refl _ _ wr).grow g1 (Nat.le_refl _) (fun k e => by cases e; left; omega)).set (p := ⟨W2.heap.size, 7, none⟩) (show W2.heap.size < W2.heap.size + 1 from Nat.lt_succ_self _) (.int .i64 d)).grow g2 (by simp; omega) (fun k e => by cases e; left; omega)).grow g3 (by omega) (fun k e => by cases e; left; omega)
        have hle8 : wr.heap.size ≤ w8.heap.size := by omega
        have hv8 := hv.on hk8 hle8
        have hA8 := hs0.on hk8 hle8
        have hB8 := hs1.on hk8 hle8
        obtain ⟨hat3, hg3, hh3⟩ := part_three hok hH hPH N1 N2 N3
        obtain ⟨M, rfl⟩ := Int.eq_ofNat_of_zero_le N2.2.1.1
        have hM : M < 256 := by have := N2.2.1.2; omega
        have hf : 0 ≤ f ∧ f < 16777216 := N3.2.1
        have hn5 : Hs xs → 5 * M ≤ (zL (tl1 xs)).length := fun H => by
          have := hs_five hPH hh3 (fun e => ⟨(hg3 e).1.2.2.1, (hg3 e).1.2.2.2.2⟩) H
          rwa [Int.toNat_natCast] at this
        have hbadf : (M : Int) = 0 → f ≠ 0 → ¬ Hs xs := fun h0 hf0 => part_bad hPH (fun e => (hg3 e).1) hh3 h0 hf0
        have hR8 := sx4.lt
        have HI := Lib.hid (show LnX w w8 w8 w.heap.size W1.heap.size W2.heap.size w8.heap.size a c xs (tl1 xs) _ f M (fun u => #[.int .i64 p, v0, u0, u1, u, .int .i64 d0, .int .i64 d1, .int .i64 d]) 0 a3 s3 (.slice none 0 0) [] from ⟨Nat.zero_le _, sx4, World.ownsRow_nil _ _ _ 5, Kp.refl _ _ _, Nat.le_refl _, rowI_zero (lnStep f) hat3 hg3 hh3⟩)
        clear hk8 hle8 hv hs0 hs1 hs2 hok hH hPH N1 N2 N3 sx sx1 sx2 sx3 sx4 g1 g2 g3 n3 hg3 hh3 hat3 hat z1 z2 z2' z3 hlt0
        go_wp2_with fail
        go_loopw [13] (fun i wr => ∃ (k at_ : Nat) (sh : Bool) (u : Value) (ls : List Ln), i = .int .i64 k ∧ LnX w w8 wr w.heap.size W1.heap.size W2.heap.size w8.heap.size a c xs (tl1 xs) (OkQ xs p its 2 d0 d1 d2 l0 l1 l2 ∧ d = (cutN 3 (tl1 xs)).1 ∧ (M : Int) = nL (tl1 xs) ∧ f = fL (tl1 xs) ∧ (zL (tl1 xs)).length + 7 = (tl1 xs).length) f M (fun u => #[.int .i64 p, v0, u0, u1, u, .int .i64 d0, .int .i64 d1, .int .i64 d]) k at_ sh u ls) (fun i _ => M - (intOf i).toNat)
        case atStart => exact ⟨0, a3, s3, _, _, rfl, HI.out⟩
        case round =>
          clear HI
          obtain ⟨k, at_, sh, u, ls, rfl, hLn⟩ := hrel
          have HL := Lib.hid hLn
          obtain ⟨hkM, sx, ho, hkp, hle, hI⟩ := hLn
          by_cases hlt : k < M
          · have hki : (k : Int) < (M : Int) := by omega
            have y2 : wr.cell? ⟨W1.heap.size, 2, none⟩ = some (.bool sh) := sx.2.1.cell 2
            rcases sh with _ | _
            · have n1 := sx_num w wr w.heap.size W1.heap.size W2.heap.size a xs c at_ false _ 3 sx hrd (by decide) (by decide) hx hl hI.1
              have HH := Lib.hid hI
              clear hI HL
              go_wp2_with fail
              refine n1.mono ?_
              rintro e w1 ⟨z1, a1, s1, rfl, sx1, g1, N1⟩
              have n2 := sx_num w w1 w.heap.size W1.heap.size W2.heap.size a xs c a1 s1 _ 1 sx1 hrd (by decide) (by decide) hx hl N1.1
              have o1 := own_grown ho g1 (show W1.heap.size < w8.heap.size by omega)
              have k1 := hkp.grow g1 hle (fun k e => by cases e; left; omega)
              have e1 := Nat.le_trans hle g1.size
              clear n1 y2 sx ho hkp hle
              go_wp2_with fail
              refine n2.mono ?_
              rintro e w2' ⟨z2, a2, s2, rfl, sx2', g2, N2⟩
              have n3 := sx_num w w2' w.heap.size W1.heap.size W2.heap.size a xs c a2 s2 _ 1 sx2' hrd (by decide) (by decide) hx hl N2.1
              have o2 := own_grown o1 g2 (show W1.heap.size < w8.heap.size by omega)
              have k2 := k1.grow g2 e1 (fun k e => by cases e; left; omega)
              have e2 := Nat.le_trans e1 g2.size
              clear n2 sx1 o1 k1 e1
              go_wp2_with fail
              refine n3.mono ?_
              rintro e w4 ⟨z3, a3, s3, rfl, sx4, g3, N3⟩
              have o4 := own_grown o2 g3 (show W1.heap.size < w8.heap.size by omega)
              have k4 := k2.grow g3 e2 (fun k e => by cases e; left; omega)
              have e4 := Nat.le_trans e2 g3.size
              have HN := Lib.hid (rowI_next (x := (⟨f + k, z1, z2 % 16, z2 / 16, z3⟩ : Ln)) HH.out hlt hn5 N3.1 (fun ys e => ln_three e N1 N2 N3) (fun ys e => lnStep_len5 f k ys e))
              have b1 := N1.2.1
              have b2 := N2.2.1
              have b3 := N3.2.1
              have c1 : w4.cell? ⟨W2.heap.size, 4, none⟩ = some u := sx4.2.2.1.cell 4
              have r1 : IntKind.i64.wrap (f + (k : Int)) = f + (k : Int) := IntWalk.i64_in _ (by omega)
              have r2 : z2.tmod 16 = z2 % 16 := Int.tmod_eq_emod_of_nonneg b2.1
              have r3 : z2.tdiv 16 = z2 / 16 := Int.tdiv_eq_ediv_of_nonneg b2.1
              have r4 : IntKind.i64.wrap (z2 % 16) = z2 % 16 := IntWalk.i64_in _ (by omega)
              have r5 : IntKind.i64.wrap (z2 / 16) = z2 / 16 := IntWalk.i64_in _ (by omega)
              clear n3 sx2' o2 k2 e2 HH N1 N2 N3 g1 g2 g3
              go_wp2_with (at_builtin; refine wpList_append_base _ rfl (.tmp 87) (.tmp 98) _ rfl w8.heap.size j0 (.agg #[.int .i64 0, .int .i64 0, .int .i64 0, .int .i64 0, .int .i64 0]) 5 40 Try.underlying26 hj jz0 jz1 jz2 rfl (by decide) rfl (World.ownsRow.alloc o4 _) rfl (news := [.int .i64 (f + k), .int .i64 z1, .int .i64 (z2 % 16), .int .i64 (z2 / 16), .int .i64 z3]) (by rfl) (fun j u hu => by rw [Addr.add_lit, Nat.zero_add]; exact (cell_of_row _ _ j _ _ _ (heap_alloc_new w4 _)).trans (by simpa using hu)) (by simp [Value.oneCell']) (by unfold maxLen; omega) (by omega) (by simp; omega) ?_; intro v5 w5 o5 g5 _; obtain ⟨g6, c6, rfl, hb6, _⟩ := own_at o5 (by omega); have sx5 := (sx4.alloc _).grow g5 (fun j e => by have := o4.lt j e; omega); have k5 := (k4.alloc e4 _).grow g5 (by simp; omega) (fun j e => by right; have := o4.lt j e; omega); have z5 := g5.size; have t0 : w5.cell? ⟨W2.heap.size, 4, none⟩ = some u := sx5.2.2.1.cell 4; have t1 : w5.frozen? ⟨W2.heap.size, 4, none⟩ = false := sx5.2.2.1.free 4)
              have sx6 := sx5.set 4 (.slice (some ⟨g6, 0, none⟩) (k + 1) c6)
              have o6 : (w5.setCell ⟨W2.heap.size, 4, none⟩ (.slice (some ⟨g6, 0, none⟩) (k + 1) c6)).ownsRow w8.heap.size 53 5 (.slice (some ⟨g6, 0, none⟩) (k + 1) c6) (k + 1) (lnC (ls ++ [⟨f + k, z1, z2 % 16, z2 / 16, z3⟩])) := by
                rw [show lnC (ls ++ [⟨f + k, z1, z2 % 16, z2 / 16, z3⟩]) = lnC ls ++ [.int .i64 (f + k), .int .i64 z1, .int .i64 (z2 % 16), .int .i64 (z2 / 16), .int .i64 z3] by simp [lnC, Ln.cells]]
                exact own_setS o5 (show W2.heap.size < w8.heap.size by omega) _
              have k6 := k5.set (p := ⟨W2.heap.size, 4, none⟩) (show W2.heap.size < W2.heap.size + 1 from Nat.lt_succ_self _) (.slice (some ⟨g6, 0, none⟩) (k + 1) c6)
              have e6 : w8.heap.size ≤ (w5.setCell ⟨W2.heap.size, 4, none⟩ (.slice (some ⟨g6, 0, none⟩) (k + 1) c6)).heap.size := by
                have z5' : w4.heap.size + 1 ≤ w5.heap.size := by simpa using z5
                simp
                omega
              go_roundw
              case rel => exact ⟨k + 1, a3, s3, _, _, by go_num, by omega, sx6, o6, k6, e6, HN.out⟩
              case measure => simp [intOf]; omega
            · have hm0 : ((M : Int) == 0) = false := beq_eq_false_iff_ne.2 (by omega)
              have hm1 : ((M : Int) = 0) = False := eq_false (by omega)
              have hm2 : (M = 0) = False := eq_false (by omega)
              have HX := Lib.hid (stx_2 HL.out hv8 hA8 hB8 (fun e => hn0 (by omega)) (fun e => hn1 (by omega)) (by omega) (fun e => absurd e (by decide)) (fun e => absurd e (by decide)))
              clear HL hI
              go_wp2_with fail
              go_roundw
              case rel => exact ⟨3, by omega, by go_num, HX.out⟩
              case measure => simp [intOf]
          · obtain rfl : k = M := by omega
            by_cases hk0 : k = 0
            · by_cases hf0 : f = 0
              · have HX := Lib.hid (stx_2 HL.out hv8 hA8 hB8 (fun e => hn0 (by omega)) (fun e => hn1 (by omega)) (by omega) (fun _ => rfl) (fun _ _ => hf0))
                have hm0 : ((k : Int) == 0) = true := beq_iff_eq.2 (by omega)
                have hm1 : ((k : Int) = 0) = True := eq_true (by omega)
                have hf1 : (f == 0) = true := beq_iff_eq.2 hf0
                have hf2 : (f != 0) = false := by rw [bne, hf1]; rfl
                clear HL hI hk0 hf0
                go_wp2_with fail
                go_roundw
                case rel => exact ⟨3, by omega, by go_num, HX.out⟩
                case measure => simp [intOf]
              · have hnot := hbadf (by omega) hf0
                have hm0 : ((k : Int) == 0) = true := beq_iff_eq.2 (by omega)
                have hm1 : ((k : Int) = 0) = True := eq_true (by omega)
                have hf1 : (f == 0) = false := beq_eq_false_iff_ne.2 hf0
                have hf2 : (f != 0) = true := by rw [bne, hf1]; rfl
                clear HL hI hk0
                obtain ⟨m2, m3⟩ := not_hs hx (hnot)
                have HM2 := Lib.hid m2
                have HM3 := Lib.hid m3
                clear m2 m3
                have XP := sx.1
                have hbt := sx.2.2.2.1
                have q0 : wr.cell? ⟨w.heap.size, 0, none⟩ = some (.int .i64 0) := XP.cell 0
                have fq0 : wr.frozen? ⟨w.heap.size, 0, none⟩ = false := XP.free 0
                have q1 : wr.cell? ⟨w.heap.size, 1, none⟩ = some (.slice none 0 0) := XP.cell 1
                have fq1 : wr.frozen? ⟨w.heap.size, 1, none⟩ = false := XP.free 1
                have q2 : wr.cell? ⟨w.heap.size, 2, none⟩ = some (.slice none 0 0) := XP.cell 2
                have fq2 : wr.frozen? ⟨w.heap.size, 2, none⟩ = false := XP.free 2
                have q3 : wr.cell? ⟨w.heap.size, 3, none⟩ = some (.slice none 0 0) := XP.cell 3
                have fq3 : wr.frozen? ⟨w.heap.size, 3, none⟩ = false := XP.free 3
                have q4 : wr.cell? ⟨w.heap.size, 4, none⟩ = some (.slice none 0 0) := XP.cell 4
                have fq4 : wr.frozen? ⟨w.heap.size, 4, none⟩ = false := XP.free 4
                have q5 : wr.cell? ⟨w.heap.size, 5, none⟩ = some (.int .i64 0) := XP.cell 5
                have fq5 : wr.frozen? ⟨w.heap.size, 5, none⟩ = false := XP.free 5
                have q6 : wr.cell? ⟨w.heap.size, 6, none⟩ = some (.int .i64 0) := XP.cell 6
                have fq6 : wr.frozen? ⟨w.heap.size, 6, none⟩ = false := XP.free 6
                have q7 : wr.cell? ⟨w.heap.size, 7, none⟩ = some (.int .i64 0) := XP.cell 7
                have fq7 : wr.frozen? ⟨w.heap.size, 7, none⟩ = false := XP.free 7
                have hend : Below w.heap.size w ((((((((wr.setCell ⟨w.heap.size, 0, none⟩ (.int .i64 0)).setCell ⟨w.heap.size, 1, none⟩ (.slice none 0 0)).setCell ⟨w.heap.size, 2, none⟩ (.slice none 0 0)).setCell ⟨w.heap.size, 3, none⟩ (.slice none 0 0)).setCell ⟨w.heap.size, 4, none⟩ (.slice none 0 0)).setCell ⟨w.heap.size, 5, none⟩ (.int .i64 0)).setCell ⟨w.heap.size, 6, none⟩ (.int .i64 0)).setCell ⟨w.heap.size, 7, none⟩ (.int .i64 0)) := ((((((((hbt.setCell (Nat.le_refl _) _).setCell (Nat.le_refl _) _).setCell (Nat.le_refl _) _).setCell (Nat.le_refl _) _).setCell (Nat.le_refl _) _).setCell (Nat.le_refl _) _).setCell (Nat.le_refl _) _).setCell (Nat.le_refl _) _)
                go_wp2
                exact bodyPost_ret (v := .tuple #[.agg #[.int .i64 0, .slice none 0 0, .slice none 0 0, .slice none 0 0, .slice none 0 0, .int .i64 0, .int .i64 0, .int .i64 0], .int .i64 50]) (by simp [results, Try.results30, go_sem, q0, q1, q2, q3, q4, q5, q6, q7]) rfl ⟨.agg #[.int .i64 0, .slice none 0 0, .slice none 0 0, .slice none 0 0, .slice none 0 0, .int .i64 0, .int .i64 0, .int .i64 0], by rw [HM2.out], by rw [HM3.out]; exact ⟨_, _, _, _, rfl, Sl.nil _ _ _ _, Sl.nil _ _ _ _, Sl.nil _ _ _ _, Sl.nil _ _ _ _⟩, hend⟩
            · have HX := Lib.hid (stx_2 HL.out hv8 hA8 hB8 (fun e => hn0 (by omega)) (fun e => hn1 (by omega)) (by omega) (fun _ => rfl) (fun _ e => absurd e (by omega)))
              have hm0 : ((k : Int) == 0) = false := beq_eq_false_iff_ne.2 (by omega)
              have hm1 : ((k : Int) = 0) = False := eq_false (by omega)
              have hm2 : (k = 0) = False := eq_false (by omega)
              clear HL hI
              go_wp2_with fail
              go_roundw
              case rel => exact ⟨3, by omega, by go_num, HX.out⟩
              case measure => simp [intOf]
      · have s0 : wr.cell? ⟨W2.heap.size, 0, none⟩ = some (.int .i64 p) := sx.2.2.1.cell 0
        have s1 : wr.cell? ⟨W2.heap.size, 1, none⟩ = some v0 := sx.2.2.1.cell 1
        have s2 : wr.cell? ⟨W2.heap.size, 2, none⟩ = some u0 := sx.2.2.1.cell 2
        have s3 : wr.cell? ⟨W2.heap.size, 3, none⟩ = some u1 := sx.2.2.1.cell 3
        have s4 : wr.cell? ⟨W2.heap.size, 4, none⟩ = some u2 := sx.2.2.1.cell 4
        have s5 : wr.cell? ⟨W2.heap.size, 5, none⟩ = some (.int .i64 d0) := sx.2.2.1.cell 5
        have s6 : wr.cell? ⟨W2.heap.size, 6, none⟩ = some (.int .i64 d1) := sx.2.2.1.cell 6
        have s7 : wr.cell? ⟨W2.heap.size, 7, none⟩ = some (.int .i64 d2) := sx.2.2.1.cell 7
        have y1 : wr.cell? ⟨W1.heap.size, 1, none⟩ = some (.int .i64 at_) := sx.2.1.cell 1
        have y2 : wr.cell? ⟨W1.heap.size, 2, none⟩ = some (.bool sh) := sx.2.1.cell 2
        rcases sh with _ | _
        · obtain ⟨hok1, hok2⟩ := hok rfl
          obtain ⟨hlS, hbk⟩ := okq_end hx hok1
          by_cases hal : at_ = xs.length
          · have hr0 : remS xs 3 = [] := by rw [← hok2, hal, List.drop_length]
            have hback := hbk hr0
            have hV : StV wr (W2.heap.size + 1) wr.heap.size (.agg #[.int .i64 p, v0, u0, u1, u2, .int .i64 d0, .int .i64 d1, .int .i64 d2]) (lenS xs) := by
              rw [← hlS]
              exact stv_mk hv hs0 hs1 hs2
            have n8 := rstands_spec _ (lenS xs) wr (hV.wide (Nat.zero_le _) (Nat.le_refl _)) (lenS_in hx)
            have ha0 : ((at_ : Int) != (xs.length : Int)) = false := by rw [hal]; simp
            have ha1 : ((at_ : Int) == (xs.length : Int)) = true := by rw [hal]; simp
            have HAL := Lib.hid hal
            have HBK := Lib.hid hback
            have hR := sx.lt
            clear hal hok hH hok1 hok2 hlS hbk hr0 hback hn0 hn1 hn2 hat
            obtain ⟨a6, c6, rfl, _⟩ := id hv
            obtain ⟨a7, c7, rfl, _⟩ := id hs0
            obtain ⟨a8, c8, rfl, _⟩ := id hs1
            obtain ⟨a9, c9, rfl, _⟩ := id hs2
            clear hv hs0 hs1 hs2
            generalize its.length = m6 at *
            generalize l0.length = m7 at *
            generalize l1.length = m8 at *
            generalize l2.length = m9 at *
            rcases hm : stands (lenS xs) with _ | _
            · have hnot : ¬ Hs xs := fun H => by rw [H.1] at hm; cases hm
              rw [hm] at n8
              clear hm
              go_wp2_with fail
              refine n8.mono ?_
              rintro e w9 ⟨rfl, b9⟩
              have sx9 : SX w w9 w.heap.size W1.heap.size W2.heap.size a xs.length c at_ false _ := sx.grow (r := none) (grown_below b9 (Nat.le_refl _) none) (fun k e => by cases e)
              clear n8 s0 s1 s2 s3 s4 s5 s6 s7 y1 y2
              obtain ⟨m2, m3⟩ := not_hs hx (hnot)
              have HM2 := Lib.hid m2
              have HM3 := Lib.hid m3
              clear m2 m3
              have XP := sx9.1
              have hbt := sx9.2.2.2.1
              have q0 : w9.cell? ⟨w.heap.size, 0, none⟩ = some (.int .i64 0) := XP.cell 0
              have fq0 : w9.frozen? ⟨w.heap.size, 0, none⟩ = false := XP.free 0
              have q1 : w9.cell? ⟨w.heap.size, 1, none⟩ = some (.slice none 0 0) := XP.cell 1
              have fq1 : w9.frozen? ⟨w.heap.size, 1, none⟩ = false := XP.free 1
              have q2 : w9.cell? ⟨w.heap.size, 2, none⟩ = some (.slice none 0 0) := XP.cell 2
              have fq2 : w9.frozen? ⟨w.heap.size, 2, none⟩ = false := XP.free 2
              have q3 : w9.cell? ⟨w.heap.size, 3, none⟩ = some (.slice none 0 0) := XP.cell 3
              have fq3 : w9.frozen? ⟨w.heap.size, 3, none⟩ = false := XP.free 3
              have q4 : w9.cell? ⟨w.heap.size, 4, none⟩ = some (.slice none 0 0) := XP.cell 4
              have fq4 : w9.frozen? ⟨w.heap.size, 4, none⟩ = false := XP.free 4
              have q5 : w9.cell? ⟨w.heap.size, 5, none⟩ = some (.int .i64 0) := XP.cell 5
              have fq5 : w9.frozen? ⟨w.heap.size, 5, none⟩ = false := XP.free 5
              have q6 : w9.cell? ⟨w.heap.size, 6, none⟩ = some (.int .i64 0) := XP.cell 6
              have fq6 : w9.frozen? ⟨w.heap.size, 6, none⟩ = false := XP.free 6
              have q7 : w9.cell? ⟨w.heap.size, 7, none⟩ = some (.int .i64 0) := XP.cell 7
              have fq7 : w9.frozen? ⟨w.heap.size, 7, none⟩ = false := XP.free 7
              have hend : Below w.heap.size w ((((((((w9.setCell ⟨w.heap.size, 0, none⟩ (.int .i64 0)).setCell ⟨w.heap.size, 1, none⟩ (.slice none 0 0)).setCell ⟨w.heap.size, 2, none⟩ (.slice none 0 0)).setCell ⟨w.heap.size, 3, none⟩ (.slice none 0 0)).setCell ⟨w.heap.size, 4, none⟩ (.slice none 0 0)).setCell ⟨w.heap.size, 5, none⟩ (.int .i64 0)).setCell ⟨w.heap.size, 6, none⟩ (.int .i64 0)).setCell ⟨w.heap.size, 7, none⟩ (.int .i64 0)) := ((((((((hbt.setCell (Nat.le_refl _) _).setCell (Nat.le_refl _) _).setCell (Nat.le_refl _) _).setCell (Nat.le_refl _) _).setCell (Nat.le_refl _) _).setCell (Nat.le_refl _) _).setCell (Nat.le_refl _) _).setCell (Nat.le_refl _) _)
              go_wp2
              exact bodyPost_ret (v := .tuple #[.agg #[.int .i64 0, .slice none 0 0, .slice none 0 0, .slice none 0 0, .slice none 0 0, .int .i64 0, .int .i64 0, .int .i64 0], .int .i64 50]) (by simp [results, Try.results30, go_sem, q0, q1, q2, q3, q4, q5, q6, q7]) rfl ⟨.agg #[.int .i64 0, .slice none 0 0, .slice none 0 0, .slice none 0 0, .slice none 0 0, .int .i64 0, .int .i64 0, .int .i64 0], by rw [HM2.out], by rw [HM3.out]; exact ⟨_, _, _, _, rfl, Sl.nil _ _ _ _, Sl.nil _ _ _ _, Sl.nil _ _ _ _, Sl.nil _ _ _ _⟩, hend⟩
            · obtain ⟨k1, k2⟩ := yes_hs hx ⟨hm, HBK.out⟩
              have HK1 := Lib.hid k1
              have HK2 := Lib.hid k2
              rw [hm] at n8
              clear hm k1 k2
              go_wp2_with fail
              refine n8.mono ?_
              rintro e w9 ⟨rfl, b9⟩
              have sx9 : SX w w9 w.heap.size W1.heap.size W2.heap.size a xs.length c at_ false _ := sx.grow (r := none) (grown_below b9 (Nat.le_refl _) none) (fun k e => by cases e)
              have hV9 := hV.far b9
              have z9 := b9.size
              clear n8 s0 s1 s2 s3 s4 s5 s6 s7 y1 y2 hV
              have XP := sx9.1
              have hbt := sx9.2.2.2.1
              have q0 : w9.cell? ⟨w.heap.size, 0, none⟩ = some (.int .i64 0) := XP.cell 0
              have fq0 : w9.frozen? ⟨w.heap.size, 0, none⟩ = false := XP.free 0
              have t0 : w9.cell? ⟨W2.heap.size, 0, none⟩ = some (.int .i64 p) := sx9.2.2.1.cell 0
              have q1 : w9.cell? ⟨w.heap.size, 1, none⟩ = some (.slice none 0 0) := XP.cell 1
              have fq1 : w9.frozen? ⟨w.heap.size, 1, none⟩ = false := XP.free 1
              have t1 : w9.cell? ⟨W2.heap.size, 1, none⟩ = some (.slice a6 m6 c6) := sx9.2.2.1.cell 1
              have q2 : w9.cell? ⟨w.heap.size, 2, none⟩ = some (.slice none 0 0) := XP.cell 2
              have fq2 : w9.frozen? ⟨w.heap.size, 2, none⟩ = false := XP.free 2
              have t2 : w9.cell? ⟨W2.heap.size, 2, none⟩ = some (.slice a7 m7 c7) := sx9.2.2.1.cell 2
              have q3 : w9.cell? ⟨w.heap.size, 3, none⟩ = some (.slice none 0 0) := XP.cell 3
              have fq3 : w9.frozen? ⟨w.heap.size, 3, none⟩ = false := XP.free 3
              have t3 : w9.cell? ⟨W2.heap.size, 3, none⟩ = some (.slice a8 m8 c8) := sx9.2.2.1.cell 3
              have q4 : w9.cell? ⟨w.heap.size, 4, none⟩ = some (.slice none 0 0) := XP.cell 4
              have fq4 : w9.frozen? ⟨w.heap.size, 4, none⟩ = false := XP.free 4
              have t4 : w9.cell? ⟨W2.heap.size, 4, none⟩ = some (.slice a9 m9 c9) := sx9.2.2.1.cell 4
              have q5 : w9.cell? ⟨w.heap.size, 5, none⟩ = some (.int .i64 0) := XP.cell 5
              have fq5 : w9.frozen? ⟨w.heap.size, 5, none⟩ = false := XP.free 5
              have t5 : w9.cell? ⟨W2.heap.size, 5, none⟩ = some (.int .i64 d0) := sx9.2.2.1.cell 5
              have q6 : w9.cell? ⟨w.heap.size, 6, none⟩ = some (.int .i64 0) := XP.cell 6
              have fq6 : w9.frozen? ⟨w.heap.size, 6, none⟩ = false := XP.free 6
              have t6 : w9.cell? ⟨W2.heap.size, 6, none⟩ = some (.int .i64 d1) := sx9.2.2.1.cell 6
              have q7 : w9.cell? ⟨w.heap.size, 7, none⟩ = some (.int .i64 0) := XP.cell 7
              have fq7 : w9.frozen? ⟨w.heap.size, 7, none⟩ = false := XP.free 7
              have t7 : w9.cell? ⟨W2.heap.size, 7, none⟩ = some (.int .i64 d2) := sx9.2.2.1.cell 7
              have hend : Below w.heap.size w ((((((((w9.setCell ⟨w.heap.size, 0, none⟩ (.int .i64 p)).setCell ⟨w.heap.size, 1, none⟩ (.slice a6 m6 c6)).setCell ⟨w.heap.size, 2, none⟩ (.slice a7 m7 c7)).setCell ⟨w.heap.size, 3, none⟩ (.slice a8 m8 c8)).setCell ⟨w.heap.size, 4, none⟩ (.slice a9 m9 c9)).setCell ⟨w.heap.size, 5, none⟩ (.int .i64 d0)).setCell ⟨w.heap.size, 6, none⟩ (.int .i64 d1)).setCell ⟨w.heap.size, 7, none⟩ (.int .i64 d2)) := ((((((((hbt.setCell (Nat.le_refl _) _).setCell (Nat.le_refl _) _).setCell (Nat.le_refl _) _).setCell (Nat.le_refl _) _).setCell (Nat.le_refl _) _).setCell (Nat.le_refl _) _).setCell (Nat.le_refl _) _).setCell (Nat.le_refl _) _)
              go_wp2
              refine bodyPost_ret (v := .tuple #[.agg #[.int .i64 p, .slice a6 m6 c6, .slice a7 m7 c7, .slice a8 m8 c8, .slice a9 m9 c9, .int .i64 d0, .int .i64 d1, .int .i64 d2], .int .i64 0]) (by simp [results, Try.results30, go_sem, q0, q1, q2, q3, q4, q5, q6, q7]) rfl ⟨.agg #[.int .i64 p, .slice a6 m6 c6, .slice a7 m7 c7, .slice a8 m8 c8, .slice a9 m9 c9, .int .i64 d0, .int .i64 d1, .int .i64 d2], by rw [HK1.out], ?_, hend⟩
              rw [HK2.out]
              obtain ⟨_, _, _, _, e9, g0', g1', g2', g3'⟩ := hV9
              refine ⟨_, _, _, _, e9, ?_, ?_, ?_, ?_⟩
              · exact (sl_sets g0' (by omega)).wide (by omega) (by simp; omega)
              · exact (sl_sets g1' (by omega)).wide (by omega) (by simp; omega)
              · exact (sl_sets g2' (by omega)).wide (by omega) (by simp; omega)
              · exact (sl_sets g3' (by omega)).wide (by omega) (by simp; omega)
          · have hnot : ¬ Hs xs := fun H => hal (by
              have e := (hs_facts H).2.2.2.2
              rw [← hok2] at e
              have := congrArg List.length e
              rw [List.length_drop, List.length_nil] at this
              omega)
            have ha0 : ((at_ : Int) != (xs.length : Int)) = true := by rw [bne_iff_ne]; omega
            have ha1 : ((at_ : Int) == (xs.length : Int)) = false := beq_eq_false_iff_ne.2 (by omega)
            clear hok hH hok1 hok2 hlS hbk
            obtain ⟨m2, m3⟩ := not_hs hx (hnot)
            have HM2 := Lib.hid m2
            have HM3 := Lib.hid m3
            clear m2 m3
            have XP := sx.1
            have hbt := sx.2.2.2.1
            have q0 : wr.cell? ⟨w.heap.size, 0, none⟩ = some (.int .i64 0) := XP.cell 0
            have fq0 : wr.frozen? ⟨w.heap.size, 0, none⟩ = false := XP.free 0
            have q1 : wr.cell? ⟨w.heap.size, 1, none⟩ = some (.slice none 0 0) := XP.cell 1
            have fq1 : wr.frozen? ⟨w.heap.size, 1, none⟩ = false := XP.free 1
            have q2 : wr.cell? ⟨w.heap.size, 2, none⟩ = some (.slice none 0 0) := XP.cell 2
            have fq2 : wr.frozen? ⟨w.heap.size, 2, none⟩ = false := XP.free 2
            have q3 : wr.cell? ⟨w.heap.size, 3, none⟩ = some (.slice none 0 0) := XP.cell 3
            have fq3 : wr.frozen? ⟨w.heap.size, 3, none⟩ = false := XP.free 3
            have q4 : wr.cell? ⟨w.heap.size, 4, none⟩ = some (.slice none 0 0) := XP.cell 4
            have fq4 : wr.frozen? ⟨w.heap.size, 4, none⟩ = false := XP.free 4
            have q5 : wr.cell? ⟨w.heap.size, 5, none⟩ = some (.int .i64 0) := XP.cell 5
            have fq5 : wr.frozen? ⟨w.heap.size, 5, none⟩ = false := XP.free 5
            have q6 : wr.cell? ⟨w.heap.size, 6, none⟩ = some (.int .i64 0) := XP.cell 6
            have fq6 : wr.frozen? ⟨w.heap.size, 6, none⟩ = false := XP.free 6
            have q7 : wr.cell? ⟨w.heap.size, 7, none⟩ = some (.int .i64 0) := XP.cell 7
            have fq7 : wr.frozen? ⟨w.heap.size, 7, none⟩ = false := XP.free 7
            have hend : Below w.heap.size w ((((((((wr.setCell ⟨w.heap.size, 0, none⟩ (.int .i64 0)).setCell ⟨w.heap.size, 1, none⟩ (.slice none 0 0)).setCell ⟨w.heap.size, 2, none⟩ (.slice none 0 0)).setCell ⟨w.heap.size, 3, none⟩ (.slice none 0 0)).setCell ⟨w.heap.size, 4, none⟩ (.slice none 0 0)).setCell ⟨w.heap.size, 5, none⟩ (.int .i64 0)).setCell ⟨w.heap.size, 6, none⟩ (.int .i64 0)).setCell ⟨w.heap.size, 7, none⟩ (.int .i64 0)) := ((((((((hbt.setCell (Nat.le_refl _) _).setCell (Nat.le_refl _) _).setCell (Nat.le_refl _) _).setCell (Nat.le_refl _) _).setCell (Nat.le_refl _) _).setCell (Nat.le_refl _) _).setCell (Nat.le_refl _) _).setCell (Nat.le_refl _) _)
            go_wp2
            exact bodyPost_ret (v := .tuple #[.agg #[.int .i64 0, .slice none 0 0, .slice none 0 0, .slice none 0 0, .slice none 0 0, .int .i64 0, .int .i64 0, .int .i64 0], .int .i64 50]) (by simp [results, Try.results30, go_sem, q0, q1, q2, q3, q4, q5, q6, q7]) rfl ⟨.agg #[.int .i64 0, .slice none 0 0, .slice none 0 0, .slice none 0 0, .slice none 0 0, .int .i64 0, .int .i64 0, .int .i64 0], by rw [HM2.out], by rw [HM3.out]; exact ⟨_, _, _, _, rfl, Sl.nil _ _ _ _, Sl.nil _ _ _ _, Sl.nil _ _ _ _, Sl.nil _ _ _ _⟩, hend⟩
        · have hnot : ¬ Hs xs := fun H => by have := hH H; cases this
          clear hok hH
          obtain ⟨m2, m3⟩ := not_hs hx (hnot)
          have HM2 := Lib.hid m2
          have HM3 := Lib.hid m3
          clear m2 m3
          have XP := sx.1
          have hbt := sx.2.2.2.1
          have q0 : wr.cell? ⟨w.heap.size, 0, none⟩ = some (.int .i64 0) := XP.cell 0
          have fq0 : wr.frozen? ⟨w.heap.size, 0, none⟩ = false := XP.free 0
          have q1 : wr.cell? ⟨w.heap.size, 1, none⟩ = some (.slice none 0 0) := XP.cell 1
          have fq1 : wr.frozen? ⟨w.heap.size, 1, none⟩ = false := XP.free 1
          have q2 : wr.cell? ⟨w.heap.size, 2, none⟩ = some (.slice none 0 0) := XP.cell 2
          have fq2 : wr.frozen? ⟨w.heap.size, 2, none⟩ = false := XP.free 2
          have q3 : wr.cell? ⟨w.heap.size, 3, none⟩ = some (.slice none 0 0) := XP.cell 3
          have fq3 : wr.frozen? ⟨w.heap.size, 3, none⟩ = false := XP.free 3
          have q4 : wr.cell? ⟨w.heap.size, 4, none⟩ = some (.slice none 0 0) := XP.cell 4
          have fq4 : wr.frozen? ⟨w.heap.size, 4, none⟩ = false := XP.free 4
          have q5 : wr.cell? ⟨w.heap.size, 5, none⟩ = some (.int .i64 0) := XP.cell 5
          have fq5 : wr.frozen? ⟨w.heap.size, 5, none⟩ = false := XP.free 5
          have q6 : wr.cell? ⟨w.heap.size, 6, none⟩ = some (.int .i64 0) := XP.cell 6
          have fq6 : wr.frozen? ⟨w.heap.size, 6, none⟩ = false := XP.free 6
          have q7 : wr.cell? ⟨w.heap.size, 7, none⟩ = some (.int .i64 0) := XP.cell 7
          have fq7 : wr.frozen? ⟨w.heap.size, 7, none⟩ = false := XP.free 7
          have hend : Below w.heap.size w ((((((((wr.setCell ⟨w.heap.size, 0, none⟩ (.int .i64 0)).setCell ⟨w.heap.size, 1, none⟩ (.slice none 0 0)).setCell ⟨w.heap.size, 2, none⟩ (.slice none 0 0)).setCell ⟨w.heap.size, 3, none⟩ (.slice none 0 0)).setCell ⟨w.heap.size, 4, none⟩ (.slice none 0 0)).setCell ⟨w.heap.size, 5, none⟩ (.int .i64 0)).setCell ⟨w.heap.size, 6, none⟩ (.int .i64 0)).setCell ⟨w.heap.size, 7, none⟩ (.int .i64 0)) := ((((((((hbt.setCell (Nat.le_refl _) _).setCell (Nat.le_refl _) _).setCell (Nat.le_refl _) _).setCell (Nat.le_refl _) _).setCell (Nat.le_refl _) _).setCell (Nat.le_refl _) _).setCell (Nat.le_refl _) _).setCell (Nat.le_refl _) _)
          go_wp2
          exact bodyPost_ret (v := .tuple #[.agg #[.int .i64 0, .slice none 0 0, .slice none 0 0, .slice none 0 0, .slice none 0 0, .int .i64 0, .int .i64 0, .int .i64 0], .int .i64 50]) (by simp [results, Try.results30, go_sem, q0, q1, q2, q3, q4, q5, q6, q7]) rfl ⟨.agg #[.int .i64 0, .slice none 0 0, .slice none 0 0, .slice none 0 0, .slice none 0 0, .int .i64 0, .int .i64 0, .int .i64 0], by rw [HM2.out], by rw [HM3.out]; exact ⟨_, _, _, _, rfl, Sl.nil _ _ _ _, Sl.nil _ _ _ _, Sl.nil _ _ _ _, Sl.nil _ _ _ _⟩, hend⟩
end Go.Proofs.Ytmbphhcgmdaoeaa
