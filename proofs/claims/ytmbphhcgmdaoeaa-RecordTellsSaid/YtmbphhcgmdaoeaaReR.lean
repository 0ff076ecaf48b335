/- What is proved: flumeref05's StateBytes answers as the spec says. -/
import Derived.Test.YtmbphhcgmdaoeaaReK
import Derived.Test.YtmbphhcgmdaoeaaRvT
import Derived.Test.YtmbphhcgmdaoeaaRcO
import Derived.Test.YtmbphhcgmdaoeaaRcG
import Derived.Test.YtmbphhcgmdaoeaaRvJ
import Derived.Deep.RegionLaw
namespace Go.Proofs.Ytmbphhcgmdaoeaa
open Go.RowKit

theorem OwB.one {w : World} {B : Nat} {v : Value} {xs : List Int} {b : Int} (h : w.ownsRow B 5 1 v (xs.length + 1) (u8s xs ++ u8s [b])) (h0 : 0 ≤ b) (h1 : b < 256) : OwB w B v (xs ++ le b 1) := by
  unfold OwB
  rw [le_one, Int.emod_eq_of_lt h0 h1, List.length_append, u8s_append]
  exact h
theorem OwB.two {w : World} {B : Nat} {v : Value} {xs : List Int} {b d : Int} (h : w.ownsRow B 5 1 v (xs.length + 2) (u8s xs ++ u8s [b, d])) (h0 : 0 ≤ b) (h1 : b < 256) (h2 : 0 ≤ d) (h3 : d < 256) : OwB w B v (xs ++ (le b 1 ++ le d 1)) := by
  unfold OwB
  rw [le_one, le_one, Int.emod_eq_of_lt h0 h1, Int.emod_eq_of_lt h2 h3, List.length_append, u8s_append]
  exact h
theorem OwB.to {w : World} {B : Nat} {v : Value} {xs ys : List Int} (h : OwB w B v xs) (e : xs = ys) : OwB w B v ys := e ▸ h
theorem itE_at {l : List It} {k : Nat} (hlt : k < l.length) : (l.take (k + 1)).flatMap itE = (l.take k).flatMap itE ++ (le (l.getD k itD).key 1 ++ (le (l.getD k itD).place 3 ++ le (l.getD k itD).val 1)) := by
  rw [List.take_add_one, it_getD hlt, List.flatMap_append]
  simp [itE]
theorem lnE_at {l : List Ln} {k : Nat} (hlt : k < l.length) : (l.take (k + 1)).flatMap lnE = (l.take k).flatMap lnE ++ (le (l.getD k lnD).place 3 ++ (le ((l.getD k lnD).j + 16 * (l.getD k lnD).key) 1 ++ le (l.getD k lnD).val 1)) := by
  rw [List.take_add_one, ln_getD hlt, List.flatMap_append]
  simp [lnE]
theorem itE_short (l : List It) (k : Nat) : ((l.take k).flatMap itE).length ≤ 5 * l.length := by
  have := flatMap_len itE 5 itE_len (l.take k)
  rw [List.length_take] at this
  omega
theorem lnE_short (l : List Ln) (k : Nat) : ((l.take k).flatMap lnE).length ≤ 5 * l.length := by
  have := flatMap_len lnE 5 lnE_len (l.take k)
  rw [List.length_take] at this
  omega
theorem firstOff_at {l : List Ln} (h : 0 < l.length) : firstOff l = (l.getD 0 lnD).off := by
  match l, h with
  | x :: l, _ => rfl
theorem firstOff_nil {l : List Ln} (h : l.length = 0) : firstOff l = 0 := by
  match l, h with
  | [], _ => rfl
set_option maxRecDepth 100000 in
set_option maxHeartbeats 12800000 in
theorem rsbytes_spec : StateBytesSpec 16 := by
  intro v s w h hI
  obtain ⟨v0, v1, v2, v3, rfl, h0, h1, h2, h3⟩ := id h
  obtain ⟨W1, E1, B1, X1, S1⟩ := Blk.new w 30 #[.int .i64 s.place, v0, v1, v2, v3, .int .i64 s.c0, .int .i64 s.c1, .int .i64 s.c2]
  have k0 : W1.cell? ⟨w.heap.size, 0, none⟩ = some (.int .i64 s.place) := X1.cell 0
  have k1 : W1.cell? ⟨w.heap.size, 1, none⟩ = some v0 := X1.cell 1
  have k2 : W1.cell? ⟨w.heap.size, 2, none⟩ = some v1 := X1.cell 2
  have k3 : W1.cell? ⟨w.heap.size, 3, none⟩ = some v2 := X1.cell 3
  have k4 : W1.cell? ⟨w.heap.size, 4, none⟩ = some v3 := X1.cell 4
  have k5 : W1.cell? ⟨w.heap.size, 5, none⟩ = some (.int .i64 s.c0) := X1.cell 5
  have k6 : W1.cell? ⟨w.heap.size, 6, none⟩ = some (.int .i64 s.c1) := X1.cell 6
  have k7 : W1.cell? ⟨w.heap.size, 7, none⟩ = some (.int .i64 s.c2) := X1.cell 7
  have n1 := rstands_spec _ s W1 ((h.far B1).wide (Nat.le_refl _) B1.size) hI
  rcases hm : stands s with _ | _
  · rw [(souE_no hm).1, (souE_no hm).2]
    rw [hm] at n1
    go_enter Try.func16, Try.ntmps16
    go_wp2_with fail
    refine n1.mono ?_
    rintro e w2 ⟨rfl, b2⟩
    go_wp2
    go_ret2
    exact ⟨_, rfl, Sl.nil _ _ _ _, below_on B1 b2⟩
  · rw [(souE_yes hm).1, (souE_yes hm).2]
    rw [hm] at n1
    obtain ⟨p1, p2, p3, p4, p5, p6⟩ := stands_parts hm
    have i0 := itsB_len p3
    obtain ⟨i1, a11, a12, a13⟩ := lnsB_parts p4
    obtain ⟨i2, a21, a22, a23⟩ := lnsB_parts p5
    obtain ⟨i3, a31, a32, a33⟩ := lnsB_parts p6
    have hstE : stE s = le s.place 3 ++ le (s.items.length : Int) 1 ++ s.items.flatMap itE ++ parB s 3 := by simp [stE, parB]
    rw [hstE]
    have hit := itsB_parts p3
    have hpar := parB_short (s := s) i1 i2 i3
    have hp1 := parB_1 s
    have hp2 := parB_2 s
    have hp3 := parB_3 s
    clear hm h hstE hI p3 p4 p5 p6
    obtain ⟨a0, b0, rfl, _, _, hr0⟩ := h0
    obtain ⟨a1, b1, rfl, _, _, hr1⟩ := h1
    obtain ⟨a2, b2, rfl, _, _, hr2⟩ := h2
    obtain ⟨a3, b3, rfl, _, _, hr3⟩ := h3
    obtain ⟨it0, hi, hz0, hz1, hz2⟩ := info_parts info_u8
    go_enter Try.func16, Try.ntmps16
    go_wp2_with fail
    refine n1.mono ?_
    rintro e w2 ⟨rfl, c2⟩
    have X2 := X1.far c2 X1.lt
    have b02 := below_on B1 c2
    have hw2 : w.heap.size < w2.heap.size := X2.lt
    have j0 : w2.cell? ⟨w.heap.size, 0, none⟩ = some (.int .i64 s.place) := X2.cell 0
    clear n1 E1 B1 X1 S1 c2 k0 k1 k2 k3 k4 k5 k6 k7
    go_wp2_with fail
    refine (rput_own w2 w2.heap.size (.slice none 0 0) [] s.place (World.ownsRow_nil _ _ _ 1) (Nat.le_refl _) (by omega) (by omega) (by simp)).mono ?_
    rintro e w3 ⟨v3, rfl, o3, b3'⟩
    have X3 := X2.far b3' hw2
    have j1 : w3.cell? ⟨w.heap.size, 1, none⟩ = some (.slice a0 s.items.length b0) := X3.cell 1
    have m0 : IntKind.u8.wrap (s.items.length : Int) = (s.items.length : Int) := IntWalk.u8_in _ (by omega)
    have m0' : (s.items.length : Int) % 256 = (s.items.length : Int) := by omega
    clear j0
    go_wp2_with (at_builtin; refine wpList_append_src _ rfl (.tmp 20) (.tmp 25) _ rfl it0 (.int .u8 0) 1 Try.underlying34 hi hz0 hz1 hz2 rfl rfl (b3'.alloc b3'.size _) (World.ownsRow.alloc o3 _) rfl (Rd.new w3 5 [(s.items.length : Int)]) (u8s_one _) (by unfold maxLen; simp [le_length]) (by simp [le_length]) ?_; intro v4 w4 b4 o4)
    have o4' := OwB.one o4 (by omega) (by omega)
    clear o4 o3 b3' X3 j1 m0 m0'
    go_loopw [4, 6] (fun x i wr => ∃ k : Nat, k ≤ s.items.length ∧ i = .int .i64 k ∧ OwB wr w2.heap.size x (le s.place 3 ++ le (s.items.length : Int) 1 ++ (s.items.take k).flatMap itE) ∧ Below w2.heap.size w2 wr) (fun _ i _ => s.items.length - (intOf i).toNat)
    case atStart => exact ⟨0, Nat.zero_le _, rfl, o4'.to (by simp), b4⟩
    case round =>
      clear o4' b4
      obtain ⟨k, hk, rfl, ho, hbr⟩ := hrel
      have Xr := X2.far hbr hw2
      have j1 : wr.cell? ⟨w.heap.size, 1, none⟩ = some (.slice a0 s.items.length b0) := Xr.cell 1
      by_cases hlt : k < s.items.length
      · obtain ⟨g, o, rfl, _, hg, _⟩ := hr0.addr (by omega)
        have HQ := fun (W : World) (hb : Below w2.heap.size w2 W) => it_cells (hr0.far (b02.trans (hb.mono b02.size))) hlt
        have hk2 : ((k : Int) * 3).toNat = k * 3 := by omega
        have hki : (k : Int) < (s.items.length : Int) := by omega
        have hk0 : (0 : Int) ≤ k := by omega
        obtain ⟨r1, r2, r3, r4, r5, r6⟩ := hit k _ (it_getD hlt)
        have HT := Lib.hid (itE_at hlt)
        have hxl := itE_short s.items k
        generalize s.items.getD k itD = x at *
        have hxn : (le s.place 3 ++ le (s.items.length : Int) 1 ++ (s.items.take k).flatMap itE).length ≤ 500 := by simp only [List.length_append, le_length]; omega
        generalize hX : le s.place 3 ++ le (s.items.length : Int) 1 ++ (s.items.take k).flatMap itE = xs at *
        have HX := Lib.hid hX
        clear hX
        obtain ⟨q0, q1, q2⟩ := HQ _ hbr
        have m1 : IntKind.u8.wrap x.key = x.key := IntWalk.u8_in _ (by omega)
        have m2 : IntKind.u8.wrap x.val = x.val := IntWalk.u8_in _ (by omega)
        have m1' : x.key % 256 = x.key := by omega
        have m2' : x.val % 256 = x.val := by omega
        go_wp2_with (at_builtin; refine wpList_append_src _ rfl (.tmp 34) (.tmp 42) _ rfl it0 (.int .u8 0) 1 Try.underlying34 hi hz0 hz1 hz2 rfl rfl (hbr.alloc hbr.size _) (World.ownsRow.alloc ho _) rfl (Rd.new wr 5 [x.key]) (u8s_one _) (by unfold maxLen; omega) (by omega) ?_; intro v5 w5 b5 o5; have X5 := X2.far b5 hw2; have j5 : w5.cell? ⟨w.heap.size, 1, none⟩ = some (.slice (some ⟨g, o, none⟩) s.items.length b0) := X5.cell 1; have q5 := (HQ _ b5).2.1)
        have o5' := OwB.one o5 (by omega) (by omega)
        clear j1 q0 q1 q2
        refine (rput_own w5 w2.heap.size v5 _ x.place o5' b5.size (by omega) (by omega) (by simp [le_length]; omega)).mono ?_
        rintro e w6 ⟨v6, rfl, o6, b6'⟩
        have b6 := b5.trans b6'
        have X6 := X2.far b6 hw2
        have j6 : w6.cell? ⟨w.heap.size, 1, none⟩ = some (.slice (some ⟨g, o, none⟩) s.items.length b0) := X6.cell 1
        have q6 := (HQ _ b6).2.2
        clear o5 o5' b5 X5 j5 q5
        go_wp2_with (at_builtin; refine wpList_append_src _ rfl (.tmp 55) (.tmp 63) _ rfl it0 (.int .u8 0) 1 Try.underlying34 hi hz0 hz1 hz2 rfl rfl (b6.alloc b6.size _) (World.ownsRow.alloc o6 _) rfl (Rd.new w6 5 [x.val]) (u8s_one _) (by unfold maxLen; simp [le_length]; omega) (by simp [le_length]; omega) ?_; intro v7 w7 b7 o7)
        have o7' := OwB.one o7 (by omega) (by omega)
        go_roundw
        case rel => exact ⟨k + 1, by omega, by go_num, o7'.to (by rw [← HX.out, HT.out]; simp), b7⟩
        case measure => simp [intOf]; omega
      · obtain rfl : k = s.items.length := by omega
        rw [List.take_length] at ho
        have hdl : (le s.place 3 ++ le (s.items.length : Int) 1 ++ s.items.flatMap itE).length ≤ 500 := by
          have := flatMap_len itE 5 itE_len s.items
          simp only [List.length_append, le_length]; omega
        generalize hHD : le s.place 3 ++ le (s.items.length : Int) 1 ++ s.items.flatMap itE = hd at *
        have HH := Lib.hid hHD
        clear hHD
        go_wp2_with fail
        clear j1 hit Xr
        go_loopw [4, 7] (fun x i wr => ∃ k : Int, (0 ≤ k ∧ k ≤ 3) ∧ i = .int .i64 k ∧ OwB wr w2.heap.size x (hd ++ parB s k.toNat) ∧ Below w2.heap.size w2 wr) (fun _ i _ => 3 - (intOf i).toNat)
        case atStart => exact ⟨0, by decide, rfl, ho.to (by simp [parB]), hbr⟩
        case round =>
          clear ho hbr
          obtain ⟨k, hk, rfl, ho, hbr⟩ := hrel
          have Xr := X2.far hbr hw2
          obtain rfl | rfl | rfl | rfl : k = 0 ∨ k = 1 ∨ k = 2 ∨ k = 3 := by omega
          · have t2 : wr.cell? ⟨w.heap.size, 2, none⟩ = some (.slice a1 s.l0.length b1) := Xr.cell 2
            have t5 : wr.cell? ⟨w.heap.size, 5, none⟩ = some (.int .i64 s.c0) := Xr.cell 5
            have hpq := hpar 0
            have ho' : OwB wr w2.heap.size _ (hd ++ parB s 0) := ho
            have hon : (hd ++ parB s 0).length ≤ 800 := by rw [List.length_append]; omega
            have HP := Lib.hid (hp1 hd)
            clear ho
            generalize hd ++ parB s 0 = xs at *
            go_wp2_with fail
            refine (rput_own wr w2.heap.size _ xs s.c0 ho' hbr.size (by omega) (by omega) (by omega)).mono ?_
            rintro e w6 ⟨v6, rfl, o6, b6'⟩
            have b6 := hbr.trans b6'
            have m1 : IntKind.u8.wrap (s.l0.length : Int) = (s.l0.length : Int) := IntWalk.u8_in _ (by omega)
            have m1' : (s.l0.length : Int) % 256 = (s.l0.length : Int) := by omega
            clear t2 t5 ho' b6'
            by_cases hlz : s.l0.length = 0
            · have hfo := firstOff_nil hlz
              have e1 : ((0 : Int) < (s.l0.length : Int)) = False := eq_false (by omega)
              have e1' : (0 < s.l0.length) = False := eq_false (by omega)
              have HZ := Lib.hid hlz
              clear hlz
              go_wp2_with (at_builtin; refine wpList_append_src _ rfl (.tmp 82) (.tmp 86) _ rfl it0 (.int .u8 0) 1 Try.underlying34 hi hz0 hz1 hz2 rfl rfl (b6.alloc b6.size _) (World.ownsRow.alloc o6 _) rfl (Rd.new w6 5 [(s.l0.length : Int)]) (u8s_one _) (by unfold maxLen; simp [le_length]; omega) (by simp [le_length]; omega) ?_; intro v7 w7 b7 o7)
              have o7' := OwB.one o7 (by omega) (by omega)
              refine (rput_own w7 w2.heap.size v7 _ 0 o7' b7.size (by omega) (by omega) (by simp [le_length]; omega)).mono ?_
              rintro e w8 ⟨v8, rfl, o8, b8'⟩
              have b8 := b7.trans b8'
              clear o6 b6 o7 o7' b7 b8'
              go_wp2_with fail
              go_loopw [4, 10] (fun x i wr => ∃ k : Nat, k = 0 ∧ i = .int .i64 k ∧ OwB wr w2.heap.size x (xs ++ le s.c0 3 ++ le (s.l0.length : Int) 1 ++ le 0 3) ∧ Below w2.heap.size w2 wr) (fun _ i _ => s.l0.length - (intOf i).toNat)
              case atStart => exact ⟨0, rfl, rfl, o8, b8⟩
              case round =>
                clear o8 b8
                obtain ⟨k, rfl, rfl, ho, hb⟩ := hrel
                go_wp2
                go_roundw
                case rel => exact ⟨1, by omega, by go_num, ho.to (by
                  have e : s.l0 = [] := List.length_eq_zero_iff.1 HZ.out
                  show _ = hd ++ parB s 1
                  rw [← HP.out, hfo, e]; simp), hb⟩
                case measure => simp [intOf]
            · have hfo := firstOff_at (l := s.l0) (by omega)
              have hlp : (0 : Int) < (s.l0.length : Int) := by omega
              have hlp' : 0 < s.l0.length := by omega
              obtain ⟨g, o, rfl, _, hg, _⟩ := hr1.addr (by omega)
              have HQ0 := fun (W : World) (hb : Below w2.heap.size w2 W) => (ln_cells (k := 0) (hr1.far (b02.trans (hb.mono b02.size))) hlp').1
              rw [← hfo] at HQ0
              simp only [Nat.zero_mul, Nat.add_zero] at HQ0
              have hf1 := (a13 0 _ (ln_getD hlp'))
              rw [← hfo] at hf1
              clear hfo
              generalize hF : firstOff s.l0 = f at *
              have HF := Lib.hid hF
              clear hF
              go_wp2_with (at_builtin; refine wpList_append_src _ rfl (.tmp 82) (.tmp 86) _ rfl it0 (.int .u8 0) 1 Try.underlying34 hi hz0 hz1 hz2 rfl rfl (b6.alloc b6.size _) (World.ownsRow.alloc o6 _) rfl (Rd.new w6 5 [(s.l0.length : Int)]) (u8s_one _) (by unfold maxLen; simp [le_length]; omega) (by simp [le_length]; omega) ?_; intro v7 w7 b7 o7; have q7 := HQ0 _ b7)
              have o7' := OwB.one o7 (by omega) (by omega)
              refine (rput_own w7 w2.heap.size v7 _ f o7' b7.size (by omega) (by omega) (by simp [le_length]; omega)).mono ?_
              rintro e w8 ⟨v8, rfl, o8, b8'⟩
              have b8 := b7.trans b8'
              clear o6 b6 o7 o7' b7 b8' q7 HQ0 hf1
              go_wp2_with fail
              go_loopw [4, 10] (fun x i wr => ∃ k : Nat, k ≤ s.l0.length ∧ i = .int .i64 k ∧ OwB wr w2.heap.size x (xs ++ le s.c0 3 ++ le (s.l0.length : Int) 1 ++ le f 3 ++ (s.l0.take k).flatMap lnE) ∧ Below w2.heap.size w2 wr) (fun _ i _ => s.l0.length - (intOf i).toNat)
              case atStart => exact ⟨0, Nat.zero_le _, rfl, o8.to (by simp), b8⟩
              case round =>
                clear o8 b8
                obtain ⟨k, hk', rfl, ho, hb⟩ := hrel
                by_cases hlt : k < s.l0.length
                · have HQ := fun (W : World) (hb : Below w2.heap.size w2 W) => ln_cells (hr1.far (b02.trans (hb.mono b02.size))) hlt
                  have hk2 : ((k : Int) * 5).toNat = k * 5 := by omega
                  have hki : (k : Int) < (s.l0.length : Int) := by omega
                  have hk0 : (0 : Int) ≤ k := by omega
                  obtain ⟨r1, r2, r3, r4, r5, r6, r7, r8, r9, r10⟩ := a13 k _ (ln_getD hlt)
                  have HT := Lib.hid (lnE_at hlt)
                  have hxl := lnE_short s.l0 k
                  generalize s.l0.getD k lnD = x at *
                  have hxn : (xs ++ le s.c0 3 ++ le (s.l0.length : Int) 1 ++ le f 3 ++ (s.l0.take k).flatMap lnE).length ≤ 950 := by simp only [List.length_append, le_length]; omega
                  generalize hX : xs ++ le s.c0 3 ++ le (s.l0.length : Int) 1 ++ le f 3 ++ (s.l0.take k).flatMap lnE = ys at *
                  have HX := Lib.hid hX
                  clear hX
                  obtain ⟨q0, q1, q2, q3, q4⟩ := HQ _ hb
                  go_wp2_with fail
                  refine (rput_own wr w2.heap.size _ ys x.place ho hb.size (by omega) (by omega) (by omega)).mono ?_
                  rintro e w9 ⟨v9, rfl, o9, b9'⟩
                  have b9 := hb.trans b9'
                  clear q0 q1 q2 q3 q4
                  obtain ⟨q0, q1, q2, q3, q4⟩ := HQ _ b9
                  have e0 : IntKind.i64.wrap (16 * x.key) = 16 * x.key := IntWalk.i64_in _ (by omega)
                  have e1 : IntKind.i64.wrap (x.j + 16 * x.key) = x.j + 16 * x.key := IntWalk.i64_in _ (by omega)
                  have e2 : IntKind.u8.wrap (x.j + 16 * x.key) = x.j + 16 * x.key := IntWalk.u8_in _ (by omega)
                  have e3 : IntKind.u8.wrap x.val = x.val := IntWalk.u8_in _ (by omega)
                  have ez : (ys ++ le x.place 3).length ≤ 960 := by simp [le_length]; omega
                  clear ho b9' HQ hxl hxn hon hpar
                  generalize hZ : ys ++ le x.place 3 = zs at *
                  have HZ := Lib.hid hZ
                  clear hZ
                  go_wp2_with fail
                  go_region_law (first
                    | (refine step_append_own (by rfl) (.tmp 117) (.tmp 137) _ (by rfl) w2 _ it0 _ 1 1 Try.underlying34 hi hz0 hz1 hz2 rfl (by decide) _ _ _ (by rfl) (by first | exact b9.alloc b9.size _ | exact b9.drew.alloc b9.size _) (by first | exact World.ownsRow.alloc o9 _ | exact (World.ownsRow.drew o9).alloc _) 0 (w9.heap.size + 1) _ 2 2 (u8s [x.j + 16 * x.key, x.val]) (by rfl) (by first | exact (Rd.new w9 5 [x.j + 16 * x.key, x.val]).rg | exact (Rd.new w9.drew 5 [x.j + 16 * x.key, x.val]).rg) (u8s_one _) (by unfold maxLen; omega) (by omega) ?_; intro va wa ba oa _)
                    | fail)
                  all_goals
                    have oa' := OwB.two oa (by omega) (by omega) (by omega) (by omega)
                    go_wp2
                    go_roundw
                    case rel => exact ⟨k + 1, by omega, by go_num, oa'.to (by rw [HT.out, ← HZ.out, ← HX.out]; simp), ba⟩
                    case measure => simp [intOf]; omega
                · obtain rfl : k = s.l0.length := by omega
                  rw [List.take_length] at ho
                  go_wp2
                  go_roundw
                  case rel => exact ⟨1, by omega, by go_num, ho.to (by
                    show _ = hd ++ parB s 1
                    rw [← HP.out]; simp), hb⟩
                  case measure => simp [intOf]
          · have t2 : wr.cell? ⟨w.heap.size, 3, none⟩ = some (.slice a2 s.l1.length b2) := Xr.cell 3
            have t5 : wr.cell? ⟨w.heap.size, 6, none⟩ = some (.int .i64 s.c1) := Xr.cell 6
            have hpq := hpar 1
            have ho' : OwB wr w2.heap.size _ (hd ++ parB s 1) := ho
            have hon : (hd ++ parB s 1).length ≤ 800 := by rw [List.length_append]; omega
            have HP := Lib.hid (hp2 hd)
            clear ho
            generalize hd ++ parB s 1 = xs at *
            go_wp2_with fail
            refine (rput_own wr w2.heap.size _ xs s.c1 ho' hbr.size (by omega) (by omega) (by omega)).mono ?_
            rintro e w6 ⟨v6, rfl, o6, b6'⟩
            have b6 := hbr.trans b6'
            have m1 : IntKind.u8.wrap (s.l1.length : Int) = (s.l1.length : Int) := IntWalk.u8_in _ (by omega)
            have m1' : (s.l1.length : Int) % 256 = (s.l1.length : Int) := by omega
            clear t2 t5 ho' b6'
            by_cases hlz : s.l1.length = 0
            · have hfo := firstOff_nil hlz
              have e1 : ((0 : Int) < (s.l1.length : Int)) = False := eq_false (by omega)
              have e1' : (0 < s.l1.length) = False := eq_false (by omega)
              have HZ := Lib.hid hlz
              clear hlz
              go_wp2_with (at_builtin; refine wpList_append_src _ rfl (.tmp 82) (.tmp 86) _ rfl it0 (.int .u8 0) 1 Try.underlying34 hi hz0 hz1 hz2 rfl rfl (b6.alloc b6.size _) (World.ownsRow.alloc o6 _) rfl (Rd.new w6 5 [(s.l1.length : Int)]) (u8s_one _) (by unfold maxLen; simp [le_length]; omega) (by simp [le_length]; omega) ?_; intro v7 w7 b7 o7)
              have o7' := OwB.one o7 (by omega) (by omega)
              refine (rput_own w7 w2.heap.size v7 _ 0 o7' b7.size (by omega) (by omega) (by simp [le_length]; omega)).mono ?_
              rintro e w8 ⟨v8, rfl, o8, b8'⟩
              have b8 := b7.trans b8'
              clear o6 b6 o7 o7' b7 b8'
              go_wp2_with fail
              go_loopw [4, 10] (fun x i wr => ∃ k : Nat, k = 0 ∧ i = .int .i64 k ∧ OwB wr w2.heap.size x (xs ++ le s.c1 3 ++ le (s.l1.length : Int) 1 ++ le 0 3) ∧ Below w2.heap.size w2 wr) (fun _ i _ => s.l1.length - (intOf i).toNat)
              case atStart => exact ⟨0, rfl, rfl, o8, b8⟩
              case round =>
                clear o8 b8
                obtain ⟨k, rfl, rfl, ho, hb⟩ := hrel
                go_wp2
                go_roundw
                case rel => exact ⟨2, by omega, by go_num, ho.to (by
                  have e : s.l1 = [] := List.length_eq_zero_iff.1 HZ.out
                  show _ = hd ++ parB s 2
                  rw [← HP.out, hfo, e]; simp), hb⟩
                case measure => simp [intOf]
            · have hfo := firstOff_at (l := s.l1) (by omega)
              have hlp : (0 : Int) < (s.l1.length : Int) := by omega
              have hlp' : 0 < s.l1.length := by omega
              obtain ⟨g, o, rfl, _, hg, _⟩ := hr2.addr (by omega)
              have HQ0 := fun (W : World) (hb : Below w2.heap.size w2 W) => (ln_cells (k := 0) (hr2.far (b02.trans (hb.mono b02.size))) hlp').1
              rw [← hfo] at HQ0
              simp only [Nat.zero_mul, Nat.add_zero] at HQ0
              have hf1 := (a23 0 _ (ln_getD hlp'))
              rw [← hfo] at hf1
              clear hfo
              generalize hF : firstOff s.l1 = f at *
              have HF := Lib.hid hF
              clear hF
              go_wp2_with (at_builtin; refine wpList_append_src _ rfl (.tmp 82) (.tmp 86) _ rfl it0 (.int .u8 0) 1 Try.underlying34 hi hz0 hz1 hz2 rfl rfl (b6.alloc b6.size _) (World.ownsRow.alloc o6 _) rfl (Rd.new w6 5 [(s.l1.length : Int)]) (u8s_one _) (by unfold maxLen; simp [le_length]; omega) (by simp [le_length]; omega) ?_; intro v7 w7 b7 o7; have q7 := HQ0 _ b7)
              have o7' := OwB.one o7 (by omega) (by omega)
              refine (rput_own w7 w2.heap.size v7 _ f o7' b7.size (by omega) (by omega) (by simp [le_length]; omega)).mono ?_
              rintro e w8 ⟨v8, rfl, o8, b8'⟩
              have b8 := b7.trans b8'
              clear o6 b6 o7 o7' b7 b8' q7 HQ0 hf1
              go_wp2_with fail
              go_loopw [4, 10] (fun x i wr => ∃ k : Nat, k ≤ s.l1.length ∧ i = .int .i64 k ∧ OwB wr w2.heap.size x (xs ++ le s.c1 3 ++ le (s.l1.length : Int) 1 ++ le f 3 ++ (s.l1.take k).flatMap lnE) ∧ Below w2.heap.size w2 wr) (fun _ i _ => s.l1.length - (intOf i).toNat)
              case atStart => exact ⟨0, Nat.zero_le _, rfl, o8.to (by simp), b8⟩
              case round =>
                clear o8 b8
                obtain ⟨k, hk', rfl, ho, hb⟩ := hrel
                by_cases hlt : k < s.l1.length
                · have HQ := fun (W : World) (hb : Below w2.heap.size w2 W) => ln_cells (hr2.far (b02.trans (hb.mono b02.size))) hlt
                  have hk2 : ((k : Int) * 5).toNat = k * 5 := by omega
                  have hki : (k : Int) < (s.l1.length : Int) := by omega
                  have hk0 : (0 : Int) ≤ k := by omega
                  obtain ⟨r1, r2, r3, r4, r5, r6, r7, r8, r9, r10⟩ := a23 k _ (ln_getD hlt)
                  have HT := Lib.hid (lnE_at hlt)
                  have hxl := lnE_short s.l1 k
                  generalize s.l1.getD k lnD = x at *
                  have hxn : (xs ++ le s.c1 3 ++ le (s.l1.length : Int) 1 ++ le f 3 ++ (s.l1.take k).flatMap lnE).length ≤ 950 := by simp only [List.length_append, le_length]; omega
                  generalize hX : xs ++ le s.c1 3 ++ le (s.l1.length : Int) 1 ++ le f 3 ++ (s.l1.take k).flatMap lnE = ys at *
                  have HX := Lib.hid hX
                  clear hX
                  obtain ⟨q0, q1, q2, q3, q4⟩ := HQ _ hb
                  go_wp2_with fail
                  refine (rput_own wr w2.heap.size _ ys x.place ho hb.size (by omega) (by omega) (by omega)).mono ?_
                  rintro e w9 ⟨v9, rfl, o9, b9'⟩
                  have b9 := hb.trans b9'
                  clear q0 q1 q2 q3 q4
                  obtain ⟨q0, q1, q2, q3, q4⟩ := HQ _ b9
                  have e0 : IntKind.i64.wrap (16 * x.key) = 16 * x.key := IntWalk.i64_in _ (by omega)
                  have e1 : IntKind.i64.wrap (x.j + 16 * x.key) = x.j + 16 * x.key := IntWalk.i64_in _ (by omega)
                  have e2 : IntKind.u8.wrap (x.j + 16 * x.key) = x.j + 16 * x.key := IntWalk.u8_in _ (by omega)
                  have e3 : IntKind.u8.wrap x.val = x.val := IntWalk.u8_in _ (by omega)
                  have ez : (ys ++ le x.place 3).length ≤ 960 := by simp [le_length]; omega
                  clear ho b9' HQ hxl hxn hon hpar
                  generalize hZ : ys ++ le x.place 3 = zs at *
                  have HZ := Lib.hid hZ
                  clear hZ
                  go_wp2_with fail
                  go_region_law (first
                    | (refine step_append_own (by rfl) (.tmp 117) (.tmp 137) _ (by rfl) w2 _ it0 _ 1 1 Try.underlying34 hi hz0 hz1 hz2 rfl (by decide) _ _ _ (by rfl) (by first | exact b9.alloc b9.size _ | exact b9.drew.alloc b9.size _) (by first | exact World.ownsRow.alloc o9 _ | exact (World.ownsRow.drew o9).alloc _) 0 (w9.heap.size + 1) _ 2 2 (u8s [x.j + 16 * x.key, x.val]) (by rfl) (by first | exact (Rd.new w9 5 [x.j + 16 * x.key, x.val]).rg | exact (Rd.new w9.drew 5 [x.j + 16 * x.key, x.val]).rg) (u8s_one _) (by unfold maxLen; omega) (by omega) ?_; intro va wa ba oa _)
                    | fail)
                  all_goals
                    have oa' := OwB.two oa (by omega) (by omega) (by omega) (by omega)
                    go_wp2
                    go_roundw
                    case rel => exact ⟨k + 1, by omega, by go_num, oa'.to (by rw [HT.out, ← HZ.out, ← HX.out]; simp), ba⟩
                    case measure => simp [intOf]; omega
                · obtain rfl : k = s.l1.length := by omega
                  rw [List.take_length] at ho
                  go_wp2
                  go_roundw
                  case rel => exact ⟨2, by omega, by go_num, ho.to (by
                    show _ = hd ++ parB s 2
                    rw [← HP.out]; simp), hb⟩
                  case measure => simp [intOf]
          · have t2 : wr.cell? ⟨w.heap.size, 4, none⟩ = some (.slice a3 s.l2.length b3) := Xr.cell 4
            have t5 : wr.cell? ⟨w.heap.size, 7, none⟩ = some (.int .i64 s.c2) := Xr.cell 7
            have hpq := hpar 2
            have ho' : OwB wr w2.heap.size _ (hd ++ parB s 2) := ho
            have hon : (hd ++ parB s 2).length ≤ 800 := by rw [List.length_append]; omega
            have HP := Lib.hid (hp3 hd)
            clear ho
            generalize hd ++ parB s 2 = xs at *
            go_wp2_with fail
            refine (rput_own wr w2.heap.size _ xs s.c2 ho' hbr.size (by omega) (by omega) (by omega)).mono ?_
            rintro e w6 ⟨v6, rfl, o6, b6'⟩
            have b6 := hbr.trans b6'
            have m1 : IntKind.u8.wrap (s.l2.length : Int) = (s.l2.length : Int) := IntWalk.u8_in _ (by omega)
            have m1' : (s.l2.length : Int) % 256 = (s.l2.length : Int) := by omega
            clear t2 t5 ho' b6'
            by_cases hlz : s.l2.length = 0
            · have hfo := firstOff_nil hlz
              have e1 : ((0 : Int) < (s.l2.length : Int)) = False := eq_false (by omega)
              have e1' : (0 < s.l2.length) = False := eq_false (by omega)
              have HZ := Lib.hid hlz
              clear hlz
              go_wp2_with (at_builtin; refine wpList_append_src _ rfl (.tmp 82) (.tmp 86) _ rfl it0 (.int .u8 0) 1 Try.underlying34 hi hz0 hz1 hz2 rfl rfl (b6.alloc b6.size _) (World.ownsRow.alloc o6 _) rfl (Rd.new w6 5 [(s.l2.length : Int)]) (u8s_one _) (by unfold maxLen; simp [le_length]; omega) (by simp [le_length]; omega) ?_; intro v7 w7 b7 o7)
              have o7' := OwB.one o7 (by omega) (by omega)
              refine (rput_own w7 w2.heap.size v7 _ 0 o7' b7.size (by omega) (by omega) (by simp [le_length]; omega)).mono ?_
              rintro e w8 ⟨v8, rfl, o8, b8'⟩
              have b8 := b7.trans b8'
              clear o6 b6 o7 o7' b7 b8'
              go_wp2_with fail
              go_loopw [4, 10] (fun x i wr => ∃ k : Nat, k = 0 ∧ i = .int .i64 k ∧ OwB wr w2.heap.size x (xs ++ le s.c2 3 ++ le (s.l2.length : Int) 1 ++ le 0 3) ∧ Below w2.heap.size w2 wr) (fun _ i _ => s.l2.length - (intOf i).toNat)
              case atStart => exact ⟨0, rfl, rfl, o8, b8⟩
              case round =>
                clear o8 b8
                obtain ⟨k, rfl, rfl, ho, hb⟩ := hrel
                go_wp2
                go_roundw
                case rel => exact ⟨3, by omega, by go_num, ho.to (by
                  have e : s.l2 = [] := List.length_eq_zero_iff.1 HZ.out
                  show _ = hd ++ parB s 3
                  rw [← HP.out, hfo, e]; simp), hb⟩
                case measure => simp [intOf]
            · have hfo := firstOff_at (l := s.l2) (by omega)
              have hlp : (0 : Int) < (s.l2.length : Int) := by omega
              have hlp' : 0 < s.l2.length := by omega
              obtain ⟨g, o, rfl, _, hg, _⟩ := hr3.addr (by omega)
              have HQ0 := fun (W : World) (hb : Below w2.heap.size w2 W) => (ln_cells (k := 0) (hr3.far (b02.trans (hb.mono b02.size))) hlp').1
              rw [← hfo] at HQ0
              simp only [Nat.zero_mul, Nat.add_zero] at HQ0
              have hf1 := (a33 0 _ (ln_getD hlp'))
              rw [← hfo] at hf1
              clear hfo
              generalize hF : firstOff s.l2 = f at *
              have HF := Lib.hid hF
              clear hF
              go_wp2_with (at_builtin; refine wpList_append_src _ rfl (.tmp 82) (.tmp 86) _ rfl it0 (.int .u8 0) 1 Try.underlying34 hi hz0 hz1 hz2 rfl rfl (b6.alloc b6.size _) (World.ownsRow.alloc o6 _) rfl (Rd.new w6 5 [(s.l2.length : Int)]) (u8s_one _) (by unfold maxLen; simp [le_length]; omega) (by simp [le_length]; omega) ?_; intro v7 w7 b7 o7; have q7 := HQ0 _ b7)
              have o7' := OwB.one o7 (by omega) (by omega)
              refine (rput_own w7 w2.heap.size v7 _ f o7' b7.size (by omega) (by omega) (by simp [le_length]; omega)).mono ?_
              rintro e w8 ⟨v8, rfl, o8, b8'⟩
              have b8 := b7.trans b8'
              clear o6 b6 o7 o7' b7 b8' q7 HQ0 hf1
              go_wp2_with fail
              go_loopw [4, 10] (fun x i wr => ∃ k : Nat, k ≤ s.l2.length ∧ i = .int .i64 k ∧ OwB wr w2.heap.size x (xs ++ le s.c2 3 ++ le (s.l2.length : Int) 1 ++ le f 3 ++ (s.l2.take k).flatMap lnE) ∧ Below w2.heap.size w2 wr) (fun _ i _ => s.l2.length - (intOf i).toNat)
              case atStart => exact ⟨0, Nat.zero_le _, rfl, o8.to (by simp), b8⟩
              case round =>
                clear o8 b8
                obtain ⟨k, hk', rfl, ho, hb⟩ := hrel
                by_cases hlt : k < s.l2.length
                · have HQ := fun (W : World) (hb : Below w2.heap.size w2 W) => ln_cells (hr3.far (b02.trans (hb.mono b02.size))) hlt
                  have hk2 : ((k : Int) * 5).toNat = k * 5 := by omega
                  have hki : (k : Int) < (s.l2.length : Int) := by omega
                  have hk0 : (0 : Int) ≤ k := by omega
                  obtain ⟨r1, r2, r3, r4, r5, r6, r7, r8, r9, r10⟩ := a33 k _ (ln_getD hlt)
                  have HT := Lib.hid (lnE_at hlt)
                  have hxl := lnE_short s.l2 k
                  generalize s.l2.getD k lnD = x at *
                  have hxn : (xs ++ le s.c2 3 ++ le (s.l2.length : Int) 1 ++ le f 3 ++ (s.l2.take k).flatMap lnE).length ≤ 950 := by simp only [List.length_append, le_length]; omega
                  generalize hX : xs ++ le s.c2 3 ++ le (s.l2.length : Int) 1 ++ le f 3 ++ (s.l2.take k).flatMap lnE = ys at *
                  have HX := Lib.hid hX
                  clear hX
                  obtain ⟨q0, q1, q2, q3, q4⟩ := HQ _ hb
                  go_wp2_with fail
                  refine (rput_own wr w2.heap.size _ ys x.place ho hb.size (by omega) (by omega) (by omega)).mono ?_
                  rintro e w9 ⟨v9, rfl, o9, b9'⟩
                  have b9 := hb.trans b9'
                  clear q0 q1 q2 q3 q4
                  obtain ⟨q0, q1, q2, q3, q4⟩ := HQ _ b9
                  have e0 : IntKind.i64.wrap (16 * x.key) = 16 * x.key := IntWalk.i64_in _ (by omega)
                  have e1 : IntKind.i64.wrap (x.j + 16 * x.key) = x.j + 16 * x.key := IntWalk.i64_in _ (by omega)
                  have e2 : IntKind.u8.wrap (x.j + 16 * x.key) = x.j + 16 * x.key := IntWalk.u8_in _ (by omega)
                  have e3 : IntKind.u8.wrap x.val = x.val := IntWalk.u8_in _ (by omega)
                  have ez : (ys ++ le x.place 3).length ≤ 960 := by simp [le_length]; omega
                  clear ho b9' HQ hxl hxn hon hpar
                  generalize hZ : ys ++ le x.place 3 = zs at *
                  have HZ := Lib.hid hZ
                  clear hZ
                  go_wp2_with fail
                  go_region_law (first
                    | (refine step_append_own (by rfl) (.tmp 117) (.tmp 137) _ (by rfl) w2 _ it0 _ 1 1 Try.underlying34 hi hz0 hz1 hz2 rfl (by decide) _ _ _ (by rfl) (by first | exact b9.alloc b9.size _ | exact b9.drew.alloc b9.size _) (by first | exact World.ownsRow.alloc o9 _ | exact (World.ownsRow.drew o9).alloc _) 0 (w9.heap.size + 1) _ 2 2 (u8s [x.j + 16 * x.key, x.val]) (by rfl) (by first | exact (Rd.new w9 5 [x.j + 16 * x.key, x.val]).rg | exact (Rd.new w9.drew 5 [x.j + 16 * x.key, x.val]).rg) (u8s_one _) (by unfold maxLen; omega) (by omega) ?_; intro va wa ba oa _)
                    | fail)
                  all_goals
                    have oa' := OwB.two oa (by omega) (by omega) (by omega) (by omega)
                    go_wp2
                    go_roundw
                    case rel => exact ⟨k + 1, by omega, by go_num, oa'.to (by rw [HT.out, ← HZ.out, ← HX.out]; simp), ba⟩
                    case measure => simp [intOf]; omega
                · obtain rfl : k = s.l2.length := by omega
                  rw [List.take_length] at ho
                  go_wp2
                  go_roundw
                  case rel => exact ⟨3, by omega, by go_num, ho.to (by
                    show _ = hd ++ parB s 3
                    rw [← HP.out]; simp), hb⟩
                  case measure => simp [intOf]
          · have hS : Bt wr w.heap.size wr.heap.size _ (hd ++ parB s 3) := ho.sl.wide (Nat.le_of_lt hw2) (Nat.le_refl _)
            obtain ⟨a5, c5, rfl, _, _, _⟩ := id hS
            go_wp2
            go_ret2
            exact ⟨.slice a5 (hd ++ parB s 3).length c5, rfl, by rw [HH.out]; exact hS, b02.trans (hbr.mono b02.size)⟩
end Go.Proofs.Ytmbphhcgmdaoeaa
