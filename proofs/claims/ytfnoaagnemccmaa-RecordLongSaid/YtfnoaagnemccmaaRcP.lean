/- What is proved: the statement RecordMore walked over any functions that answer as the specs say. -/
import Derived.Test.YtfnoaagnemccmaaRcO
import Derived.Test.YtfnoaagnemccmaaRcG
import Derived.Deep.RegionLaw
import Derived.Deep.RegionHeld3
import Derived.Deep.DeepCutAuto
namespace Go.Proofs.Ytfnoaagnemccmaa
open Go.RowKit

theorem may_less {p : Int} {l : List Wr} {x : Wr} (h : mayB ⟨p, true, l ++ [x]⟩ = true) : mayB ⟨p, true, l⟩ = true := by
  obtain ⟨h1, h2, h3, _⟩ := mayB_parts h
  obtain ⟨h4, h5⟩ := Bool.and_eq_true_iff.1 h3
  have h4 : (l ++ [x]).length ≤ 4 := of_decide_eq_true h4
  have hl : (l ++ [x]).length = l.length + 1 := by simp
  have h6 : wrB l = true := by
    unfold wrB
    refine Bool.and_eq_true_iff.2 ⟨decide_eq_true (by omega), rowAll_mk fun i hi => ?_⟩
    have h7 := rowAll_get h5 (show i < (l ++ [x]).length by omega)
    have e1 : (l ++ [x]).getD i wrD = l.getD i wrD := by
      rw [List.getD_eq_getElem?_getD, List.getElem?_append_left hi, ← List.getD_eq_getElem?_getD]
    have e2 : (l ++ [x]).getD (i - 1) wrD = l.getD (i - 1) wrD := by
      rw [List.getD_eq_getElem?_getD, List.getElem?_append_left (by omega), ← List.getD_eq_getElem?_getD]
    unfold wrAt at h7 ⊢
    rwa [e1, e2] at h7
  unfold mayB
  rw [h6]
  simp
  exact ⟨h1, h2⟩
theorem outE_two (r : Rc) : (outE r = 0 ∧ mayB r = true ∧ outB r = recB r) ∨ (outE r = 2 ∧ mayB r = false ∧ outB r = []) := by
  unfold outE outB
  rcases h : mayB r with _ | _
  · exact .inr ⟨rfl, rfl, rfl⟩
  · exact .inl ⟨rfl, rfl, rfl⟩
theorem more_parts {p : Int} {l : List Wr} {x : Wr} (h : mayB ⟨p, true, l ++ [x]⟩ = true) : ∃ A F : List Int, A.length = 4 ∧ F.length = 2 * l.length ∧ recB ⟨p, true, l⟩ = A ++ ((l.length : Int) :: F) ∧ recB ⟨p, true, l ++ [x]⟩ = A ++ ((l.length : Int) + 1) :: (F ++ [x.key, x.val]) ∧ l.length ≤ 3 ∧ (0 ≤ x.key ∧ x.key ≤ 255) ∧ 0 ≤ x.val ∧ x.val ≤ 255 := by
  obtain ⟨_, _, h3, _⟩ := mayB_parts h
  obtain ⟨h4, h5⟩ := wrB_parts h3
  have h4 : (l ++ [x]).length ≤ 4 := h4
  have hl : (l ++ [x]).length = l.length + 1 := by simp
  obtain ⟨q1, q2, q3, q4⟩ := h5 l.length x (by simp)
  refine ⟨le p 3 ++ le 1 1, l.flatMap wrE, by simp [le_length], by rw [flatMap_len wrE 2 wrE_len]; omega, ?_, ?_, by omega, ⟨by omega, by omega⟩, by omega, by omega⟩
  · unfold recB
    rw [show yesN true = 1 from rfl, le_one (l.length : Int), show ((l.length : Int) % 256) = l.length by omega]
    simp
  · unfold recB
    rw [show yesN true = 1 from rfl, le_one ((l ++ [x]).length : Int), show (((l ++ [x]).length : Nat) : Int) % 256 = l.length + 1 by omega]
    rw [List.flatMap_append]
    simp [wrE, le_one]
    omega
def MoreR (w3 : World) (B : Nat) (p : Int) (l : List Wr) (wx : World) : Prop :=
  ∃ a2 c2, Below w3.heap.size w3 wx ∧ Blk wx w3.heap.size #[.int .i64 p, .bool true, .slice a2 l.length c2] ∧ Sl 2 wx B wx.heap.size (.slice a2 l.length c2) l.length (wrC l)
theorem more_end {w3 W4 w2 : World} {p : Int} {l : List Wr} {x : Wr} {a a2 : Option Addr} {c c2 : Nat} (B4 : Below w3.heap.size w3 W4) (X4 : Blk W4 w3.heap.size #[.int .i64 p, .bool true, .slice a l.length c]) (S4 : W4.heap.size = w3.heap.size + 1)
    (hb2 : Below W4.heap.size W4 w2) (hc2 : 0 + l.length + 1 ≤ c2) (hm2 : c2 ≤ maxLen) (hr2 : Rg 2 w2 W4.heap.size w2.heap.size a2 (0 + l.length + 1) ([] ++ wrC l ++ [.int .i64 x.key, .int .i64 x.val])) :
    MoreR w3 W4.heap.size p (l ++ [x]) (w2.setCell ⟨w3.heap.size, 2, none⟩ (.slice a2 (l.length + 1) c2)) := by
  have hl : (l ++ [x]).length = l.length + 1 := by simp
  have hcs : wrC (l ++ [x]) = [] ++ wrC l ++ [.int .i64 x.key, .int .i64 x.val] := by
    unfold wrC
    rw [List.flatMap_append]
    simp [Wr.cells]
  refine ⟨a2, c2, (below_on B4 hb2).setCell (Nat.le_refl _) _, ?_, ?_⟩
  · have := (X4.far hb2 (by omega)).set 2 (.slice a2 (l.length + 1) c2)
    rw [hl]
    exact this
  · rw [hl, hcs, size_set]
    rw [Nat.zero_add] at hr2 hc2
    exact (show Sl 2 w2 W4.heap.size w2.heap.size (.slice a2 (l.length + 1) c2) (l.length + 1) _ from ⟨_, _, rfl, hc2, hm2, hr2⟩).set_low (p := ⟨w3.heap.size, 2, none⟩) (by show w3.heap.size < _; omega) _
theorem bt_open {w : World} {lo hi : Nat} {v : Value} {xs : List Int} {n : Nat} (h : Bt w lo hi v xs) (hn : xs.length = n) (h0 : 0 < n) :
    ∃ g o c, v = .slice (some ⟨g, o, none⟩) n c ∧ n ≤ c ∧ c ≤ maxLen ∧ lo ≤ g ∧ g < hi ∧ (∀ (j : Nat) (u : Int), xs[j]? = some u → w.cell? ⟨g, o + j, none⟩ = some (.int .u8 u)) ∧ Rg 1 w lo hi (some ⟨g, o, none⟩) n (u8s xs) := by
  subst hn
  obtain ⟨a, c, rfl, h1, h2, h3⟩ := h
  obtain ⟨g, o, rfl, h4, h5, h6⟩ := h3.addr h0
  exact ⟨g, o, c, rfl, h1, h2, h4, h5, fun j u hu => h6 j _ (by simp [u8s, hu]), h3⟩
theorem part_str {w : World} {lo hi g o n : Nat} {xs ys : List Int} (h : Rg 1 w lo hi (some ⟨g, o, none⟩) n (u8s xs)) (i k c : Nat) (hk : i + k ≤ n) (hy : (xs.drop i).take k = ys) :
    (convert 34 9 (.slice (some ⟨g, o + i, none⟩) k c)).run Try.prog w = .ok (.string (strOfNums ys)) w := by
  have h1 := h.part hk
  rw [Nat.mul_one, Nat.mul_one] at h1
  have h2 : ((u8s xs).drop i).take k = u8s ys := by rw [← hy]; simp [u8s, List.map_take, List.map_drop]
  rw [h2] at h1
  exact run_str (P := Try.prog) Try.underlying34 Try.underlying5 Try.underlying9 (Rd_of h1) c
set_option maxRecDepth 100000 in
set_option maxHeartbeats 3200000 in
theorem walkRecordMore (hB : BytesSpec 13) (hR : ReadSpec 27) (hS : StandsSpec 21)
    (v : Value) (r : Rc) (x : Wr) (w : World) (h : RecV w 0 w.heap.size v r) (hI1 : I64 r.place) (hI2 : ∀ y ∈ r.ws, y.In) (hx : x.In) :
    Calls Try.prog 9 #[v, .agg #[.int .i64 x.key, .int .i64 x.val]] w fun e w' => e = .returned (.bool true) ∧ Below w.heap.size w w' := by
  obtain ⟨s, rfl, a, c, rfl, hnc, hcm, hr⟩ := id h
  obtain ⟨p, y, l⟩ := r
  simp only at h hI1 hI2 hnc hr ⊢
  obtain ⟨W1, E1, B1, X1, S1⟩ := Blk.new w 24 #[.int .i64 p, .bool y, .slice a l.length c]
  obtain ⟨W2, E2, B2, X2, S2⟩ := Blk.new W1 56 #[.int .i64 x.key, .int .i64 x.val]
  rw [S1] at X2 S2
  have b02 := below_on B1 B2
  have Y1 := X1.far B2 (by omega)
  have k0 : W2.cell? ⟨w.heap.size, 0, none⟩ = some (.int .i64 p) := Y1.cell 0
  have k1 : W2.cell? ⟨w.heap.size, 1, none⟩ = some (.bool y) := Y1.cell 1
  have k2 : W2.cell? ⟨w.heap.size, 2, none⟩ = some (.slice a l.length c) := Y1.cell 2
  have n0 := greatw_any a l.length c W2
  by_cases hg : 40 < (l.length : Int)
  · rw [decide_eq_true hg] at n0
    have n1 := wakes_any hB hR hS W2
    go_enter Try.func9, Try.ntmps9
    go_wp2_with fail
    refine n0.mono ?_
    rintro e w1 ⟨rfl, rfl⟩
    go_wp2_with fail
    refine n1.mono ?_
    rintro e w2 ⟨rfl, b2⟩
    go_wp2
    go_ret
    exact ⟨rfl, below_on b02 b2⟩
  · rw [decide_eq_false hg] at n0
    rcases y with _ | _
    · have n1 := wakes_any hB hR hS W2
      go_enter Try.func9, Try.ntmps9
      go_wp2_with fail
      refine n0.mono ?_
      rintro e w1 ⟨rfl, rfl⟩
      go_wp2_with fail
      refine n1.mono ?_
      rintro e w2 ⟨rfl, b2⟩
      go_wp2
      go_ret
      exact ⟨rfl, below_on b02 b2⟩
    · have n1 := hB (.agg #[.int .i64 p, .bool true, .slice a l.length c]) ⟨p, true, l⟩ W2 ((h.far b02).wide (Nat.le_refl _) b02.size) ⟨hI1, hI2, by show l.length ≤ 1000; omega⟩
      go_enter Try.func9, Try.ntmps9
      go_wp2_with fail
      refine n0.mono ?_
      rintro e w1 ⟨rfl, rfl⟩
      clear n0
      go_wp2_with fail
      refine n1.mono ?_
      rintro e w3 ⟨b, rfl, q3, b3⟩
      clear n1 k0 k1 k2
      obtain ⟨W4, E4, B4, X4, S4⟩ := Blk.new w3 24 #[.int .i64 p, .bool true, .slice a l.length c]
      have b34 := below_on b3 B4
      have b04 := below_on b02 b34
      have hs3 := b3.size
      have Z1 := Y1.far b34 (by omega)
      have Z2 := X2.far b34 (by omega)
      obtain ⟨k0, k1, k2⟩ := (show Blk W4 w.heap.size #[.int .i64 (Rc.mk p true l).place, .bool (Rc.mk p true l).yes, .slice a (Rc.mk p true l).ws.length c] from Z1).rec_
      have k0' := (Y1.far b3 (by omega)).cell 0
      have k1' := (Y1.far b3 (by omega)).cell 1
      have k2' := (Y1.far b3 (by omega)).cell 2
      go_wp2_with fail
      go_cut [] (fun wx => MoreR w3 W4.heap.size p (l ++ [x]) wx)
      case first =>
        obtain ⟨i0, hi0, hz0, hz1, hz2⟩ := info_parts info_wr
        have kall := Lib.hid (show ∀ W' : World, Below W4.heap.size W4 W' → W'.cell? ⟨w.heap.size, 2, none⟩ = some (.slice a l.length c) ∧ W'.cell? ⟨w.heap.size + 1, 0, none⟩ = some (.int .i64 x.key) ∧ W'.cell? ⟨w.heap.size + 1, 1, none⟩ = some (.int .i64 x.val) ∧ W'.cell? ⟨w3.heap.size, 2, none⟩ = some (.slice a l.length c) ∧ W'.frozen? ⟨w3.heap.size, 2, none⟩ = false from fun W' hb =>
          ⟨(Z1.far hb (by omega)).cell 2, (Z2.far hb (by omega)).cell 0, (Z2.far hb (by omega)).cell 1, (X4.far hb (by omega)).cell 2, (X4.far hb (by omega)).free 2⟩)
        have hown := own_made W4 56 2
        obtain ⟨W5, E5, B5, X5, S5⟩ := Blk.new W4 56 #[]
        rw [E5] at hown
        have hown' : W5.ownsRow W4.heap.size 56 2 (.slice (some ⟨w3.heap.size + 1, 0, none⟩) 0 0) 0 [] := by rw [← S4]; exact hown
        obtain ⟨f1, f2, f3, f4, f5⟩ := kall.out W5 B5
        have hr4 := (h.far b04)
        obtain ⟨_, e4, _, _, e5, _, _, hr4⟩ := hr4
        cases e4
        cases e5
        obtain ⟨W6, E6, B6, X6, S6⟩ := Blk.new W5 56 #[.int .i64 x.key, .int .i64 x.val]
        have hrow : Rg 2 W6 W5.heap.size (W5.heap.size + 1) (some ⟨W5.heap.size, 0, none⟩) 1 [.int .i64 x.key, .int .i64 x.val] := by rw [← E6]; exact Rg.new (size := 2) (n := 1) W5 _ _ rfl
        have hown6 : W6.ownsRow W4.heap.size 56 2 (.slice (some ⟨w3.heap.size + 1, 0, none⟩) 0 0) 0 [] := by rw [← E6]; exact hown'.alloc _
        have B46 := below_on B5 B6
        obtain ⟨g1, g2, g3, g4, g5⟩ := kall.out W6 B46
        obtain ⟨h1, h2, h3, h4, h5⟩ := kall.out W4 (Below.refl _ _)
        obtain ⟨W7, E7, B7, X7, S7⟩ := Blk.new W4 56 #[.int .i64 x.key, .int .i64 x.val]
        have hrow7 : Rg 2 W7 W4.heap.size (W4.heap.size + 1) (some ⟨W4.heap.size, 0, none⟩) 1 [.int .i64 x.key, .int .i64 x.val] := by rw [← E7]; exact Rg.new (size := 2) (n := 1) W4 _ _ rfl
        have hown8 := own_made W7 56 2
        obtain ⟨W8, E8, B8, X8, S8⟩ := Blk.new W7 56 #[]
        rw [E8] at hown8
        have S77 : W7.heap.size = w3.heap.size + 1 + 1 := by omega
        have hown8' : W8.ownsRow W4.heap.size 56 2 (.slice (some ⟨w3.heap.size + 1 + 1, 0, none⟩) 0 0) 0 [] := by rw [← S77]; exact own_base hown8 (by omega)
        have hrow8 : Rg 2 W8 (w3.heap.size + 1) (w3.heap.size + 1 + 1) (some ⟨w3.heap.size + 1, 0, none⟩) 1 [.int .i64 x.key, .int .i64 x.val] := by
          rw [S4] at hrow7
          exact hrow7.far (B8.mono (by omega))
        have B48 := below_on B7 B8
        obtain ⟨l1, l2, l3, l4, l5⟩ := kall.out W7 B7
        obtain ⟨m1, m2, m3, m4, m5⟩ := kall.out W8 B48
        have S55 : W5.heap.size = w3.heap.size + 1 + 1 := by omega
        rw [S55] at hrow
        clear k0 k1 k2 k0' k1' k2'
        go_region_law (first
          | (refine step_append_own (by rfl) (.tmp 25) (.tmp 27) _ (by rfl) W4 _ i0 _ 2 16 Try.underlying22 hi0 hz0 hz1 hz2 rfl (by decide) (.slice (some ⟨w3.heap.size + 1, 0, none⟩) 0 0) 0 [] (by rfl) (by first | exact B5 | exact B5.drew) (by first | exact hown' | exact hown'.drew) 0 w.heap.size a l.length c (wrC l) (by rfl) (hr4.far (by first | exact (B5.mono (by omega)) | exact (B5.mono (by omega)).drew)) (wrC_one l) (by unfold maxLen; omega) (by omega) ?_; intro v1 w1 hb1 ho1 _; obtain ⟨_, _, _, _, _⟩ := kall.out w1 hb1)
          | (refine step_append_own (by rfl) (.tmp 25) (.tmp 27) _ (by rfl) W4 _ i0 _ 2 16 Try.underlying22 hi0 hz0 hz1 hz2 rfl (by decide) (.slice (some ⟨w3.heap.size + 1, 0, none⟩) 0 0) 0 [] (by rfl) (by first | exact B46 | exact B46.drew) (by first | exact hown6 | exact hown6.drew) 0 w.heap.size a l.length c (wrC l) (by rfl) (hr4.far (by first | exact (B46.mono (by omega)) | exact (B46.mono (by omega)).drew)) (wrC_one l) (by unfold maxLen; omega) (by omega) ?_; intro v1 w1 hb1 ho1 hq1; obtain ⟨_, _, _, _, _⟩ := kall.out w1 hb1; have hrow1 : Rg 2 w1 (w3.heap.size + 1 + 1) (w3.heap.size + 1 + 1 + 1) (some ⟨w3.heap.size + 1 + 1, 0, none⟩) 1 [.int .i64 x.key, .int .i64 x.val] := by first | exact Rg.grown (w := W6) hrow hq1 (show some (w3.heap.size + 1) ≠ some (w3.heap.size + 1 + 1) by simp) (by omega) | exact Rg.grown (w := W6.drew) hrow.drew_ hq1 (show some (w3.heap.size + 1) ≠ some (w3.heap.size + 1 + 1) by simp) (show w3.heap.size + 1 + 1 + 1 ≤ W6.heap.size by omega))
          | (refine step_append_own (by rfl) (.tmp 25) (.tmp 27) _ (by rfl) W4 _ i0 _ 2 16 Try.underlying22 hi0 hz0 hz1 hz2 rfl (by decide) (.slice (some ⟨w3.heap.size + 1 + 1, 0, none⟩) 0 0) 0 [] (by rfl) (by first | exact B48 | exact B48.drew) (by first | exact hown8' | exact hown8'.drew) 0 w.heap.size a l.length c (wrC l) (by rfl) (hr4.far (by first | exact (B48.mono (by omega)) | exact (B48.mono (by omega)).drew)) (wrC_one l) (by unfold maxLen; omega) (by omega) ?_; intro v1 w1 hb1 ho1 hq1; obtain ⟨_, _, _, _, _⟩ := kall.out w1 hb1; have hrow2 : Rg 2 w1 (w3.heap.size + 1) (w3.heap.size + 1 + 1) (some ⟨w3.heap.size + 1, 0, none⟩) 1 [.int .i64 x.key, .int .i64 x.val] := by first | exact Rg.grown (w := W8) hrow8 hq1 (show some (w3.heap.size + 1 + 1) ≠ some (w3.heap.size + 1) by simp) (by omega) | exact Rg.grown (w := W8.drew) hrow8.drew_ hq1 (show some (w3.heap.size + 1 + 1) ≠ some (w3.heap.size + 1) by simp) (show w3.heap.size + 1 + 1 ≤ W8.heap.size by omega))
          | (refine step_append_own (by rfl) (.tmp 28) (.tmp 30) _ (by rfl) W4 _ i0 _ 2 16 Try.underlying22 hi0 hz0 hz1 hz2 rfl (by decide) v1 (0 + l.length) ([] ++ wrC l) (by rfl) (by first | exact hb1 | exact hb1.drew) (by first | exact ho1 | exact ho1.drew) (w3.heap.size + 1 + 1) (w3.heap.size + 1 + 1 + 1) _ 1 1 [.int .i64 x.key, .int .i64 x.val] (by rfl) (by first | exact hrow1 | exact hrow1.drew_) (by simp [Value.oneCell']) (by unfold maxLen; omega) (by omega) ?_; intro v2 w2 hb2 ho2 _; obtain ⟨_, _, _, _, _⟩ := kall.out w2 hb2; obtain ⟨a2, c2, rfl, hc2, hm2, hr2⟩ := Rg.own ho2)
          | (refine step_append_own (by rfl) (.tmp 28) (.tmp 30) _ (by rfl) W4 _ i0 _ 2 16 Try.underlying22 hi0 hz0 hz1 hz2 rfl (by decide) v1 (0 + l.length) ([] ++ wrC l) (by rfl) (by first | exact hb1 | exact hb1.drew) (by first | exact ho1 | exact ho1.drew) (w3.heap.size + 1) (w3.heap.size + 1 + 1) _ 1 1 [.int .i64 x.key, .int .i64 x.val] (by rfl) (by first | exact hrow2 | exact hrow2.drew_) (by simp [Value.oneCell']) (by unfold maxLen; omega) (by omega) ?_; intro v2 w2 hb2 ho2 _; obtain ⟨_, _, _, _, _⟩ := kall.out w2 hb2; obtain ⟨a2, c2, rfl, hc2, hm2, hr2⟩ := Rg.own ho2)
          | (refine step_append_own (by rfl) (.tmp 28) (.tmp 30) _ (by rfl) W4 _ i0 _ 2 16 Try.underlying22 hi0 hz0 hz1 hz2 rfl (by decide) v1 (0 + l.length) ([] ++ wrC l) (by rfl) (by first | exact hb1.alloc hb1.size _ | exact hb1.drew.alloc hb1.size _) (by first | exact ho1.alloc _ | exact ho1.drew.alloc _) w1.heap.size (w1.heap.size + 1) _ 1 1 [.int .i64 x.key, .int .i64 x.val] (by rfl) (by first | exact Rg.new (size := 2) (n := 1) w1 _ _ rfl | exact Rg.new (size := 2) (n := 1) w1.drew _ _ rfl) (by simp [Value.oneCell']) (by unfold maxLen; omega) (by omega) ?_; intro v2 w2 hb2 ho2 _; obtain ⟨_, _, _, _, _⟩ := kall.out w2 hb2; obtain ⟨a2, c2, rfl, hc2, hm2, hr2⟩ := Rg.own ho2)
          | fail)
        all_goals
          go_wp2_with fail
          go_meet
          exact more_end B4 X4 S4 hb2 hc2 hm2 hr2
      case rest =>
      obtain ⟨a2, c2, Bc, Xc, qc⟩ := hcut
      have bwc : Below w.heap.size w wc := below_on b02 (below_on b3 Bc)
      have hl1 : (l ++ [x]).length = l.length + 1 := by simp
      have qc' : Sl 2 wc 0 wc.heap.size (.slice a2 (l.length + 1) c2) (l ++ [x]).length (wrC (l ++ [x])) := by rw [← hl1]; exact qc.wide (Nat.zero_le _) (Nat.le_refl _)
      have n2 := hB (.agg #[.int .i64 p, .bool true, .slice a2 (l.length + 1) c2]) ⟨p, true, l ++ [x]⟩ wc ⟨_, rfl, qc'⟩ ⟨hI1, by intro y hy; rcases List.mem_append.1 hy with hy | hy; exact hI2 y hy; rw [List.mem_singleton] at hy; subst hy; exact hx, by show (l ++ [x]).length ≤ 1000; simp; omega⟩
      have d0 : wc.cell? ⟨w3.heap.size, 0, none⟩ = some (.int .i64 p) := Xc.cell 0
      have d1 : wc.cell? ⟨w3.heap.size, 1, none⟩ = some (.bool true) := Xc.cell 1
      have d2 : wc.cell? ⟨w3.heap.size, 2, none⟩ = some (.slice a2 (l.length + 1) c2) := by rw [← hl1]; exact Xc.cell 2
      go_wp2_with fail
      refine n2.mono ?_
      rintro e w5 ⟨b', rfl, q5, b5⟩
      clear n2
      have n5 := wakes_any hB hR hS w5
      rcases outE_two ⟨p, true, l⟩ with ⟨e1, e2, e3⟩ | ⟨e1, e2, e3⟩
      · rcases outE_two ⟨p, true, l ++ [x]⟩ with ⟨f1, f2, f3⟩ | ⟨f1, f2, f3⟩
        · rw [e1, f1]
          rw [e3] at q3
          rw [f3] at q5
          obtain ⟨A, F, hA, hF, hr1, hr2, hl3, ⟨hk1, hk2⟩, hv1, hv2⟩ := more_parts f2
          rw [hr1] at q3
          rw [hr2] at q5
          have q3' := q3.far (Bc.mono (Nat.le_refl _) |>.trans (b5.mono Bc.size))
          have N1 : (A ++ ((l.length : Int) :: F)).length = 5 + 2 * l.length := by simp; omega
          have N2 : (A ++ ((l.length : Int) + 1) :: (F ++ [x.key, x.val])).length = 7 + 2 * l.length := by simp; omega
          obtain ⟨ga, oa, ca, rfl, ha1, ha2, ha3, ha4, ha5, ha6⟩ := bt_open q3' N1 (by omega)
          obtain ⟨gb, ob, cb, rfl, hb1, hb2, hb3, hb4, hb5, hb6⟩ := bt_open q5 N2 (by omega)
          have y1 : w5.cell? ⟨ga, oa + 4, none⟩ = some (.int .u8 (l.length : Int)) := ha5 4 _ (by rw [List.getElem?_append_right (by omega), hA]; rfl)
          have y2 : w5.cell? ⟨gb, ob + 4, none⟩ = some (.int .u8 ((l.length : Int) + 1)) := hb5 4 _ (by rw [List.getElem?_append_right (by omega), hA]; rfl)
          have y3 : w5.cell? ⟨gb, ob + (5 + 2 * l.length), none⟩ = some (.int .u8 x.key) := hb5 _ _ (by rw [List.getElem?_append_right (by omega), hA, show 5 + 2 * l.length - 4 = 2 * l.length + 1 by omega, List.getElem?_cons_succ, List.getElem?_append_right (by omega), hF, Nat.sub_self]; rfl)
          have y4 : w5.cell? ⟨gb, ob + (5 + 2 * l.length + 1), none⟩ = some (.int .u8 x.val) := hb5 _ _ (by rw [List.getElem?_append_right (by omega), hA, show 5 + 2 * l.length + 1 - 4 = 2 * l.length + 1 + 1 by omega, List.getElem?_cons_succ, List.getElem?_append_right (by omega), hF, show 2 * l.length + 1 - 2 * l.length = 1 by omega]; rfl)
          have hPa : ga < w5.heap.size := Nat.lt_of_lt_of_le ha4 (Nat.le_trans Bc.size b5.size)
          have hs3' := hs3
          have bx : Below w3.heap.size w3 w5 := Bc.trans (b5.mono Bc.size)
          have hP1 : w.heap.size + 1 < w5.heap.size := by have := bx.size; omega
          have V2 := (X2.far b3 (by omega)).far bx (by omega)
          have x0 : w5.cell? ⟨w.heap.size + 1, 0, none⟩ = some (.int .i64 x.key) := V2.cell 0
          have x1 : w5.cell? ⟨w.heap.size + 1, 1, none⟩ = some (.int .i64 x.val) := V2.cell 1
          have kcell := Lib.hid (show ∀ W' : World, Below w5.heap.size w5 W' → W'.cell? ⟨ga, oa + 4, none⟩ = some (.int .u8 (l.length : Int)) ∧ W'.cell? ⟨gb, ob + 4, none⟩ = some (.int .u8 ((l.length : Int) + 1)) ∧ W'.cell? ⟨gb, ob + (5 + 2 * l.length), none⟩ = some (.int .u8 x.key) ∧ W'.cell? ⟨gb, ob + (5 + 2 * l.length + 1), none⟩ = some (.int .u8 x.val) ∧ W'.cell? ⟨w.heap.size + 1, 0, none⟩ = some (.int .i64 x.key) ∧ W'.cell? ⟨w.heap.size + 1, 1, none⟩ = some (.int .i64 x.val) from fun W' hb =>
            ⟨(hb.cell (p := ⟨ga, oa + 4, none⟩) hPa).trans y1, (hb.cell (p := ⟨gb, ob + 4, none⟩) hb4).trans y2, (hb.cell (p := ⟨gb, ob + (5 + 2 * l.length), none⟩) hb4).trans y3, (hb.cell (p := ⟨gb, ob + (5 + 2 * l.length + 1), none⟩) hb4).trans y4, (hb.cell (p := ⟨w.heap.size + 1, 0, none⟩) hP1).trans x0, (hb.cell (p := ⟨w.heap.size + 1, 1, none⟩) hP1).trans x1⟩)
          have zF : ((strOfNums F).toList == (strOfNums F).toList) = true := by simp
          have zA : ((strOfNums A).toList == (strOfNums A).toList) = true := by simp
          have kstr := Lib.hid (show ∀ W' : World, Below w5.heap.size w5 W' →
              (convert 34 9 (.slice (some ⟨ga, oa, none⟩) 4 ca)).run Try.prog W' = .ok (.string (strOfNums A)) W'
              ∧ (convert 34 9 (.slice (some ⟨gb, ob, none⟩) 4 cb)).run Try.prog W' = .ok (.string (strOfNums A)) W'
              ∧ (convert 34 9 (.slice (some ⟨ga, oa + 5, none⟩) (2 * l.length) (ca - 5))).run Try.prog W' = .ok (.string (strOfNums F)) W'
              ∧ (convert 34 9 (.slice (some ⟨gb, ob + 5, none⟩) (2 * l.length) (cb - 5))).run Try.prog W' = .ok (.string (strOfNums F)) W'
              ∧ (l.length = 0 → (convert 34 9 (.slice (some ⟨ga, oa, none⟩) 0 0)).run Try.prog W' = .ok (.string (strOfNums F)) W') from fun W' hb => by
            have ha6' := ha6.far (hb.mono (Nat.le_trans Bc.size b5.size))
            have hb6' := hb6.far hb
            refine ⟨?_, ?_, ?_, ?_, ?_⟩
            · have z1 := part_str ha6' 0 4 ca (by omega) (ys := A) (by rw [List.drop_zero, List.take_left' hA])
              rwa [Nat.add_zero] at z1
            · have z2 := part_str hb6' 0 4 cb (by omega) (ys := A) (by rw [List.drop_zero, List.take_left' hA])
              rwa [Nat.add_zero] at z2
            · exact part_str ha6' 5 (2 * l.length) (ca - 5) (by omega) (ys := F) (by rw [show (5 : Nat) = 4 + 1 from rfl, ← List.drop_drop, List.drop_left' hA, List.drop_succ_cons, List.drop_zero, List.take_of_length_le (by omega)])
            · exact part_str hb6' 5 (2 * l.length) (cb - 5) (by omega) (ys := F) (by rw [show (5 : Nat) = 4 + 1 from rfl, ← List.drop_drop, List.drop_left' hA, List.drop_succ_cons, List.drop_zero, List.take_left' hF])
            · intro h5
              have e0 : F = [] := List.eq_nil_of_length_eq_zero (by omega)
              subst e0
              exact run_str (P := Try.prog) Try.underlying34 Try.underlying5 Try.underlying9 (Rd.nil _ W'.heap.size _) 0)
          generalize strOfNums F = sF at kstr zF
          generalize strOfNums A = sA at kstr zA
          have u1 : IntKind.i64.wrap x.key = x.key := IntWalk.i64_in _ (by omega)
          have u2 : IntKind.i64.wrap x.val = x.val := IntWalk.i64_in _ (by omega)
          clear y1 y2 y3 y4 x0 x1 V2 N1 N2
          obtain hl4 | hl4 | hl4 | hl4 : l.length = 0 ∨ l.length = 1 ∨ l.length = 2 ∨ l.length = 3 := by omega
          · rw [hl4]
            rw [hl4] at kcell kstr ha1 hb1
            have kS := Lib.hid (show ∀ W' : World, Below w5.heap.size w5 W' → W'.cell? ⟨ga, oa + 4, none⟩ = some (.int .u8 0)
              ∧ W'.cell? ⟨gb, ob + 4, none⟩ = some (.int .u8 1)
              ∧ W'.cell? ⟨gb, ob + 5, none⟩ = some (.int .u8 x.key)
              ∧ W'.cell? ⟨gb, ob + 6, none⟩ = some (.int .u8 x.val)
              ∧ W'.cell? ⟨w.heap.size + 1, 0, none⟩ = some (.int .i64 x.key)
              ∧ W'.cell? ⟨w.heap.size + 1, 1, none⟩ = some (.int .i64 x.val)
              ∧ (convert 34 9 (.slice (some ⟨ga, oa, none⟩) 4 ca)).run Try.prog W' = .ok (.string sA) W'
              ∧ (convert 34 9 (.slice (some ⟨gb, ob, none⟩) 4 cb)).run Try.prog W' = .ok (.string sA) W'
              ∧ (convert 34 9 (.slice (some ⟨ga, oa + 5, none⟩) 0 (ca - 5))).run Try.prog W' = .ok (.string sF) W'
              ∧ (convert 34 9 (.slice (some ⟨gb, ob + 5, none⟩) 0 (cb - 5))).run Try.prog W' = .ok (.string sF) W'
              ∧ (convert 34 9 (.slice (some ⟨ga, oa, none⟩) 0 0)).run Try.prog W' = .ok (.string sF) W'
              ∧ Below w5.heap.size w5 W' from fun W' hb => by
              obtain ⟨k1, k2, k3, k4, k5, k6⟩ := kcell.out W' hb
              obtain ⟨s1, s2, s3, s4, s5⟩ := kstr.out W' hb
              exact ⟨k1, k2, k3, k4, k5, k6, s1, s2, s3, s4, s5 rfl, hb⟩)
            obtain ⟨_, _, _, _, _, _, _, _, _, _, _, _⟩ := kS.out w5 (Below.refl _ _)
            have i1 : (7 : Int) ≤ (cb : Int) := by omega
            have i2 : (5 : Int) ≤ (ca : Int) := by omega
            have i3 : (5 : Int) ≤ (cb : Int) := by omega
            have i4 : ¬ cb = 5 := by omega
            have i5 : (5 : Int) ≤ (cb : Int) := by omega
            have i6 : (5 : Int) ≤ (ca : Int) := by omega
            have i7 : (4 : Int) ≤ (cb : Int) := by omega
            have i8 : (4 : Int) ≤ (ca : Int) := by omega
            clear hr1 hr2 e1 e2 e3 f1 f2 f3 q3 q5 q3' ha5 hb5 ha6 hb6 kcell kstr hA hF
            by_cases hc5 : ca = 5
            · subst hc5
              go_wp2_with fail
              go_region_held3 (fun W' => W'.cell? ⟨ga, oa + 4, none⟩ = some (.int .u8 0)
                            ∧ W'.cell? ⟨gb, ob + 4, none⟩ = some (.int .u8 1)
                            ∧ W'.cell? ⟨gb, ob + 5, none⟩ = some (.int .u8 x.key)
                            ∧ W'.cell? ⟨gb, ob + 6, none⟩ = some (.int .u8 x.val)
                            ∧ W'.cell? ⟨w.heap.size + 1, 0, none⟩ = some (.int .i64 x.key)
                            ∧ W'.cell? ⟨w.heap.size + 1, 1, none⟩ = some (.int .i64 x.val)
                            ∧ (convert 34 9 (.slice (some ⟨ga, oa, none⟩) 4 5)).run Try.prog W' = .ok (.string sA) W'
                            ∧ (convert 34 9 (.slice (some ⟨gb, ob, none⟩) 4 cb)).run Try.prog W' = .ok (.string sA) W'
                            ∧ (convert 34 9 (.slice (some ⟨ga, oa + 5, none⟩) 0 (5 - 5))).run Try.prog W' = .ok (.string sF) W'
                            ∧ (convert 34 9 (.slice (some ⟨gb, ob + 5, none⟩) 0 (cb - 5))).run Try.prog W' = .ok (.string sF) W'
                            ∧ (convert 34 9 (.slice (some ⟨ga, oa, none⟩) 0 0)).run Try.prog W' = .ok (.string sF) W'
                            ∧ Below w5.heap.size w5 W')
                (first
                  | exact kS.out _ ((Below.refl _ _).drew)
                  | exact kS.out _ (Below.drew (by assumption)))
                (fail)
              go_wp2_with fail
              have u3 : IntKind.i64.wrap 6 = 6 := by decide
              have kS2 := Lib.hid (show ∀ W' : World, Below w5.heap.size w5 W' → W'.cell? ⟨gb, ob + 5, none⟩ = some (.int .u8 x.key) ∧ W'.cell? ⟨gb, ob + 6, none⟩ = some (.int .u8 x.val) ∧ W'.cell? ⟨w.heap.size + 1, 0, none⟩ = some (.int .i64 x.key) ∧ W'.cell? ⟨w.heap.size + 1, 1, none⟩ = some (.int .i64 x.val) ∧ Below w5.heap.size w5 W' from fun W' hb => by
                obtain ⟨_, _, s3, s4, s5, s6, _⟩ := kS.out W' hb
                exact ⟨s3, s4, s5, s6, hb⟩)
              go_region_held3 (fun W' => W'.cell? ⟨gb, ob + 5, none⟩ = some (.int .u8 x.key) ∧ W'.cell? ⟨gb, ob + 6, none⟩ = some (.int .u8 x.val) ∧ W'.cell? ⟨w.heap.size + 1, 0, none⟩ = some (.int .i64 x.key) ∧ W'.cell? ⟨w.heap.size + 1, 1, none⟩ = some (.int .i64 x.val) ∧ Below w5.heap.size w5 W')
                (first
                  | exact kS2.out _ ((Below.refl _ _).drew)
                  | exact kS2.out _ ((Below.refl _ _).drew.drew)
                  | exact kS2.out _ (Below.drew (by assumption))
                  | exact kS2.out _ (Below.trans (by assumption) (hbx.mono (Below.size (by assumption)))))
                (first
                  | (go_at_call 12; go_split_ands; refine (wakes_any hB hR hS _).mono ?_; rintro e w' ⟨rfl, hbx⟩))
              go_split_ands
              go_wp2
              go_ret
              refine ⟨rfl, (below_on bwc b5).trans (Below.mono (w := w5) ?_ (below_on bwc b5).size)⟩
              first | assumption | exact Below.trans (by assumption) (Below.mono (by assumption) (Below.size (by assumption)))
            · skip
              go_wp2_with fail
              go_region_held3 (fun W' => W'.cell? ⟨ga, oa + 4, none⟩ = some (.int .u8 0)
                            ∧ W'.cell? ⟨gb, ob + 4, none⟩ = some (.int .u8 1)
                            ∧ W'.cell? ⟨gb, ob + 5, none⟩ = some (.int .u8 x.key)
                            ∧ W'.cell? ⟨gb, ob + 6, none⟩ = some (.int .u8 x.val)
                            ∧ W'.cell? ⟨w.heap.size + 1, 0, none⟩ = some (.int .i64 x.key)
                            ∧ W'.cell? ⟨w.heap.size + 1, 1, none⟩ = some (.int .i64 x.val)
                            ∧ (convert 34 9 (.slice (some ⟨ga, oa, none⟩) 4 ca)).run Try.prog W' = .ok (.string sA) W'
                            ∧ (convert 34 9 (.slice (some ⟨gb, ob, none⟩) 4 cb)).run Try.prog W' = .ok (.string sA) W'
                            ∧ (convert 34 9 (.slice (some ⟨ga, oa + 5, none⟩) 0 (ca - 5))).run Try.prog W' = .ok (.string sF) W'
                            ∧ (convert 34 9 (.slice (some ⟨gb, ob + 5, none⟩) 0 (cb - 5))).run Try.prog W' = .ok (.string sF) W'
                            ∧ (convert 34 9 (.slice (some ⟨ga, oa, none⟩) 0 0)).run Try.prog W' = .ok (.string sF) W'
                            ∧ Below w5.heap.size w5 W')
                (first
                  | exact kS.out _ ((Below.refl _ _).drew)
                  | exact kS.out _ (Below.drew (by assumption)))
                (fail)
              go_wp2_with fail
              have u3 : IntKind.i64.wrap 6 = 6 := by decide
              have kS2 := Lib.hid (show ∀ W' : World, Below w5.heap.size w5 W' → W'.cell? ⟨gb, ob + 5, none⟩ = some (.int .u8 x.key) ∧ W'.cell? ⟨gb, ob + 6, none⟩ = some (.int .u8 x.val) ∧ W'.cell? ⟨w.heap.size + 1, 0, none⟩ = some (.int .i64 x.key) ∧ W'.cell? ⟨w.heap.size + 1, 1, none⟩ = some (.int .i64 x.val) ∧ Below w5.heap.size w5 W' from fun W' hb => by
                obtain ⟨_, _, s3, s4, s5, s6, _⟩ := kS.out W' hb
                exact ⟨s3, s4, s5, s6, hb⟩)
              go_region_held3 (fun W' => W'.cell? ⟨gb, ob + 5, none⟩ = some (.int .u8 x.key) ∧ W'.cell? ⟨gb, ob + 6, none⟩ = some (.int .u8 x.val) ∧ W'.cell? ⟨w.heap.size + 1, 0, none⟩ = some (.int .i64 x.key) ∧ W'.cell? ⟨w.heap.size + 1, 1, none⟩ = some (.int .i64 x.val) ∧ Below w5.heap.size w5 W')
                (first
                  | exact kS2.out _ ((Below.refl _ _).drew)
                  | exact kS2.out _ ((Below.refl _ _).drew.drew)
                  | exact kS2.out _ (Below.drew (by assumption))
                  | exact kS2.out _ (Below.trans (by assumption) (hbx.mono (Below.size (by assumption)))))
                (first
                  | (go_at_call 12; go_split_ands; refine (wakes_any hB hR hS _).mono ?_; rintro e w' ⟨rfl, hbx⟩))
              go_split_ands
              go_wp2
              go_ret
              refine ⟨rfl, (below_on bwc b5).trans (Below.mono (w := w5) ?_ (below_on bwc b5).size)⟩
              first | assumption | exact Below.trans (by assumption) (Below.mono (by assumption) (Below.size (by assumption)))
          · rw [hl4]
            rw [hl4] at kcell kstr ha1 hb1
            have kS := Lib.hid (show ∀ W' : World, Below w5.heap.size w5 W' → W'.cell? ⟨ga, oa + 4, none⟩ = some (.int .u8 1)
              ∧ W'.cell? ⟨gb, ob + 4, none⟩ = some (.int .u8 2)
              ∧ W'.cell? ⟨gb, ob + 7, none⟩ = some (.int .u8 x.key)
              ∧ W'.cell? ⟨gb, ob + 8, none⟩ = some (.int .u8 x.val)
              ∧ W'.cell? ⟨w.heap.size + 1, 0, none⟩ = some (.int .i64 x.key)
              ∧ W'.cell? ⟨w.heap.size + 1, 1, none⟩ = some (.int .i64 x.val)
              ∧ (convert 34 9 (.slice (some ⟨ga, oa, none⟩) 4 ca)).run Try.prog W' = .ok (.string sA) W'
              ∧ (convert 34 9 (.slice (some ⟨gb, ob, none⟩) 4 cb)).run Try.prog W' = .ok (.string sA) W'
              ∧ (convert 34 9 (.slice (some ⟨ga, oa + 5, none⟩) 2 (ca - 5))).run Try.prog W' = .ok (.string sF) W'
              ∧ (convert 34 9 (.slice (some ⟨gb, ob + 5, none⟩) 2 (cb - 5))).run Try.prog W' = .ok (.string sF) W'
              ∧ Below w5.heap.size w5 W' from fun W' hb => by
              obtain ⟨k1, k2, k3, k4, k5, k6⟩ := kcell.out W' hb
              obtain ⟨s1, s2, s3, s4, s5⟩ := kstr.out W' hb
              exact ⟨k1, k2, k3, k4, k5, k6, s1, s2, s3, s4, hb⟩)
            obtain ⟨_, _, _, _, _, _, _, _, _, _, _⟩ := kS.out w5 (Below.refl _ _)
            have i1 : (9 : Int) ≤ (cb : Int) := by omega
            have i2 : (7 : Int) ≤ (ca : Int) := by omega
            have i3 : (7 : Int) ≤ (cb : Int) := by omega
            have i4 : ¬ cb = 5 := by omega
            have i5 : (5 : Int) ≤ (cb : Int) := by omega
            have i6 : (5 : Int) ≤ (ca : Int) := by omega
            have i7 : (4 : Int) ≤ (cb : Int) := by omega
            have i8 : (4 : Int) ≤ (ca : Int) := by omega
            clear hr1 hr2 e1 e2 e3 f1 f2 f3 q3 q5 q3' ha5 hb5 ha6 hb6 kcell kstr hA hF
            have hc5 : ¬ ca = 5 := by omega
            go_wp2_with fail
            go_region_held3 (fun W' => W'.cell? ⟨ga, oa + 4, none⟩ = some (.int .u8 1)
                          ∧ W'.cell? ⟨gb, ob + 4, none⟩ = some (.int .u8 2)
                          ∧ W'.cell? ⟨gb, ob + 7, none⟩ = some (.int .u8 x.key)
                          ∧ W'.cell? ⟨gb, ob + 8, none⟩ = some (.int .u8 x.val)
                          ∧ W'.cell? ⟨w.heap.size + 1, 0, none⟩ = some (.int .i64 x.key)
                          ∧ W'.cell? ⟨w.heap.size + 1, 1, none⟩ = some (.int .i64 x.val)
                          ∧ (convert 34 9 (.slice (some ⟨ga, oa, none⟩) 4 ca)).run Try.prog W' = .ok (.string sA) W'
                          ∧ (convert 34 9 (.slice (some ⟨gb, ob, none⟩) 4 cb)).run Try.prog W' = .ok (.string sA) W'
                          ∧ (convert 34 9 (.slice (some ⟨ga, oa + 5, none⟩) 2 (ca - 5))).run Try.prog W' = .ok (.string sF) W'
                          ∧ (convert 34 9 (.slice (some ⟨gb, ob + 5, none⟩) 2 (cb - 5))).run Try.prog W' = .ok (.string sF) W'
                          ∧ Below w5.heap.size w5 W')
              (first
                | exact kS.out _ ((Below.refl _ _).drew)
                | exact kS.out _ (Below.drew (by assumption)))
              (fail)
            go_wp2_with fail
            have u3 : IntKind.i64.wrap 8 = 8 := by decide
            have kS2 := Lib.hid (show ∀ W' : World, Below w5.heap.size w5 W' → W'.cell? ⟨gb, ob + 7, none⟩ = some (.int .u8 x.key) ∧ W'.cell? ⟨gb, ob + 8, none⟩ = some (.int .u8 x.val) ∧ W'.cell? ⟨w.heap.size + 1, 0, none⟩ = some (.int .i64 x.key) ∧ W'.cell? ⟨w.heap.size + 1, 1, none⟩ = some (.int .i64 x.val) ∧ Below w5.heap.size w5 W' from fun W' hb => by
              obtain ⟨_, _, s3, s4, s5, s6, _⟩ := kS.out W' hb
              exact ⟨s3, s4, s5, s6, hb⟩)
            go_region_held3 (fun W' => W'.cell? ⟨gb, ob + 7, none⟩ = some (.int .u8 x.key) ∧ W'.cell? ⟨gb, ob + 8, none⟩ = some (.int .u8 x.val) ∧ W'.cell? ⟨w.heap.size + 1, 0, none⟩ = some (.int .i64 x.key) ∧ W'.cell? ⟨w.heap.size + 1, 1, none⟩ = some (.int .i64 x.val) ∧ Below w5.heap.size w5 W')
              (first
                | exact kS2.out _ ((Below.refl _ _).drew)
                | exact kS2.out _ ((Below.refl _ _).drew.drew)
                | exact kS2.out _ (Below.drew (by assumption))
                | exact kS2.out _ (Below.trans (by assumption) (hbx.mono (Below.size (by assumption)))))
              (first
                | (go_at_call 12; go_split_ands; refine (wakes_any hB hR hS _).mono ?_; rintro e w' ⟨rfl, hbx⟩))
            go_split_ands
            go_wp2
            go_ret
            refine ⟨rfl, (below_on bwc b5).trans (Below.mono (w := w5) ?_ (below_on bwc b5).size)⟩
            first | assumption | exact Below.trans (by assumption) (Below.mono (by assumption) (Below.size (by assumption)))
          · rw [hl4]
            rw [hl4] at kcell kstr ha1 hb1
            have kS := Lib.hid (show ∀ W' : World, Below w5.heap.size w5 W' → W'.cell? ⟨ga, oa + 4, none⟩ = some (.int .u8 2)
              ∧ W'.cell? ⟨gb, ob + 4, none⟩ = some (.int .u8 3)
              ∧ W'.cell? ⟨gb, ob + 9, none⟩ = some (.int .u8 x.key)
              ∧ W'.cell? ⟨gb, ob + 10, none⟩ = some (.int .u8 x.val)
              ∧ W'.cell? ⟨w.heap.size + 1, 0, none⟩ = some (.int .i64 x.key)
              ∧ W'.cell? ⟨w.heap.size + 1, 1, none⟩ = some (.int .i64 x.val)
              ∧ (convert 34 9 (.slice (some ⟨ga, oa, none⟩) 4 ca)).run Try.prog W' = .ok (.string sA) W'
              ∧ (convert 34 9 (.slice (some ⟨gb, ob, none⟩) 4 cb)).run Try.prog W' = .ok (.string sA) W'
              ∧ (convert 34 9 (.slice (some ⟨ga, oa + 5, none⟩) 4 (ca - 5))).run Try.prog W' = .ok (.string sF) W'
              ∧ (convert 34 9 (.slice (some ⟨gb, ob + 5, none⟩) 4 (cb - 5))).run Try.prog W' = .ok (.string sF) W'
              ∧ Below w5.heap.size w5 W' from fun W' hb => by
              obtain ⟨k1, k2, k3, k4, k5, k6⟩ := kcell.out W' hb
              obtain ⟨s1, s2, s3, s4, s5⟩ := kstr.out W' hb
              exact ⟨k1, k2, k3, k4, k5, k6, s1, s2, s3, s4, hb⟩)
            obtain ⟨_, _, _, _, _, _, _, _, _, _, _⟩ := kS.out w5 (Below.refl _ _)
            have i1 : (11 : Int) ≤ (cb : Int) := by omega
            have i2 : (9 : Int) ≤ (ca : Int) := by omega
            have i3 : (9 : Int) ≤ (cb : Int) := by omega
            have i4 : ¬ cb = 5 := by omega
            have i5 : (5 : Int) ≤ (cb : Int) := by omega
            have i6 : (5 : Int) ≤ (ca : Int) := by omega
            have i7 : (4 : Int) ≤ (cb : Int) := by omega
            have i8 : (4 : Int) ≤ (ca : Int) := by omega
            clear hr1 hr2 e1 e2 e3 f1 f2 f3 q3 q5 q3' ha5 hb5 ha6 hb6 kcell kstr hA hF
            have hc5 : ¬ ca = 5 := by omega
            go_wp2_with fail
            go_region_held3 (fun W' => W'.cell? ⟨ga, oa + 4, none⟩ = some (.int .u8 2)
                          ∧ W'.cell? ⟨gb, ob + 4, none⟩ = some (.int .u8 3)
                          ∧ W'.cell? ⟨gb, ob + 9, none⟩ = some (.int .u8 x.key)
                          ∧ W'.cell? ⟨gb, ob + 10, none⟩ = some (.int .u8 x.val)
                          ∧ W'.cell? ⟨w.heap.size + 1, 0, none⟩ = some (.int .i64 x.key)
                          ∧ W'.cell? ⟨w.heap.size + 1, 1, none⟩ = some (.int .i64 x.val)
                          ∧ (convert 34 9 (.slice (some ⟨ga, oa, none⟩) 4 ca)).run Try.prog W' = .ok (.string sA) W'
                          ∧ (convert 34 9 (.slice (some ⟨gb, ob, none⟩) 4 cb)).run Try.prog W' = .ok (.string sA) W'
                          ∧ (convert 34 9 (.slice (some ⟨ga, oa + 5, none⟩) 4 (ca - 5))).run Try.prog W' = .ok (.string sF) W'
                          ∧ (convert 34 9 (.slice (some ⟨gb, ob + 5, none⟩) 4 (cb - 5))).run Try.prog W' = .ok (.string sF) W'
                          ∧ Below w5.heap.size w5 W')
              (first
                | exact kS.out _ ((Below.refl _ _).drew)
                | exact kS.out _ (Below.drew (by assumption)))
              (fail)
            go_wp2_with fail
            have u3 : IntKind.i64.wrap 10 = 10 := by decide
            have kS2 := Lib.hid (show ∀ W' : World, Below w5.heap.size w5 W' → W'.cell? ⟨gb, ob + 9, none⟩ = some (.int .u8 x.key) ∧ W'.cell? ⟨gb, ob + 10, none⟩ = some (.int .u8 x.val) ∧ W'.cell? ⟨w.heap.size + 1, 0, none⟩ = some (.int .i64 x.key) ∧ W'.cell? ⟨w.heap.size + 1, 1, none⟩ = some (.int .i64 x.val) ∧ Below w5.heap.size w5 W' from fun W' hb => by
              obtain ⟨_, _, s3, s4, s5, s6, _⟩ := kS.out W' hb
              exact ⟨s3, s4, s5, s6, hb⟩)
            go_region_held3 (fun W' => W'.cell? ⟨gb, ob + 9, none⟩ = some (.int .u8 x.key) ∧ W'.cell? ⟨gb, ob + 10, none⟩ = some (.int .u8 x.val) ∧ W'.cell? ⟨w.heap.size + 1, 0, none⟩ = some (.int .i64 x.key) ∧ W'.cell? ⟨w.heap.size + 1, 1, none⟩ = some (.int .i64 x.val) ∧ Below w5.heap.size w5 W')
              (first
                | exact kS2.out _ ((Below.refl _ _).drew)
                | exact kS2.out _ ((Below.refl _ _).drew.drew)
                | exact kS2.out _ (Below.drew (by assumption))
                | exact kS2.out _ (Below.trans (by assumption) (hbx.mono (Below.size (by assumption)))))
              (first
                | (go_at_call 12; go_split_ands; refine (wakes_any hB hR hS _).mono ?_; rintro e w' ⟨rfl, hbx⟩))
            go_split_ands
            go_wp2
            go_ret
            refine ⟨rfl, (below_on bwc b5).trans (Below.mono (w := w5) ?_ (below_on bwc b5).size)⟩
            first | assumption | exact Below.trans (by assumption) (Below.mono (by assumption) (Below.size (by assumption)))
          · rw [hl4]
            rw [hl4] at kcell kstr ha1 hb1
            have kS := Lib.hid (show ∀ W' : World, Below w5.heap.size w5 W' → W'.cell? ⟨ga, oa + 4, none⟩ = some (.int .u8 3)
              ∧ W'.cell? ⟨gb, ob + 4, none⟩ = some (.int .u8 4)
              ∧ W'.cell? ⟨gb, ob + 11, none⟩ = some (.int .u8 x.key)
              ∧ W'.cell? ⟨gb, ob + 12, none⟩ = some (.int .u8 x.val)
              ∧ W'.cell? ⟨w.heap.size + 1, 0, none⟩ = some (.int .i64 x.key)
              ∧ W'.cell? ⟨w.heap.size + 1, 1, none⟩ = some (.int .i64 x.val)
              ∧ (convert 34 9 (.slice (some ⟨ga, oa, none⟩) 4 ca)).run Try.prog W' = .ok (.string sA) W'
              ∧ (convert 34 9 (.slice (some ⟨gb, ob, none⟩) 4 cb)).run Try.prog W' = .ok (.string sA) W'
              ∧ (convert 34 9 (.slice (some ⟨ga, oa + 5, none⟩) 6 (ca - 5))).run Try.prog W' = .ok (.string sF) W'
              ∧ (convert 34 9 (.slice (some ⟨gb, ob + 5, none⟩) 6 (cb - 5))).run Try.prog W' = .ok (.string sF) W'
              ∧ Below w5.heap.size w5 W' from fun W' hb => by
              obtain ⟨k1, k2, k3, k4, k5, k6⟩ := kcell.out W' hb
              obtain ⟨s1, s2, s3, s4, s5⟩ := kstr.out W' hb
              exact ⟨k1, k2, k3, k4, k5, k6, s1, s2, s3, s4, hb⟩)
            obtain ⟨_, _, _, _, _, _, _, _, _, _, _⟩ := kS.out w5 (Below.refl _ _)
            have i1 : (13 : Int) ≤ (cb : Int) := by omega
            have i2 : (11 : Int) ≤ (ca : Int) := by omega
            have i3 : (11 : Int) ≤ (cb : Int) := by omega
            have i4 : ¬ cb = 5 := by omega
            have i5 : (5 : Int) ≤ (cb : Int) := by omega
            have i6 : (5 : Int) ≤ (ca : Int) := by omega
            have i7 : (4 : Int) ≤ (cb : Int) := by omega
            have i8 : (4 : Int) ≤ (ca : Int) := by omega
            clear hr1 hr2 e1 e2 e3 f1 f2 f3 q3 q5 q3' ha5 hb5 ha6 hb6 kcell kstr hA hF
            have hc5 : ¬ ca = 5 := by omega
            go_wp2_with fail
            go_region_held3 (fun W' => W'.cell? ⟨ga, oa + 4, none⟩ = some (.int .u8 3)
                          ∧ W'.cell? ⟨gb, ob + 4, none⟩ = some (.int .u8 4)
                          ∧ W'.cell? ⟨gb, ob + 11, none⟩ = some (.int .u8 x.key)
                          ∧ W'.cell? ⟨gb, ob + 12, none⟩ = some (.int .u8 x.val)
                          ∧ W'.cell? ⟨w.heap.size + 1, 0, none⟩ = some (.int .i64 x.key)
                          ∧ W'.cell? ⟨w.heap.size + 1, 1, none⟩ = some (.int .i64 x.val)
                          ∧ (convert 34 9 (.slice (some ⟨ga, oa, none⟩) 4 ca)).run Try.prog W' = .ok (.string sA) W'
                          ∧ (convert 34 9 (.slice (some ⟨gb, ob, none⟩) 4 cb)).run Try.prog W' = .ok (.string sA) W'
                          ∧ (convert 34 9 (.slice (some ⟨ga, oa + 5, none⟩) 6 (ca - 5))).run Try.prog W' = .ok (.string sF) W'
                          ∧ (convert 34 9 (.slice (some ⟨gb, ob + 5, none⟩) 6 (cb - 5))).run Try.prog W' = .ok (.string sF) W'
                          ∧ Below w5.heap.size w5 W')
              (first
                | exact kS.out _ ((Below.refl _ _).drew)
                | exact kS.out _ (Below.drew (by assumption)))
              (fail)
            go_wp2_with fail
            have u3 : IntKind.i64.wrap 12 = 12 := by decide
            have kS2 := Lib.hid (show ∀ W' : World, Below w5.heap.size w5 W' → W'.cell? ⟨gb, ob + 11, none⟩ = some (.int .u8 x.key) ∧ W'.cell? ⟨gb, ob + 12, none⟩ = some (.int .u8 x.val) ∧ W'.cell? ⟨w.heap.size + 1, 0, none⟩ = some (.int .i64 x.key) ∧ W'.cell? ⟨w.heap.size + 1, 1, none⟩ = some (.int .i64 x.val) ∧ Below w5.heap.size w5 W' from fun W' hb => by
              obtain ⟨_, _, s3, s4, s5, s6, _⟩ := kS.out W' hb
              exact ⟨s3, s4, s5, s6, hb⟩)
            go_region_held3 (fun W' => W'.cell? ⟨gb, ob + 11, none⟩ = some (.int .u8 x.key) ∧ W'.cell? ⟨gb, ob + 12, none⟩ = some (.int .u8 x.val) ∧ W'.cell? ⟨w.heap.size + 1, 0, none⟩ = some (.int .i64 x.key) ∧ W'.cell? ⟨w.heap.size + 1, 1, none⟩ = some (.int .i64 x.val) ∧ Below w5.heap.size w5 W')
              (first
                | exact kS2.out _ ((Below.refl _ _).drew)
                | exact kS2.out _ ((Below.refl _ _).drew.drew)
                | exact kS2.out _ (Below.drew (by assumption))
                | exact kS2.out _ (Below.trans (by assumption) (hbx.mono (Below.size (by assumption)))))
              (first
                | (go_at_call 12; go_split_ands; refine (wakes_any hB hR hS _).mono ?_; rintro e w' ⟨rfl, hbx⟩))
            go_split_ands
            go_wp2
            go_ret
            refine ⟨rfl, (below_on bwc b5).trans (Below.mono (w := w5) ?_ (below_on bwc b5).size)⟩
            first | assumption | exact Below.trans (by assumption) (Below.mono (by assumption) (Below.size (by assumption)))
        · rw [e1, f1]
          go_wp2_with fail
          refine n5.mono ?_
          rintro e w6 ⟨rfl, b6⟩
          go_wp2
          go_ret
          exact ⟨rfl, below_on bwc (below_on b5 b6)⟩
      · rcases outE_two ⟨p, true, l ++ [x]⟩ with ⟨f1, f2, f3⟩ | ⟨f1, f2, f3⟩
        · rw [may_less f2] at e2
          cases e2
        · rw [e1, f1]
          go_wp2_with fail
          refine n5.mono ?_
          rintro e w6 ⟨rfl, b6⟩
          go_wp2
          go_ret
          exact ⟨rfl, below_on bwc (below_on b5 b6)⟩
end Go.Proofs.Ytfnoaagnemccmaa
