/- What is proved: the contracts of flumeref03's Put, Sync, Get. -/
import Derived.Test.YtjahhheipeggeaaDskD
namespace Go.Proofs.Ytjahhheipeggeaa
open Go.RowKit

def nilDisk : Value := .agg #[.slice none 0 0, .slice none 0 0]
theorem nil_dk (w : World) (lo hi : Nat) : Dk w lo hi nilDisk none_ := ⟨none, 0, 0, none, 0, 0, rfl, Rg.nil, Rg.nil, Nat.le_refl _, Nat.le_refl _, Nat.zero_le _, Nat.zero_le _⟩
set_option maxHeartbeats 3200000 in
theorem rput_no (lo hi : Nat) (v : Value) (d : Dsk) (s n : Int) (b : ByteArray) (w : World) (hd : Dk w lo hi v d) (hh : hi ≤ w.heap.size) (hok : putOk d s n b = false) :
    Calls Try.prog 13 #[v, .int .i64 s, .int .i64 n, .string b] w fun e w' => e = .returned (.tuple #[nilDisk, .int .i64 2]) ∧ Below w.heap.size w w' := by
  obtain ⟨a, l, c, a', l', c', rfl, h1, h2, hc⟩ := hd
  obtain ⟨W2, e2, hb1, k0, k1, k3, k4, k5, hsz⟩ := two_boxes w 24 24 (.slice a l c) (.slice a' l' c') (.slice none 0 0) (.slice none 0 0)
  have r1 := check_walk lo hi (.agg #[.slice a l c, .slice a' l' c']) d W2 ⟨a, l, c, a', l', c', rfl, h1.far (hb1.mono hh), h2.far (hb1.mono hh), hc⟩ (by omega)
  have hcase : chk d = 2 ∨ (chk d = 0 ∧ (s < 0 ∨ (0 ≤ s ∧ 33 ≤ s) ∨ (0 ≤ s ∧ s < 33 ∧ n < 1) ∨ (0 ≤ s ∧ s < 33 ∧ 1 ≤ n ∧ 1048575 < n) ∨ (0 ≤ s ∧ s < 33 ∧ 1 ≤ n ∧ n ≤ 1048575 ∧ b.toList.isEmpty = true) ∨ (0 ≤ s ∧ s < 33 ∧ 1 ≤ n ∧ n ≤ 1048575 ∧ b.toList.isEmpty = false ∧ 640 < b.size))) := by
    unfold putOk at hok
    rcases hk : chkB d with _ | _
    · exact .inl (chk_no hk)
    · refine .inr ⟨chk_yes hk, ?_⟩
      rw [hk, Bool.true_and] at hok
      have h0 := of_decide_eq_false hok
      rcases hb : b.toList.isEmpty with _ | _
      · have hb' : b.toList ≠ [] := by simpa using hb
        by_cases e1 : s < 0
        · exact .inl e1
        by_cases e2 : 33 ≤ s
        · exact .inr (.inl ⟨by omega, e2⟩)
        by_cases e3 : n < 1
        · exact .inr (.inr (.inl ⟨by omega, by omega, e3⟩))
        by_cases e4 : 1048575 < n
        · exact .inr (.inr (.inr (.inl ⟨by omega, by omega, by omega, e4⟩)))
        by_cases e5 : 640 < b.size
        · exact .inr (.inr (.inr (.inr (.inr ⟨by omega, by omega, by omega, by omega, rfl, e5⟩))))
        exact absurd ⟨by omega, by omega, by omega, by omega, hb', by omega⟩ h0
      · by_cases e1 : s < 0
        · exact .inl e1
        by_cases e2 : 33 ≤ s
        · exact .inr (.inl ⟨by omega, e2⟩)
        by_cases e3 : n < 1
        · exact .inr (.inr (.inl ⟨by omega, by omega, e3⟩))
        by_cases e4 : 1048575 < n
        · exact .inr (.inr (.inr (.inl ⟨by omega, by omega, by omega, e4⟩)))
        exact .inr (.inr (.inr (.inr (.inl ⟨by omega, by omega, by omega, by omega, rfl⟩))))
  clear hok h1 h2
  rcases hcase with hk | ⟨hk, hcase⟩
  · rw [hk] at r1
    clear hk
    go_enter Try.func13, Try.ntmps13
    go_wp2_with fail
    refine r1.mono ?_
    rintro e w3 ⟨rfl, hb3⟩
    obtain ⟨q0, q1, q2, q3⟩ := kR k3 k4 k5 hsz hb3
    have hend : Below w.heap.size w ((w3.setCell ⟨w.heap.size + 1, 0, none⟩ (.slice none 0 0)).setCell ⟨w.heap.size + 1, 1, none⟩ (.slice none 0 0)) := ((hb1.trans (hb3.mono hb1.size)).setCell (Nat.le_succ _) _).setCell (Nat.le_succ _) _
    clear k0 k1 k3 k4 k5 e2
    go_wp2
    exact bodyPost_ret (v := .tuple #[nilDisk, .int .i64 2]) (by simp [results, Try.results13, go_sem, nilDisk, q0, q1]) rfl ⟨rfl, hend⟩
  · rw [hk] at r1
    clear hk
    rcases hcase with h | ⟨h, h'⟩ | ⟨h, h', h''⟩ | ⟨h, h', h'', h3⟩ | ⟨h, h', h'', h3, h4⟩ | ⟨h, h', h'', h3, h4, h5⟩
    all_goals
      go_enter Try.func13, Try.ntmps13
      go_wp2_with fail
      refine r1.mono ?_
      rintro e w3 ⟨rfl, hb3⟩
      obtain ⟨q0, q1, q2, q3⟩ := kR k3 k4 k5 hsz hb3
      have hend : Below w.heap.size w ((w3.setCell ⟨w.heap.size + 1, 0, none⟩ (.slice none 0 0)).setCell ⟨w.heap.size + 1, 1, none⟩ (.slice none 0 0)) := ((hb1.trans (hb3.mono hb1.size)).setCell (Nat.le_succ _) _).setCell (Nat.le_succ _) _
      clear k0 k1 k3 k4 k5 e2
      go_wp2
      exact bodyPost_ret (v := .tuple #[nilDisk, .int .i64 2]) (by simp [results, Try.results13, go_sem, nilDisk, q0, q1]) rfl ⟨rfl, hend⟩

theorem Own2.far {B : Nat} {w w' : World} {e : TypeId} {v : Value} {d : Dsk} (h : Own2 B w e v d) (hb : Below w.heap.size w w') : Own2 B w' e v d := by
  obtain ⟨g, l, c, g', l', c', h1, h2, h3, h4, h5, h6, h7, h8⟩ := h
  have := hb.size
  exact ⟨g, l, c, g', l', c', h1, h2, h3, h4, by omega, by omega, own_below h7 hb, own_below h8 hb⟩
set_option maxHeartbeats 3200000 in
theorem rput_yes (lo hi : Nat) (v : Value) (d : Dsk) (k : Nat) (n : Int) (b : ByteArray) (w : World) (hd : Dk w lo hi v d) (hh : hi ≤ w.heap.size) (hok : putOk d k n b = true) :
    Calls Try.prog 13 #[v, .int .i64 k, .int .i64 n, .string b] w fun e w' => ∃ v', e = .returned (.tuple #[v', .int .i64 0]) ∧ Own2 w.heap.size w' 35 v' (putD d k n b) ∧ Below w.heap.size w w' := by
  obtain ⟨a, l, c, a', l', c', rfl, h1, h2, hc⟩ := hd
  obtain ⟨W2, e2, hb1, k0, k1, k3, k4, k5, hsz⟩ := two_boxes w 24 24 (.slice a l c) (.slice a' l' c') (.slice none 0 0) (.slice none 0 0)
  have r1 := check_walk lo hi (.agg #[.slice a l c, .slice a' l' c']) d W2 ⟨a, l, c, a', l', c', rfl, h1.far (hb1.mono hh), h2.far (hb1.mono hh), hc⟩ (by omega)
  obtain ⟨hk, ha⟩ := Bool.and_eq_true_iff.1 hok
  obtain ⟨ha1, ha2, ha3, ha4, ha5, ha6⟩ := of_decide_eq_true ha
  obtain ⟨hp1, hp2, _⟩ := chkB_parts hk
  have hl1 : l = 33 := by rw [← secs_len h1]; exact rowB_length hp1
  have hl2 : l' = 33 := by rw [← secs_len h2]; exact rowB_length hp2
  subst hl1 hl2
  have hbe : b.toList.isEmpty = false := by simpa using ha5
  have HL := Lib.hid (rowB_length hp1)
  have HL' := Lib.hid (rowB_length hp2)
  rw [chk_yes hk] at r1
  clear hok hk ha ha5 hp1 hp2
  go_enter Try.func13, Try.ntmps13
  go_wp2_with fail
  refine r1.mono ?_
  rintro e w3 ⟨rfl, hb3⟩
  have hB3 := hb1.trans (hb3.mono hb1.size)
  obtain ⟨q0, q1, q2, q3⟩ := kR k3 k4 k5 hsz hb3
  have q4 := (hb3.cell (p := ⟨w.heap.size, 0, none⟩) (show w.heap.size < _ by omega)).trans k0
  have q5 := (hb3.cell (p := ⟨w.heap.size, 1, none⟩) (show w.heap.size < _ by omega)).trans k1
  have hz3 := hb3.size
  have r2 := copied_walk lo hi a 33 c a' 33 c' d.now d.sure w3 (h1.far (hB3.mono hh)) (h2.far (hB3.mono hh)) (by omega) (by decide) (by decide) (by decide) (by decide)
  clear k0 k1 k3 k4 k5 e2 r1 h1 h2
  go_wp2_with fail
  refine r2.mono ?_
  rintro e w4 ⟨_, rfl, ⟨g, l, c3, g', l', c4, rfl, hgg, hg1, hg2, hg3, hg4, ho1, ho2⟩, hb4⟩
  have hl3 : l = 33 := by have := ho1.1; rw [secs_length, HL.out] at this; omega
  have hl4 : l' = 33 := by have := ho2.1; rw [secs_length, HL'.out] at this; omega
  subst hl3 hl4
  have hz4 := hb4.size
  have p0 := (hb4.cell (p := ⟨w.heap.size + 1, 0, none⟩) (show w.heap.size + 1 < _ by omega)).trans q0
  have p1 := (hb4.cell (p := ⟨w.heap.size + 1, 1, none⟩) (show w.heap.size + 1 < _ by omega)).trans q1
  have p2 := (hb4.frozen (p := ⟨w.heap.size + 1, 0, none⟩) (show w.heap.size + 1 < _ by omega)).trans q2
  have p3 := (hb4.frozen (p := ⟨w.heap.size + 1, 1, none⟩) (show w.heap.size + 1 < _ by omega)).trans q3
  have hB4 := hB3.trans (hb4.mono hB3.size)
  have hkl : k < d.now.length := by rw [HL.out]; omega
  obtain ⟨s, hs⟩ : ∃ s, d.now[k]? = some s := ⟨_, List.getElem?_eq_getElem hkl⟩
  have c1 : w4.cell? ⟨g, k * 2, none⟩ = some (.int .i64 s.n) := by
    rw [ho1.cellAt (k * 2) (by omega), secs_n d.now k hkl]
    obtain ⟨_, rfl⟩ := List.getElem?_eq_some_iff.1 hs
    rfl
  have c2 : w4.cell? ⟨g, k * 2 + 1, none⟩ = some (.string s.b) := by
    rw [ho1.cellAt (k * 2 + 1) (by omega), secs_b d.now k hkl]
    obtain ⟨_, rfl⟩ := List.getElem?_eq_some_iff.1 hs
    rfl
  have f1 := ho1.frozenAt (k * 2)
  have f2 := ho1.frozenAt (k * 2 + 1)
  have HS := Lib.hid hs
  have HO1 := Lib.hid ho1
  have HO2 := Lib.hid ho2
  clear q0 q1 q2 q3 q4 q5 r2 hs ho1 ho2 hb3 hb4 hB3 hb1 hkl
  have n1 : ¬ w.heap.size + 1 = w4.heap.size := by omega
  have n2 : ¬ w4.heap.size = w.heap.size + 1 := by omega
  have n3 : ¬ w.heap.size + 1 = g := by omega
  have n4 : ¬ g = w.heap.size + 1 := by omega
  have n5 : ¬ g = w4.heap.size := by omega
  have n6 : ¬ w4.heap.size = g := by omega
  by_cases hlt : s.n < n
  · have hb5 : Below (w.heap.size + 2) w4 (((w4.setCell ⟨g, k * 2, none⟩ (.int .i64 n)).setCell ⟨g, k * 2 + 1, none⟩ (.string b)).alloc (.cells #[.slice (some ⟨g, 0, none⟩) 33 c3, .slice (some ⟨g', 0, none⟩) 33 c4] 24)) := (((Below.refl _ _).setCell (show w.heap.size + 2 ≤ g by omega) _).setCell (show w.heap.size + 2 ≤ g by omega) _).alloc (by simp; omega) _
    have z0 := (hb5.cell (p := ⟨w.heap.size + 1, 0, none⟩) (show w.heap.size + 1 < _ by omega)).trans p0
    have z1 := (hb5.cell (p := ⟨w.heap.size + 1, 1, none⟩) (show w.heap.size + 1 < _ by omega)).trans p1
    have z2 := (hb5.frozen (p := ⟨w.heap.size + 1, 0, none⟩) (show w.heap.size + 1 < _ by omega)).trans p2
    have z3 := (hb5.frozen (p := ⟨w.heap.size + 1, 1, none⟩) (show w.heap.size + 1 < _ by omega)).trans p3
    clear p0 p1 p2 p3
    go_wp2
    have o1 := own_set_far (own_set_far (((HO1.out.stored (k * 2) (.int .i64 n)).1.stored (k * 2 + 1) (.string b)).1.alloc (.cells #[.slice (some ⟨g, 0, none⟩) 33 c3, .slice (some ⟨g', 0, none⟩) 33 c4] 24)) (p := ⟨w.heap.size + 1, 0, none⟩) n4 (.slice (some ⟨g, 0, none⟩) 33 c3)) (p := ⟨w.heap.size + 1, 1, none⟩) n4 (.slice (some ⟨g', 0, none⟩) 33 c4)
    have o4 := own_set_far (own_set_far ((own_set_far (own_set_far HO2.out (p := ⟨g, k * 2, none⟩) (Ne.symm hgg) (.int .i64 n)) (p := ⟨g, k * 2 + 1, none⟩) (Ne.symm hgg) (.string b)).alloc (.cells #[.slice (some ⟨g, 0, none⟩) 33 c3, .slice (some ⟨g', 0, none⟩) 33 c4] 24)) (p := ⟨w.heap.size + 1, 0, none⟩) (show g' ≠ w.heap.size + 1 by omega) (.slice (some ⟨g, 0, none⟩) 33 c3)) (p := ⟨w.heap.size + 1, 1, none⟩) (show g' ≠ w.heap.size + 1 by omega) (.slice (some ⟨g', 0, none⟩) 33 c4)
    have hend : Below w.heap.size w (((((w4.setCell ⟨g, k * 2, none⟩ (.int .i64 n)).setCell ⟨g, k * 2 + 1, none⟩ (.string b)).alloc (.cells #[.slice (some ⟨g, 0, none⟩) 33 c3, .slice (some ⟨g', 0, none⟩) 33 c4] 24)).setCell ⟨w.heap.size + 1, 0, none⟩ (.slice (some ⟨g, 0, none⟩) 33 c3)).setCell ⟨w.heap.size + 1, 1, none⟩ (.slice (some ⟨g', 0, none⟩) 33 c4)) := ((((hB4.setCell (show w.heap.size ≤ g by omega) _).setCell (show w.heap.size ≤ g by omega) _).alloc (by simp; omega) (.cells #[.slice (some ⟨g, 0, none⟩) 33 c3, .slice (some ⟨g', 0, none⟩) 33 c4] 24)).setCell (Nat.le_succ _) _).setCell (Nat.le_succ _) _
    have y0 := z0
    have y1 := z1
    clear z0 z1 z2 z3
    refine bodyPost_ret (v := .tuple #[.agg #[.slice (some ⟨g, 0, none⟩) 33 c3, .slice (some ⟨g', 0, none⟩) 33 c4], .int .i64 0]) (by simp [results, Try.results13, go_sem, y0, y1]) rfl ⟨_, rfl, ⟨g, 33, c3, g', 33, c4, rfl, hgg, by omega, by omega, by simp; omega, by simp; omega, ?_, ?_⟩, hend⟩
    · have e : putD d k n b = ⟨d.now.set k ⟨n, b⟩, d.sure⟩ := by unfold putD; rw [HS.out, if_pos (by simpa using hlt)]
      rw [e]
      have hs2 := secs_set d.now k ⟨n, b⟩ (by rw [HL.out]; omega)
      show World.ownsRow _ _ _ _ _ _ (secs (d.now.set k ⟨n, b⟩))
      rw [← hs2]
      exact own_base o1 (by omega)
    · have e : putD d k n b = ⟨d.now.set k ⟨n, b⟩, d.sure⟩ := by unfold putD; rw [HS.out, if_pos (by simpa using hlt)]
      rw [e]
      exact own_base o4 (by omega)
  · have hb5 : Below (w.heap.size + 2) w4 (w4.alloc (.cells #[.slice (some ⟨g, 0, none⟩) 33 c3, .slice (some ⟨g', 0, none⟩) 33 c4] 24)) := (Below.refl _ _).alloc (by omega) _
    have z0 := (hb5.cell (p := ⟨w.heap.size + 1, 0, none⟩) (show w.heap.size + 1 < _ by omega)).trans p0
    have z1 := (hb5.cell (p := ⟨w.heap.size + 1, 1, none⟩) (show w.heap.size + 1 < _ by omega)).trans p1
    have z2 := (hb5.frozen (p := ⟨w.heap.size + 1, 0, none⟩) (show w.heap.size + 1 < _ by omega)).trans p2
    have z3 := (hb5.frozen (p := ⟨w.heap.size + 1, 1, none⟩) (show w.heap.size + 1 < _ by omega)).trans p3
    clear p0 p1 p2 p3
    go_wp2
    have o1 := own_set_far (own_set_far (HO1.out.alloc (.cells #[.slice (some ⟨g, 0, none⟩) 33 c3, .slice (some ⟨g', 0, none⟩) 33 c4] 24)) (p := ⟨w.heap.size + 1, 0, none⟩) n4 (.slice (some ⟨g, 0, none⟩) 33 c3)) (p := ⟨w.heap.size + 1, 1, none⟩) n4 (.slice (some ⟨g', 0, none⟩) 33 c4)
    have o4 := own_set_far (own_set_far (HO2.out.alloc (.cells #[.slice (some ⟨g, 0, none⟩) 33 c3, .slice (some ⟨g', 0, none⟩) 33 c4] 24)) (p := ⟨w.heap.size + 1, 0, none⟩) (show g' ≠ w.heap.size + 1 by omega) (.slice (some ⟨g, 0, none⟩) 33 c3)) (p := ⟨w.heap.size + 1, 1, none⟩) (show g' ≠ w.heap.size + 1 by omega) (.slice (some ⟨g', 0, none⟩) 33 c4)
    have hend : Below w.heap.size w ((((w4).alloc (.cells #[.slice (some ⟨g, 0, none⟩) 33 c3, .slice (some ⟨g', 0, none⟩) 33 c4] 24)).setCell ⟨w.heap.size + 1, 0, none⟩ (.slice (some ⟨g, 0, none⟩) 33 c3)).setCell ⟨w.heap.size + 1, 1, none⟩ (.slice (some ⟨g', 0, none⟩) 33 c4)) := ((hB4.alloc hB4.size (.cells #[.slice (some ⟨g, 0, none⟩) 33 c3, .slice (some ⟨g', 0, none⟩) 33 c4] 24)).setCell (Nat.le_succ _) _).setCell (Nat.le_succ _) _
    have y0 := z0
    have y1 := z1
    clear z0 z1 z2 z3
    refine bodyPost_ret (v := .tuple #[.agg #[.slice (some ⟨g, 0, none⟩) 33 c3, .slice (some ⟨g', 0, none⟩) 33 c4], .int .i64 0]) (by simp [results, Try.results13, go_sem, y0, y1]) rfl ⟨_, rfl, ⟨g, 33, c3, g', 33, c4, rfl, hgg, by omega, by omega, by simp; omega, by simp; omega, ?_, ?_⟩, hend⟩
    · have e : putD d k n b = d := by unfold putD; rw [HS.out, if_neg (by simpa using hlt)]
      rw [e]
      exact own_base o1 (by omega)
    · have e : putD d k n b = d := by unfold putD; rw [HS.out, if_neg (by simpa using hlt)]
      rw [e]
      exact own_base o4 (by omega)
end Go.Proofs.Ytjahhheipeggeaa
