/- What is proved: the contracts of disk's Sync, Put. -/
import Derived.Test.YtjahhheipeggeaaDvE
import Derived.Test.YtjahhheipeggeaaDskX
namespace Go.Proofs.Ytjahhheipeggeaa
open Go.RowKit

theorem leftTo_zero (d : Dsk) (k : Nat) : leftTo d 0 k = d.now := by
  induction k with
  | zero => rfl
  | succ k ih =>
    unfold leftTo
    rw [show bitI 0 k = false by unfold bitI; rw [Int.zero_ediv]; rfl, if_neg (by decide)]
    exact ih
theorem crashF_zero (d : Dsk) : crashF d 0 = syncF d := by
  unfold crashF syncF
  rcases hk : chkB d with _ | _
  · rfl
  · obtain ⟨h1, h2, _⟩ := chkB_parts hk
    rw [if_pos rfl, if_pos rfl, ← leftTo_end d 0 (rowB_length h1) (rowB_length h2), leftTo_zero]
set_option maxHeartbeats 1600000 in
theorem dsync_spec : SyncSpec 15 := by
  intro hi v d w hd hh hs
  have hd0 := hd
  obtain ⟨a, l, c, a', l', c', rfl, h1, h2, hc⟩ := hd
  obtain ⟨W2, e2, hb1, k0, k1, k3, k4, k5, hsz⟩ := two_boxes w 24 24 (.slice a l c) (.slice a' l' c') (.slice none 0 0) (.slice none 0 0)
  have r1 := dcrash_spec hi (.agg #[.slice a l c, .slice a' l' c']) d 0 W2 (hd0.far (hb1.mono hh)) (by omega) hs (by decide) (by decide)
  rw [crashF_zero] at r1
  have hd1 := hd0
  clear hd0 h1 h2
  go_enter Try.func15, Try.ntmps15
  go_wp2_with fail
  refine r1.mono ?_
  rintro e w3 ⟨v', rfl, hd3, hb3, hav⟩
  obtain ⟨b, m, f, b', m', f', rfl, h3, h4, hc3⟩ := hd3
  obtain ⟨q0, q1, q2, q3⟩ := kR k3 k4 k5 hsz hb3
  have hB3 := hb1.trans (hb3.mono hb1.size)
  have hend : Below w.heap.size w ((w3.setCell ⟨w.heap.size + 1, 0, none⟩ (.slice b m f)).setCell ⟨w.heap.size + 1, 1, none⟩ (.slice b' m' f')) := (hB3.setCell (Nat.le_succ _) _).setCell (Nat.le_succ _) _
  clear k0 k1 k3 k4 k5 e2 r1
  go_wp2
  refine bodyPost_ret (v := .tuple #[.agg #[.slice b m f, .slice b' m' f'], .int .i64 (syncF d).2]) (by simp [results, Try.results15, go_sem, q0, q1]) rfl ⟨_, rfl, ?_, hend, fun Q hQ hv => hav Q (by omega) hv⟩
  rcases hk : chkB d with _ | _
  · have e : (syncF d).1 = none_ := by unfold syncF; rw [hk]; rfl
    rw [e] at h3 h4 ⊢
    have z3 := secs_len h3
    have z4 := secs_len h4
    have z3 : 0 = m := z3
    have z4 : 0 = m' := z4
    subst z3 z4
    exact ⟨b, 0, f, b', 0, f', rfl, Rg.nil, Rg.nil, hc3⟩
  · obtain ⟨p1, p2, _⟩ := chkB_parts hk
    have av := hav (w.heap.size + 1) (by omega) (hd1.avo (rowB_length p1) (rowB_length p2) (by omega))
    have hd3 : Dk w3 0 w3.heap.size (.agg #[.slice b m f, .slice b' m' f']) (syncF d).1 := ⟨b, m, f, b', m', f', rfl, h3, h4, hc3⟩
    exact ((hd3.avo_set av 0 _).avo_set av 1 _).wide (Nat.le_refl _) (by simp)

section
variable {lo hi : Nat} {a : Option Addr} {c : Nat} {xs : List Sec} {W w : World}
theorem with_from (k : Nat) (s : Sec) (h1 : Rg 2 W lo hi a 33 (secs xs)) (hh : hi ≤ W.heap.size) (hk : k < 33) (hc : 33 ≤ c) (hcm : c ≤ maxLen) (hb : Below W.heap.size W w) :
    Calls Try.prog 31 #[.slice a 33 c, .int .i64 k, .agg #[.int .i64 s.n, .string s.b]] w fun e w' => ∃ g c', e = .returned (.slice (some ⟨g, 0, none⟩) 33 c') ∧ w.heap.size ≤ g ∧ g < w'.heap.size ∧ w'.ownsRow w.heap.size 35 2 (.slice (some ⟨g, 0, none⟩) 33 c') 33 (secs (xs.set k s)) ∧ Below W.heap.size W w' ∧ Below w.heap.size w w' := by
  refine (with_walk lo hi a c k s xs w (h1.far (hb.mono hh)) (Nat.le_trans hh hb.size) hk hc hcm).mono ?_
  rintro e w' ⟨g, c', h1, h2, h3, h4, h5⟩
  exact ⟨g, c', h1, h2, h3, h4, hb.trans (h5.mono hb.size), h5⟩
theorem clone_from (h1 : Rg 2 W lo hi a 33 (secs xs)) (hh : hi ≤ W.heap.size) (hb : Below W.heap.size W w) :
    Calls Try.prog 32 #[.slice a 33 c] w fun e w' => ∃ g c', e = .returned (.slice (some ⟨g, 0, none⟩) 33 c') ∧ w.heap.size ≤ g ∧ g < w'.heap.size ∧ w'.ownsRow w.heap.size 35 2 (.slice (some ⟨g, 0, none⟩) 33 c') 33 (secs xs) ∧ Below W.heap.size W w' ∧ Below w.heap.size w w' := by
  refine (clone_walk lo hi a 33 c xs w (h1.far (hb.mono hh)) (Nat.le_trans hh hb.size) (by decide) (by decide)).mono ?_
  rintro e w' ⟨g, c', h1, h2, h3, h4, h5⟩
  exact ⟨g, c', h1, h2, h3, h4, hb.trans (h5.mono hb.size), h5⟩
end
theorem kP {B P : Nat} {s1 s2 p1 p2 : Value} {w w' : World} (hBP : B < P) (h : w.cell? ⟨B, 0, none⟩ = some s1 ∧ w.cell? ⟨B, 1, none⟩ = some s2 ∧ w.cell? ⟨P, 0, none⟩ = some p1 ∧ w.cell? ⟨P, 1, none⟩ = some p2 ∧ P + 1 ≤ w.heap.size) (hb : Below w.heap.size w w') :
    w'.cell? ⟨B, 0, none⟩ = some s1 ∧ w'.cell? ⟨B, 1, none⟩ = some s2 ∧ w'.cell? ⟨P, 0, none⟩ = some p1 ∧ w'.cell? ⟨P, 1, none⟩ = some p2 ∧ P + 1 ≤ w'.heap.size :=
  ⟨(hb.cell (p := ⟨B, 0, none⟩) (show B < _ by omega)).trans h.1, (hb.cell (p := ⟨B, 1, none⟩) (show B < _ by omega)).trans h.2.1, (hb.cell (p := ⟨P, 0, none⟩) (show P < _ by omega)).trans h.2.2.1, (hb.cell (p := ⟨P, 1, none⟩) (show P < _ by omega)).trans h.2.2.2.1, Nat.le_trans h.2.2.2.2 hb.size⟩
theorem kSt {B P R : Nat} {s1 s2 p1 p2 : Value} {w : World} (n1 : R ≠ B) (n2 : R ≠ P) (h : w.cell? ⟨B, 0, none⟩ = some s1 ∧ w.cell? ⟨B, 1, none⟩ = some s2 ∧ w.cell? ⟨P, 0, none⟩ = some p1 ∧ w.cell? ⟨P, 1, none⟩ = some p2 ∧ P + 1 ≤ w.heap.size) (x y : Value) :
    ((w.setCell ⟨R, 0, none⟩ x).setCell ⟨R, 1, none⟩ y).cell? ⟨B, 0, none⟩ = some s1 ∧ ((w.setCell ⟨R, 0, none⟩ x).setCell ⟨R, 1, none⟩ y).cell? ⟨B, 1, none⟩ = some s2 ∧ ((w.setCell ⟨R, 0, none⟩ x).setCell ⟨R, 1, none⟩ y).cell? ⟨P, 0, none⟩ = some p1 ∧ ((w.setCell ⟨R, 0, none⟩ x).setCell ⟨R, 1, none⟩ y).cell? ⟨P, 1, none⟩ = some p2 ∧ P + 1 ≤ ((w.setCell ⟨R, 0, none⟩ x).setCell ⟨R, 1, none⟩ y).heap.size := by
  have ne : ∀ {g : Nat} (k j : Nat), R ≠ g → (⟨R, k, none⟩ : Addr) ≠ ⟨g, j, none⟩ := fun k j n e => n (congrArg Addr.block e)
  obtain ⟨h1, h2, h3, h4, h5⟩ := h
  refine ⟨?_, ?_, ?_, ?_, by simpa using h5⟩
  · rw [World.cell?_setCell_other _ _ _ _ (ne 1 0 n1), World.cell?_setCell_other _ _ _ _ (ne 0 0 n1)]; exact h1
  · rw [World.cell?_setCell_other _ _ _ _ (ne 1 1 n1), World.cell?_setCell_other _ _ _ _ (ne 0 1 n1)]; exact h2
  · rw [World.cell?_setCell_other _ _ _ _ (ne 1 0 n2), World.cell?_setCell_other _ _ _ _ (ne 0 0 n2)]; exact h3
  · rw [World.cell?_setCell_other _ _ _ _ (ne 1 1 n2), World.cell?_setCell_other _ _ _ _ (ne 0 1 n2)]; exact h4
theorem put_cases {d : Dsk} {s n : Int} {b : ByteArray} (hok : putOk d s n b = false) : hasD d s = false ∨ (hasD d s = true ∧ (n < 1 ∨ (1 ≤ n ∧ 1048575 < n) ∨ (1 ≤ n ∧ n ≤ 1048575 ∧ b.toList.isEmpty = true) ∨ (1 ≤ n ∧ n ≤ 1048575 ∧ b.toList.isEmpty = false ∧ 640 < b.size))) := by
  unfold putOk at hok
  unfold hasD
  rcases hk : chkB d with _ | _
  · exact .inl rfl
  · rw [hk, Bool.true_and] at hok
    rw [Bool.true_and]
    have h0 := of_decide_eq_false hok
    by_cases hs : 0 ≤ s ∧ s < 33
    · refine .inr ⟨decide_eq_true hs, ?_⟩
      rcases hb : b.toList.isEmpty with _ | _
      · have hb' : b.toList ≠ [] := by simpa using hb
        by_cases e3 : n < 1
        · exact .inl e3
        by_cases e4 : 1048575 < n
        · exact .inr (.inl ⟨by omega, e4⟩)
        by_cases e5 : 640 < b.size
        · exact .inr (.inr (.inr ⟨by omega, by omega, rfl, e5⟩))
        exact absurd ⟨hs.1, hs.2, by omega, by omega, hb', by omega⟩ h0
      · by_cases e3 : n < 1
        · exact .inl e3
        by_cases e4 : 1048575 < n
        · exact .inr (.inl ⟨by omega, e4⟩)
        exact .inr (.inr (.inl ⟨by omega, by omega, rfl⟩))
    · exact .inl (decide_eq_false hs)
set_option maxHeartbeats 3200000 in
theorem dput_no (lo hi : Nat) (v : Value) (d : Dsk) (s n : Int) (b : ByteArray) (w : World) (hd : Dk w lo hi v d) (hh : hi ≤ w.heap.size) (hok : putOk d s n b = false) :
    Calls Try.prog 12 #[v, .int .i64 s, .int .i64 n, .string b] w fun e w' => e = .returned (.tuple #[nilDisk, .int .i64 2]) ∧ Below w.heap.size w w' := by
  have hd0 := hd
  obtain ⟨a, l, c, a', l', c', rfl, h1, h2, hc⟩ := hd
  obtain ⟨W2, e2, hb1, k0, k1, k3, k4, k5, hsz⟩ := two_boxes w 24 24 (.slice a l c) (.slice a' l' c') (.slice none 0 0) (.slice none 0 0)
  have r1 := has_walk lo hi (.agg #[.slice a l c, .slice a' l' c']) d s W2 (hd0.far (hb1.mono hh)) (by omega)
  have hcase := put_cases hok
  clear hok h1 h2 hd0
  rcases hcase with hk | ⟨hk, h | ⟨h, h'⟩ | ⟨h, h', h3⟩ | ⟨h, h', h3, h4⟩⟩
  all_goals
    rw [hk] at r1
    clear hk
    go_enter Try.func12, Try.ntmps12
    go_wp2_with fail
    refine r1.mono ?_
    rintro e w3 ⟨rfl, hb3⟩
    obtain ⟨q0, q1, q2, q3⟩ := kR k3 k4 k5 hsz hb3
    have hend : Below w.heap.size w ((w3.setCell ⟨w.heap.size + 1, 0, none⟩ (.slice none 0 0)).setCell ⟨w.heap.size + 1, 1, none⟩ (.slice none 0 0)) := ((hb1.trans (hb3.mono hb1.size)).setCell (Nat.le_succ _) _).setCell (Nat.le_succ _) _
    clear k0 k1 k3 k4 k5 e2
    go_wp2
    exact bodyPost_ret (v := .tuple #[nilDisk, .int .i64 2]) (by simp [results, Try.results12, go_sem, nilDisk, q0, q1]) rfl ⟨rfl, hend⟩
theorem putD_set {d : Dsk} {k : Nat} {s : Sec} (hs : d.now[k]? = some s) (n : Int) (b : ByteArray) : putD d k n b = ⟨d.now.set k (if s.n < n then ⟨n, b⟩ else s), d.sure⟩ := by
  unfold putD
  rw [hs, Option.getD_some]
  split
  · rfl
  · obtain ⟨hk, rfl⟩ := List.getElem?_eq_some_iff.1 hs
    rw [List.set_getElem_self]

set_option maxHeartbeats 3200000 in
theorem dput_yes (lo hi : Nat) (v : Value) (d : Dsk) (k : Nat) (n : Int) (b : ByteArray) (w : World) (hd : Dk w lo hi v d) (hh : hi ≤ w.heap.size) (hok : putOk d k n b = true) :
    Calls Try.prog 12 #[v, .int .i64 k, .int .i64 n, .string b] w fun e w' => ∃ v', e = .returned (.tuple #[v', .int .i64 0]) ∧ Own2 w.heap.size w' 35 v' (putD d k n b) ∧ Below w.heap.size w w' := by
  have hd0 := hd
  obtain ⟨a, l, c, a', l', c', rfl, h1, h2, hc1, hc2, hm1, hm2⟩ := hd
  obtain ⟨W2, e2, hb1, k0, k1, k3, k4, k5, hsz⟩ := two_boxes w 24 24 (.slice a l c) (.slice a' l' c') (.slice none 0 0) (.slice none 0 0)
  have r1 := has_walk lo hi (.agg #[.slice a l c, .slice a' l' c']) d k W2 (hd0.far (hb1.mono hh)) (by omega)
  obtain ⟨hk, ha⟩ := Bool.and_eq_true_iff.1 hok
  obtain ⟨ha1, ha2, ha3, ha4, ha5, ha6⟩ := of_decide_eq_true ha
  obtain ⟨hp1, hp2, _⟩ := chkB_parts hk
  have hl1 : l = 33 := by rw [← secs_len h1]; exact rowB_length hp1
  have hl2 : l' = 33 := by rw [← secs_len h2]; exact rowB_length hp2
  subst hl1 hl2
  have hbe : b.toList.isEmpty = false := by simpa using ha5
  have HL := Lib.hid (rowB_length hp1)
  rw [show hasD d k = true by unfold hasD; rw [hk, Bool.true_and]; exact decide_eq_true ⟨ha1, ha2⟩] at r1
  have hkk : k < 33 := by omega
  obtain ⟨s, hs⟩ : ∃ s, d.now[k]? = some s := ⟨_, List.getElem?_eq_getElem (by rw [HL.out]; exact hkk)⟩
  have HS := Lib.hid hs
  obtain ⟨g, o, rfl, hg1, hg2, hcell⟩ := h1.addr (by decide)
  obtain ⟨c1, c2⟩ := secs_cell hcell hs
  clear hok hk ha ha5 hp1 hp2 hd0 hcell hs
  go_enter Try.func12, Try.ntmps12
  go_wp2_with fail
  refine r1.mono ?_
  rintro e w3 ⟨rfl, hb3⟩
  have hB3 := hb1.trans (hb3.mono hb1.size)
  obtain ⟨q0, q1, q2, q3⟩ := kR k3 k4 k5 hsz hb3
  have q4 := (hb3.cell (p := ⟨w.heap.size, 0, none⟩) (show w.heap.size < _ by omega)).trans k0
  have q5 := (hb3.cell (p := ⟨w.heap.size, 1, none⟩) (show w.heap.size < _ by omega)).trans k1
  have d1 := (hB3.cell (p := ⟨g, o + k * 2, none⟩) (show g < w.heap.size by omega)).trans c1
  have d2 := (hB3.cell (p := ⟨g, o + k * 2 + 1, none⟩) (show g < w.heap.size by omega)).trans c2
  have hz3 := hb3.size
  have H1 := Lib.hid (h1.far (hB3.mono hh))
  have H2 := Lib.hid (h2.far (hB3.mono hh))
  have hk0 : (0 : Int) ≤ k := by omega
  clear k0 k1 k3 k4 k5 e2 r1 h1 h2 c1 c2 hb3
  by_cases hlt : s.n < n
  · have HD := Lib.hid (show putD d k n b = ⟨d.now.set k ⟨n, b⟩, d.sure⟩ by rw [putD_set HS.out, if_pos hlt])
    obtain ⟨W5, e5, hb5, p0, p1, hz5⟩ := one_box w3 35 (.int .i64 n) (.string b)
    have hb35 := hb5
    have u0 := (hb5.cell (p := ⟨w.heap.size, 0, none⟩) (show w.heap.size < _ by omega)).trans q4
    have u1 := (hb5.cell (p := ⟨w.heap.size, 1, none⟩) (show w.heap.size < _ by omega)).trans q5
    have v0 := (hb5.cell (p := ⟨w.heap.size + 1, 0, none⟩) (show w.heap.size + 1 < _ by omega)).trans q0
    have v1 := (hb5.cell (p := ⟨w.heap.size + 1, 1, none⟩) (show w.heap.size + 1 < _ by omega)).trans q1
    have v2 := (hb5.frozen (p := ⟨w.heap.size + 1, 0, none⟩) (show w.heap.size + 1 < _ by omega)).trans q2
    have v3 := (hb5.frozen (p := ⟨w.heap.size + 1, 1, none⟩) (show w.heap.size + 1 < _ by omega)).trans q3
    have HB5 := hB3.trans (hb5.mono hB3.size)
    have g1 := H1.out.far (hb5.mono (show hi ≤ w3.heap.size by omega))
    have g2 := H2.out.far (hb5.mono (show hi ≤ w3.heap.size by omega))
    have hBP : w.heap.size < w3.heap.size := by omega
    have hh5 : hi ≤ W5.heap.size := by omega
    clear q0 q1 q2 q3
    go_wp2
    clear e5
    clear hlt
    have nBR : w.heap.size + 1 ≠ w.heap.size := by omega
    have nPR : w.heap.size + 1 ≠ w3.heap.size := by omega
    have hR5 : w.heap.size + 1 < W5.heap.size := by omega
    have kV := Lib.hid (fun (w' : World) (h : Below W5.heap.size W5 w') => And.intro ((h.cell (p := ⟨w.heap.size + 1, 0, none⟩) hR5).trans v0) (And.intro ((h.cell (p := ⟨w.heap.size + 1, 1, none⟩) hR5).trans v1) (And.intro ((h.frozen (p := ⟨w.heap.size + 1, 0, none⟩) hR5).trans v2) ((h.frozen (p := ⟨w.heap.size + 1, 1, none⟩) hR5).trans v3))))
    clear v0 v1 v2 v3
    go_region_held3 (fun w' => w'.cell? ⟨w.heap.size, 0, none⟩ = some (.slice (some ⟨g, o, none⟩) 33 c) ∧ w'.cell? ⟨w.heap.size, 1, none⟩ = some (.slice a' 33 c') ∧ w'.cell? ⟨w3.heap.size, 0, none⟩ = some (.int .i64 n) ∧ w'.cell? ⟨w3.heap.size, 1, none⟩ = some (.string b) ∧ w3.heap.size + 1 ≤ w'.heap.size)
      (first
        | exact kP hBP ⟨u0, u1, p0, p1, hz5⟩ ((Below.refl _ _).drew)
        | exact kP hBP (by assumption) ((Below.refl _ _).drew)
        | exact kP hBP ⟨u0, u1, p0, p1, hz5⟩ hb6
        | exact kP hBP ⟨u0, u1, p0, p1, hz5⟩ hb7
        | exact kSt nBR nPR (by assumption) _ _)
      (first
        | (go_at_call 31; go_split_ands; refine (with_from (W := W5) k ⟨n, b⟩ g1 hh5 hkk hc1 hm1 (by repeat (first | assumption | exact Below.refl _ _ | apply Below.drew))).mono ?_; rintro e w6 ⟨g6, c6, rfl, hg6, hk6, ho6, hb6, hs6⟩)
        | (go_at_call 32; go_split_ands; refine (clone_from (W := W5) g2 hh5 (by repeat (first | assumption | exact Below.refl _ _ | apply Below.drew))).mono ?_; rintro e w7 ⟨g7, c7, rfl, hg7, hk7, ho7, hb7, hs7⟩; obtain ⟨y0, y1, y2, y3⟩ := kV.out _ hb7))
    have z6 : w.heap.size + 2 ≤ g6 := by have := hg6; simp at this; omega
    have z7 : w.heap.size + 2 ≤ g7 := by omega
    have n67 : g6 ≠ g7 := by omega
    have y6 := own_set_far (own_set_far (own_below ho6 hs7) (p := ⟨w.heap.size + 1, 0, none⟩) (show g6 ≠ w.heap.size + 1 by omega) (.slice (some ⟨g6, 0, none⟩) 33 c6)) (p := ⟨w.heap.size + 1, 1, none⟩) (show g6 ≠ w.heap.size + 1 by omega) (.slice (some ⟨g7, 0, none⟩) 33 c7)
    have y7 := own_set_far (own_set_far ho7 (p := ⟨w.heap.size + 1, 0, none⟩) (show g7 ≠ w.heap.size + 1 by omega) (.slice (some ⟨g6, 0, none⟩) 33 c6)) (p := ⟨w.heap.size + 1, 1, none⟩) (show g7 ≠ w.heap.size + 1 by omega) (.slice (some ⟨g7, 0, none⟩) 33 c7)
    have hend : Below w.heap.size w ((w7.setCell ⟨w.heap.size + 1, 0, none⟩ (.slice (some ⟨g6, 0, none⟩) 33 c6)).setCell ⟨w.heap.size + 1, 1, none⟩ (.slice (some ⟨g7, 0, none⟩) 33 c7)) := ((HB5.trans (hb7.mono HB5.size)).setCell (Nat.le_succ _) _).setCell (Nat.le_succ _) _
    have hz7 := hs7.size
    have hz5' : w.heap.size + 2 ≤ W5.heap.size := by omega
    have HY := Lib.hid (And.intro (own_base y6 (show w.heap.size ≤ W5.drew.heap.size by simp; omega)) (own_base y7 (show w.heap.size ≤ w6.heap.size by omega)))
    clear ho6 ho7 y6 y7
    go_wp2
    refine bodyPost_ret (v := .tuple #[.agg #[.slice (some ⟨g6, 0, none⟩) 33 c6, .slice (some ⟨g7, 0, none⟩) 33 c7], .int .i64 0]) (by simp [results, Try.results12, go_sem, y0, y1]) rfl ⟨_, rfl, ?_, hend⟩
    rw [HD.out]
    exact ⟨g6, 33, c6, g7, 33, c7, rfl, n67, by omega, by omega, by simp; omega, by simp; omega, HY.out.1, HY.out.2⟩
  · have HD := Lib.hid (show putD d k n b = ⟨d.now.set k ⟨s.n, s.b⟩, d.sure⟩ by rw [putD_set HS.out, if_neg hlt])
    obtain ⟨W5, e5, hb5, p0, p1, hz5⟩ := one_box w3 35 (.int .i64 s.n) (.string s.b)
    have hb35 := hb5
    have u0 := (hb5.cell (p := ⟨w.heap.size, 0, none⟩) (show w.heap.size < _ by omega)).trans q4
    have u1 := (hb5.cell (p := ⟨w.heap.size, 1, none⟩) (show w.heap.size < _ by omega)).trans q5
    have v0 := (hb5.cell (p := ⟨w.heap.size + 1, 0, none⟩) (show w.heap.size + 1 < _ by omega)).trans q0
    have v1 := (hb5.cell (p := ⟨w.heap.size + 1, 1, none⟩) (show w.heap.size + 1 < _ by omega)).trans q1
    have v2 := (hb5.frozen (p := ⟨w.heap.size + 1, 0, none⟩) (show w.heap.size + 1 < _ by omega)).trans q2
    have v3 := (hb5.frozen (p := ⟨w.heap.size + 1, 1, none⟩) (show w.heap.size + 1 < _ by omega)).trans q3
    have HB5 := hB3.trans (hb5.mono hB3.size)
    have g1 := H1.out.far (hb5.mono (show hi ≤ w3.heap.size by omega))
    have g2 := H2.out.far (hb5.mono (show hi ≤ w3.heap.size by omega))
    have hBP : w.heap.size < w3.heap.size := by omega
    have hh5 : hi ≤ W5.heap.size := by omega
    clear q0 q1 q2 q3
    go_wp2
    clear e5
    clear hlt
    have nBR : w.heap.size + 1 ≠ w.heap.size := by omega
    have nPR : w.heap.size + 1 ≠ w3.heap.size := by omega
    have hR5 : w.heap.size + 1 < W5.heap.size := by omega
    have kV := Lib.hid (fun (w' : World) (h : Below W5.heap.size W5 w') => And.intro ((h.cell (p := ⟨w.heap.size + 1, 0, none⟩) hR5).trans v0) (And.intro ((h.cell (p := ⟨w.heap.size + 1, 1, none⟩) hR5).trans v1) (And.intro ((h.frozen (p := ⟨w.heap.size + 1, 0, none⟩) hR5).trans v2) ((h.frozen (p := ⟨w.heap.size + 1, 1, none⟩) hR5).trans v3))))
    clear v0 v1 v2 v3
    go_region_held3 (fun w' => w'.cell? ⟨w.heap.size, 0, none⟩ = some (.slice (some ⟨g, o, none⟩) 33 c) ∧ w'.cell? ⟨w.heap.size, 1, none⟩ = some (.slice a' 33 c') ∧ w'.cell? ⟨w3.heap.size, 0, none⟩ = some (.int .i64 s.n) ∧ w'.cell? ⟨w3.heap.size, 1, none⟩ = some (.string s.b) ∧ w3.heap.size + 1 ≤ w'.heap.size)
      (first
        | exact kP hBP ⟨u0, u1, p0, p1, hz5⟩ ((Below.refl _ _).drew)
        | exact kP hBP (by assumption) ((Below.refl _ _).drew)
        | exact kP hBP ⟨u0, u1, p0, p1, hz5⟩ hb6
        | exact kP hBP ⟨u0, u1, p0, p1, hz5⟩ hb7
        | exact kSt nBR nPR (by assumption) _ _)
      (first
        | (go_at_call 31; go_split_ands; refine (with_from (W := W5) k ⟨s.n, s.b⟩ g1 hh5 hkk hc1 hm1 (by repeat (first | assumption | exact Below.refl _ _ | apply Below.drew))).mono ?_; rintro e w6 ⟨g6, c6, rfl, hg6, hk6, ho6, hb6, hs6⟩)
        | (go_at_call 32; go_split_ands; refine (clone_from (W := W5) g2 hh5 (by repeat (first | assumption | exact Below.refl _ _ | apply Below.drew))).mono ?_; rintro e w7 ⟨g7, c7, rfl, hg7, hk7, ho7, hb7, hs7⟩; obtain ⟨y0, y1, y2, y3⟩ := kV.out _ hb7))
    have z6 : w.heap.size + 2 ≤ g6 := by have := hg6; simp at this; omega
    have z7 : w.heap.size + 2 ≤ g7 := by omega
    have n67 : g6 ≠ g7 := by omega
    have y6 := own_set_far (own_set_far (own_below ho6 hs7) (p := ⟨w.heap.size + 1, 0, none⟩) (show g6 ≠ w.heap.size + 1 by omega) (.slice (some ⟨g6, 0, none⟩) 33 c6)) (p := ⟨w.heap.size + 1, 1, none⟩) (show g6 ≠ w.heap.size + 1 by omega) (.slice (some ⟨g7, 0, none⟩) 33 c7)
    have y7 := own_set_far (own_set_far ho7 (p := ⟨w.heap.size + 1, 0, none⟩) (show g7 ≠ w.heap.size + 1 by omega) (.slice (some ⟨g6, 0, none⟩) 33 c6)) (p := ⟨w.heap.size + 1, 1, none⟩) (show g7 ≠ w.heap.size + 1 by omega) (.slice (some ⟨g7, 0, none⟩) 33 c7)
    have hend : Below w.heap.size w ((w7.setCell ⟨w.heap.size + 1, 0, none⟩ (.slice (some ⟨g6, 0, none⟩) 33 c6)).setCell ⟨w.heap.size + 1, 1, none⟩ (.slice (some ⟨g7, 0, none⟩) 33 c7)) := ((HB5.trans (hb7.mono HB5.size)).setCell (Nat.le_succ _) _).setCell (Nat.le_succ _) _
    have hz7 := hs7.size
    have hz5' : w.heap.size + 2 ≤ W5.heap.size := by omega
    have HY := Lib.hid (And.intro (own_base y6 (show w.heap.size ≤ W5.drew.heap.size by simp; omega)) (own_base y7 (show w.heap.size ≤ w6.heap.size by omega)))
    clear ho6 ho7 y6 y7
    go_wp2
    refine bodyPost_ret (v := .tuple #[.agg #[.slice (some ⟨g6, 0, none⟩) 33 c6, .slice (some ⟨g7, 0, none⟩) 33 c7], .int .i64 0]) (by simp [results, Try.results12, go_sem, y0, y1]) rfl ⟨_, rfl, ?_, hend⟩
    rw [HD.out]
    exact ⟨g6, 33, c6, g7, 33, c7, rfl, n67, by omega, by omega, by simp; omega, by simp; omega, HY.out.1, HY.out.2⟩
theorem dput_spec : PutSpec 12 := by
  intro hi v d s n b w hd hh _ _ _ _
  rcases hk : putOk d s n b with _ | _
  · refine (dput_no 0 hi v d s n b w hd hh hk).mono ?_
    rintro e w' ⟨rfl, hb⟩
    unfold putF
    rw [hk]
    exact ⟨_, rfl, nil_dk _ _ _, hb, fun Q _ _ => avo_nil Q⟩
  · have ha := of_decide_eq_true (Bool.and_eq_true_iff.1 hk).2
    obtain ⟨k, rfl⟩ := Int.eq_ofNat_of_zero_le ha.1
    refine (dput_yes 0 hi v d k n b w hd hh hk).mono ?_
    rintro e w' ⟨v', rfl, ho, hb⟩
    unfold putF
    rw [hk, Int.toNat_natCast]
    exact ⟨_, rfl, own2_0 ho, hb, fun Q hQ _ => ho.avo hQ⟩

end Go.Proofs.Ytjahhheipeggeaa
