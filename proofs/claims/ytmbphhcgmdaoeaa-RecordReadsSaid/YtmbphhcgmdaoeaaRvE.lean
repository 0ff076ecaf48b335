/- What is proved: record's Written, May, itemsStand, linesStand, cutStands answer as the document says. -/
import Derived.Test.YtmbphhcgmdaoeaaRvB
import Derived.Test.YtmbphhcgmdaoeaaRvC
import Derived.Test.YtmbphhcgmdaoeaaRvD
namespace Go.Proofs.Ytmbphhcgmdaoeaa
open Go.RowKit

theorem rowAll_iff (p : Nat → Bool) (n : Nat) : rowAll p n = true ↔ ∀ i, i < n → p i = true := ⟨fun h _ hi => rowAll_get h hi, rowAll_mk⟩
theorem wrB_eq (l : List Wr) : wrB l = (decide (l.length ≤ 4) && rowAll (fun i => fitW (l.getD i wrD)) l.length && rowAll (upWAt upW l) l.length) := by
  rw [Bool.eq_iff_iff]
  unfold wrB
  simp only [Bool.and_eq_true, rowAll_iff, decide_eq_true_eq, wrAt, fitW, wthB, upWAt, upW, Bool.or_eq_true]
  constructor
  · rintro ⟨h1, h2⟩
    refine ⟨⟨h1, fun i hi => ?_⟩, fun i hi => ?_⟩
    · have := h2 i hi; omega
    · have := h2 i hi; omega
  · rintro ⟨⟨h1, h2⟩, h3⟩
    refine ⟨h1, fun i hi => ?_⟩
    have := h2 i hi
    have := h3 i hi
    omega
theorem itsB_eq (l : List It) (pl : Int) : itsB l pl = (rowAll (fun i => fitI pl (l.getD i itD)) l.length && rowAll (upIAt upI l) l.length) := by
  rw [Bool.eq_iff_iff]
  unfold itsB
  simp only [Bool.and_eq_true, rowAll_iff, decide_eq_true_eq, itAt, fitI, wthB, upIAt, upI, Bool.or_eq_true]
  constructor
  · intro h2
    refine ⟨fun i hi => ?_, fun i hi => ?_⟩
    · have := h2 i hi; omega
    · have := h2 i hi; omega
  · rintro ⟨h2, h3⟩ i hi
    have := h2 i hi
    have := h3 i hi
    omega
def cutB (l : List Ln) (pl cut : Int) : Bool := wthB cut 0 pl && (decide (l.length = 0) || decide (cut < (l.getD 0 lnD).place))
def lnsF (l : List Ln) (pl : Int) : Bool := decide (l.length ≤ 16) && rowAll (fun i => fitL pl (l.getD i lnD)) l.length && rowAll (upLAt upL l) l.length
theorem lnsB_eq (l : List Ln) (pl cut : Int) : lnsB l pl cut = (lnsF l pl && cutB l pl cut) := by
  rw [Bool.eq_iff_iff]
  unfold lnsB lnsF cutB
  simp only [Bool.and_eq_true, rowAll_iff, decide_eq_true_eq, lnAt, fitL, wthB, upLAt, upL, Bool.or_eq_true]
  constructor
  · rintro ⟨⟨h1, h0, h0'⟩, h2⟩
    refine ⟨⟨⟨h1, fun i hi => ?_⟩, fun i hi => ?_⟩, ⟨h0, h0'⟩, ?_⟩
    · have := h2 i hi; omega
    · have := h2 i hi; omega
    · by_cases hz : l.length = 0
      · exact .inl hz
      · have := h2 0 (by omega); omega
  · rintro ⟨⟨⟨h1, h2⟩, h3⟩, h4, h5⟩
    refine ⟨⟨h1, h4.1, h4.2⟩, fun i hi => ?_⟩
    have a1 := h2 i hi
    have a2 := h3 i hi
    refine ⟨⟨by omega, ?_⟩, by omega⟩
    rintro rfl
    omega
set_option maxRecDepth 100000 in
set_option maxHeartbeats 1600000 in
theorem dev_written : WrittenSpec 19 := by
  intro v l w h hI hl
  obtain ⟨a, c, rfl, hnc, hcm, hr⟩ := h
  rw [wrB_eq]
  have n1 := eachW_walk 37 #[] fitW 0 w.heap.size a c l w hr (Nat.le_refl _) hl (enters_of Try.func37 (by kernel_rfl) rfl) (fun k W _ _ => fitW_walk _ W)
  have n2 := fun (w2 : World) (h2 : Below w.heap.size w w2) => followW_walk 0 w.heap.size a c l w2 (hr.far h2) h2.size hl (fun k W _ _ _ => upW_walk _ _ W)
  by_cases h4 : l.length ≤ 4
  · have h4' : (l.length : Int) ≤ 4 := by omega
    rw [decide_eq_true h4, Bool.true_and]
    generalize rowAll (fun i => fitW (l.getD i wrD)) l.length = p at *
    generalize rowAll (upWAt upW l) l.length = q at *
    rcases p with _ | _
    · go_enter Try.func19, Try.ntmps19
      go_wp2_with fail
      refine n1.mono ?_
      rintro e w1 ⟨rfl, b1⟩
      go_wp2
      go_ret
      exact ⟨rfl, b1⟩
    · go_enter Try.func19, Try.ntmps19
      go_wp2_with fail
      refine n1.mono ?_
      rintro e w1 ⟨rfl, b1⟩
      go_wp2_with fail
      refine (n2 w1 b1).mono ?_
      rintro e w2 ⟨rfl, b2⟩
      go_wp2
      go_ret
      exact ⟨rfl, below_on b1 b2⟩
  · have h4' : ¬ (l.length : Int) ≤ 4 := by omega
    rw [decide_eq_false h4, Bool.false_and, Bool.false_and]
    go_enter Try.func19, Try.ntmps19
    go_wp2
    go_ret
    exact ⟨rfl, Below.refl _ _⟩
set_option maxRecDepth 100000 in
set_option maxHeartbeats 1600000 in
theorem dev_may : MaySpec 17 := by
  intro v r w h hI
  obtain ⟨_, rfl, a, c, rfl, hnc, hcm, hr⟩ := id h
  obtain ⟨W1, E1, B1, X1, S1⟩ := Blk.new w 24 #[.int .i64 r.place, .bool r.yes, .slice a r.ws.length c]
  have k0 : W1.cell? ⟨w.heap.size, 0, none⟩ = some (.int .i64 r.place) := X1.cell 0
  have k1 : W1.cell? ⟨w.heap.size, 1, none⟩ = some (.bool r.yes) := X1.cell 1
  have k2 : W1.cell? ⟨w.heap.size, 2, none⟩ = some (.slice a r.ws.length c) := X1.cell 2
  have n0 := within_walk r.place 1 1048575 W1
  have n1 := dev_written (.slice a r.ws.length c) r.ws W1 ⟨_, _, rfl, hnc, hcm, (hr.far B1).wide (Nat.le_refl _) B1.size⟩ hI.2.1 hI.2.2
  have hm : mayB r = (wthB r.place 1 1048575 && wrB r.ws && (r.yes || decide (r.ws.length = 0))) := rfl
  rw [hm]
  obtain ⟨pl, y, l⟩ := r
  simp only at *
  generalize wthB pl 1 1048575 = p at *
  generalize wrB l = q at *
  rcases p with _ | _
  · go_enter Try.func17, Try.ntmps17
    go_wp2_with fail
    refine n0.mono ?_
    rintro e w' ⟨rfl, rfl⟩
    go_wp2
    go_ret
    exact ⟨rfl, B1⟩
  rcases q with _ | _
  · go_enter Try.func17, Try.ntmps17
    go_wp2_with fail
    refine n0.mono ?_
    rintro e w' ⟨rfl, rfl⟩
    go_wp2_with fail
    refine n1.mono ?_
    rintro e w2 ⟨rfl, b2⟩
    go_wp2
    go_ret
    exact ⟨rfl, below_on B1 b2⟩
  rcases y with _ | _
  · go_enter Try.func17, Try.ntmps17
    go_wp2_with fail
    refine n0.mono ?_
    rintro e w' ⟨rfl, rfl⟩
    go_wp2_with fail
    refine n1.mono ?_
    rintro e w2 ⟨rfl, b2⟩
    have X2 := X1.far b2 X1.lt
    have j1 : w2.cell? ⟨w.heap.size, 1, none⟩ = some (.bool false) := X2.cell 1
    have j2 : w2.cell? ⟨w.heap.size, 2, none⟩ = some (.slice a l.length c) := X2.cell 2
    go_wp2
    go_ret
    exact ⟨ret_bool (by rw [Bool.eq_iff_iff]; simp), below_on B1 b2⟩
  · go_enter Try.func17, Try.ntmps17
    go_wp2_with fail
    refine n0.mono ?_
    rintro e w' ⟨rfl, rfl⟩
    go_wp2_with fail
    refine n1.mono ?_
    rintro e w2 ⟨rfl, b2⟩
    have X2 := X1.far b2 X1.lt
    have j1 : w2.cell? ⟨w.heap.size, 1, none⟩ = some (.bool true) := X2.cell 1
    go_wp2
    go_ret
    exact ⟨rfl, below_on B1 b2⟩
set_option maxRecDepth 100000 in
set_option maxHeartbeats 1600000 in
theorem items_walk (v : Value) (l : List It) (pl : Int) (w : World) (h : Sl 3 w 0 w.heap.size v l.length (itC l)) (hl : l.length ≤ 1000) :
    Calls Try.prog 41 #[v, .int .i64 pl] w fun e w' => e = .returned (.bool (itsB l pl)) ∧ Below w.heap.size w w' := by
  obtain ⟨a, c, rfl, hnc, hcm, hr⟩ := h
  rw [itsB_eq]
  obtain ⟨W1, E1, B1, X1, S1⟩ := Blk.new w 3 #[.int .i64 pl]
  have k0 : W1.cell? ⟨w.heap.size, 0, none⟩ = some (.int .i64 pl) := X1.cell 0
  have n1 := eachI_walk 62 #[.pointer (some ⟨w.heap.size, 0, none⟩)] (fitI pl) 0 w.heap.size a c l W1 (hr.far B1) B1.size hl (enters_of Try.func62 (by kernel_rfl) rfl)
    (fun k W _ hb => fitI_walk pl _ w.heap.size W ((hb.cell (p := ⟨w.heap.size, 0, none⟩) (by show w.heap.size < _; omega)).trans k0) (Nat.lt_of_lt_of_le (by omega) hb.size))
  have n2 := fun (w2 : World) (h2 : Below w.heap.size w w2) => followI_walk 0 w.heap.size a c l w2 (hr.far h2) h2.size hl (fun k W _ _ _ => upI_walk _ _ W)
  generalize rowAll (fun i => fitI pl (l.getD i itD)) l.length = p at *
  generalize rowAll (upIAt upI l) l.length = q at *
  rcases p with _ | _
  · go_enter Try.func41, Try.ntmps41
    go_wp2_with fail
    refine n1.mono ?_
    rintro e w1 ⟨rfl, b1⟩
    go_wp2
    go_ret
    exact ⟨rfl, below_on B1 b1⟩
  · go_enter Try.func41, Try.ntmps41
    go_wp2_with fail
    refine n1.mono ?_
    rintro e w1 ⟨rfl, b1⟩
    go_wp2_with fail
    refine (n2 w1 (below_on B1 b1)).mono ?_
    rintro e w2 ⟨rfl, b2⟩
    go_wp2
    go_ret
    exact ⟨rfl, below_on (below_on B1 b1) b2⟩
theorem fitL_off {pl : Int} {l : List Ln} (h : rowAll (fun i => fitL pl (l.getD i lnD)) l.length = true) {k : Nat} (hk : k < l.length) : 0 ≤ (l.getD k lnD).off ∧ (l.getD k lnD).off ≤ 4194303 := by
  have := rowAll_get h hk
  simp only [fitL, wthB, Bool.and_eq_true, decide_eq_true_eq] at this
  omega
set_option maxRecDepth 100000 in
set_option maxHeartbeats 1600000 in
theorem lines_walk (v : Value) (l : List Ln) (pl : Int) (w : World) (h : Sl 5 w 0 w.heap.size v l.length (lnC l)) (hl : l.length ≤ 1000) :
    Calls Try.prog 42 #[v, .int .i64 pl] w fun e w' => e = .returned (.bool (lnsF l pl)) ∧ Below w.heap.size w w' := by
  obtain ⟨a, c, rfl, hnc, hcm, hr⟩ := h
  unfold lnsF
  obtain ⟨W1, E1, B1, X1, S1⟩ := Blk.new w 3 #[.int .i64 pl]
  have k0 : W1.cell? ⟨w.heap.size, 0, none⟩ = some (.int .i64 pl) := X1.cell 0
  have n1 := eachL_walk 66 #[.pointer (some ⟨w.heap.size, 0, none⟩)] (fitL pl) 0 w.heap.size a c l W1 (hr.far B1) B1.size hl (enters_of Try.func66 (by kernel_rfl) rfl)
    (fun k W _ hb => fitL_walk pl _ w.heap.size W ((hb.cell (p := ⟨w.heap.size, 0, none⟩) (by show w.heap.size < _; omega)).trans k0) (Nat.lt_of_lt_of_le (by omega) hb.size))
  have n2 := fun (h : rowAll (fun i => fitL pl (l.getD i lnD)) l.length = true) (w2 : World) (h2 : Below w.heap.size w w2) => followL_walk 0 w.heap.size a c l w2 (hr.far h2) h2.size hl (fun k W _ hk _ => upL_walk _ _ W (fitL_off h (show k - 1 < l.length by omega)).1 (fitL_off h (show k - 1 < l.length by omega)).2)
  by_cases h4 : l.length ≤ 16
  · have h4' : (l.length : Int) ≤ 16 := by omega
    rw [decide_eq_true h4, Bool.true_and]
    generalize rowAll (fun i => fitL pl (l.getD i lnD)) l.length = p at *
    generalize rowAll (upLAt upL l) l.length = q at *
    rcases p with _ | _
    · go_enter Try.func42, Try.ntmps42
      go_wp2_with fail
      refine n1.mono ?_
      rintro e w1 ⟨rfl, b1⟩
      go_wp2
      go_ret
      exact ⟨rfl, below_on B1 b1⟩
    · go_enter Try.func42, Try.ntmps42
      go_wp2_with fail
      refine n1.mono ?_
      rintro e w1 ⟨rfl, b1⟩
      go_wp2_with fail
      refine (n2 (by trivial) w1 (below_on B1 b1)).mono ?_
      rintro e w2 ⟨rfl, b2⟩
      go_wp2
      go_ret
      exact ⟨rfl, below_on (below_on B1 b1) b2⟩
  · have h4' : ¬ (l.length : Int) ≤ 16 := by omega
    rw [decide_eq_false h4, Bool.false_and, Bool.false_and]
    go_enter Try.func42, Try.ntmps42
    go_wp2
    go_ret
    exact ⟨rfl, B1⟩
set_option maxRecDepth 100000 in
set_option maxHeartbeats 1600000 in
theorem cut_walk (v : Value) (l : List Ln) (cut pl : Int) (w : World) (h : Sl 5 w 0 w.heap.size v l.length (lnC l)) (hl : l.length ≤ 1000) :
    Calls Try.prog 43 #[.int .i64 cut, v, .int .i64 pl] w fun e w' => e = .returned (.bool (cutB l pl cut)) ∧ Below w.heap.size w w' := by
  obtain ⟨a, c, rfl, hnc, hcm, hr⟩ := h
  unfold cutB
  have n0 := within_walk cut 0 pl w
  generalize wthB cut 0 pl = p at *
  rcases p with _ | _
  · go_enter Try.func43, Try.ntmps43
    go_wp2_with fail
    refine n0.mono ?_
    rintro e w' ⟨rfl, rfl⟩
    go_wp2
    go_ret
    exact ⟨rfl, Below.refl _ _⟩
  by_cases h0 : l.length = 0
  · have h0' : ((l.length : Int) == 0) = true := by simpa using h0
    rw [decide_eq_true h0]
    go_enter Try.func43, Try.ntmps43
    go_wp2_with fail
    refine n0.mono ?_
    rintro e w' ⟨rfl, rfl⟩
    go_wp2
    go_ret
    exact ⟨rfl, Below.refl _ _⟩
  · have h0' : ((l.length : Int) == 0) = false := beq_eq_false_iff_ne.2 (by omega)
    have h1 : (0 : Int) < (l.length : Int) := by omega
    obtain ⟨g, o, rfl, _, hg, _⟩ := hr.addr (by omega)
    obtain ⟨q0, q1, q2, q3, q4⟩ := ln_cells hr (show 0 < l.length by omega)
    simp only [Nat.zero_mul, Nat.add_zero] at q0 q1 q2 q3 q4
    rw [decide_eq_false h0]
    generalize l.getD 0 lnD = x at *
    go_enter Try.func43, Try.ntmps43
    go_wp2_with fail
    refine n0.mono ?_
    rintro e w' ⟨rfl, rfl⟩
    go_wp2
    go_ret
    exact ⟨rfl, by first | exact Below.refl _ _ | exact below_drewN _ _ _⟩
end Go.Proofs.Ytmbphhcgmdaoeaa
