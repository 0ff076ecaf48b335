/- What is proved: record's within and the closures of Written, itemsStand, linesStand answer what they ask. -/
import Derived.Test.YtmbphhcgmdaoeaaRcY
import Derived.Shelf.Abstract
namespace Go.Proofs.Ytmbphhcgmdaoeaa
open Go.RowKit

def wthB (n lo hi : Int) : Bool := decide (lo ≤ n ∧ n ≤ hi)
theorem within_walk (n lo hi : Int) (w : World) : Calls Try.prog 36 #[.int .i64 n, .int .i64 lo, .int .i64 hi] w fun e w' => e = .returned (.bool (wthB n lo hi)) ∧ w = w' := by
  unfold wthB
  by_cases h1 : lo ≤ n
  · by_cases h2 : n ≤ hi
    all_goals
      go_enter Try.func36, Try.ntmps36
      go_wp2
      go_ret
      exact ⟨ret_bool (by simp [h1, h2]), rfl⟩
  · go_enter Try.func36, Try.ntmps36
    go_wp2
    go_ret
    exact ⟨ret_bool (by simp; omega), rfl⟩
theorem wth_yes {n lo hi : Int} (h1 : lo ≤ n) (h2 : n ≤ hi) : wthB n lo hi = true := decide_eq_true ⟨h1, h2⟩
theorem wth_no {n lo hi : Int} (h : ¬ (lo ≤ n ∧ n ≤ hi)) : wthB n lo hi = false := decide_eq_false h
def Wr.val_ (x : Wr) : Value := .agg #[.int .i64 x.key, .int .i64 x.val]
def It.val_ (x : It) : Value := .agg #[.int .i64 x.key, .int .i64 x.place, .int .i64 x.val]
def Ln.val_ (x : Ln) : Value := .agg #[.int .i64 x.off, .int .i64 x.place, .int .i64 x.j, .int .i64 x.key, .int .i64 x.val]
def fitW (x : Wr) : Bool := wthB x.key 0 23 && wthB x.val 0 255
def fitI (pl : Int) (x : It) : Bool := wthB x.key 0 23 && wthB x.place 1 pl && wthB x.val 0 255
def fitL (pl : Int) (x : Ln) : Bool := wthB x.off 0 4194303 && wthB x.place 1 pl && wthB x.j 0 3 && wthB x.key 0 7 && wthB x.val 0 255
def upW (x y : Wr) : Bool := decide (x.key < y.key)
def upI (x y : It) : Bool := decide (x.key < y.key)
def upL (x y : Ln) : Bool := decide (x.off + 1 = y.off) && (decide (x.place < y.place) || (decide (x.place = y.place) && decide (x.j < y.j)))
set_option maxRecDepth 100000 in
set_option maxHeartbeats 1600000 in
theorem fitW_walk (x : Wr) (w : World) : Calls Try.prog 37 #[x.val_] w fun e w' => e = .returned (.bool (fitW x)) ∧ Below w.heap.size w w' := by
  obtain ⟨k, v⟩ := x
  simp only [Wr.val_, fitW]
  obtain ⟨W1, E1, B1, X1, S1⟩ := Blk.new w 56 #[.int .i64 k, .int .i64 v]
  have k0 : W1.cell? ⟨w.heap.size, 0, none⟩ = some (.int .i64 k) := X1.cell 0
  have k1 : W1.cell? ⟨w.heap.size, 1, none⟩ = some (.int .i64 v) := X1.cell 1
  have n1 := within_walk k 0 23 W1
  have n2 := within_walk v 0 255 W1
  generalize wthB k 0 23 = p at *
  generalize wthB v 0 255 = q at *
  rcases p with _ | _
  · go_enter Try.func37, Try.ntmps37
    go_wp2_with fail
    refine n1.mono ?_
    rintro e w' ⟨rfl, rfl⟩
    go_wp2
    go_ret
    exact ⟨rfl, B1⟩
  · go_enter Try.func37, Try.ntmps37
    go_wp2_with fail
    refine n1.mono ?_
    rintro e w' ⟨rfl, rfl⟩
    go_wp2_with fail
    refine n2.mono ?_
    rintro e w' ⟨rfl, rfl⟩
    go_wp2
    go_ret
    exact ⟨rfl, B1⟩
set_option maxRecDepth 100000 in
set_option maxHeartbeats 1600000 in
theorem upW_walk (x y : Wr) (w : World) : Calls Try.prog 38 #[x.val_, y.val_] w fun e w' => e = .returned (.bool (upW x y)) ∧ Below w.heap.size w w' := by
  obtain ⟨k, v⟩ := x
  obtain ⟨k', v'⟩ := y
  simp only [Wr.val_, upW]
  obtain ⟨W1, E1, B1, X1, S1⟩ := Blk.new w 56 #[.int .i64 k, .int .i64 v]
  obtain ⟨W2, E2, B2, X2, S2⟩ := Blk.new W1 56 #[.int .i64 k', .int .i64 v']
  have Y1 := X1.far B2 (by omega)
  rw [S1] at S2 X2
  have k0 : W2.cell? ⟨w.heap.size, 0, none⟩ = some (.int .i64 k) := Y1.cell 0
  have k1 : W2.cell? ⟨w.heap.size + 1, 0, none⟩ = some (.int .i64 k') := X2.cell 0
  go_enter Try.func38, Try.ntmps38
  go_wp2
  go_ret
  exact ⟨rfl, below_on B1 B2⟩
set_option maxRecDepth 100000 in
set_option maxHeartbeats 1600000 in
theorem upI_walk (x y : It) (w : World) : Calls Try.prog 63 #[x.val_, y.val_] w fun e w' => e = .returned (.bool (upI x y)) ∧ Below w.heap.size w w' := by
  obtain ⟨k, p, v⟩ := x
  obtain ⟨k', p', v'⟩ := y
  simp only [It.val_, upI]
  obtain ⟨W1, E1, B1, X1, S1⟩ := Blk.new w 51 #[.int .i64 k, .int .i64 p, .int .i64 v]
  obtain ⟨W2, E2, B2, X2, S2⟩ := Blk.new W1 51 #[.int .i64 k', .int .i64 p', .int .i64 v']
  have Y1 := X1.far B2 (by omega)
  rw [S1] at S2 X2
  have k0 : W2.cell? ⟨w.heap.size, 0, none⟩ = some (.int .i64 k) := Y1.cell 0
  have k1 : W2.cell? ⟨w.heap.size + 1, 0, none⟩ = some (.int .i64 k') := X2.cell 0
  go_enter Try.func63, Try.ntmps63
  go_wp2
  go_ret
  exact ⟨rfl, below_on B1 B2⟩
set_option maxRecDepth 100000 in
set_option maxHeartbeats 1600000 in
theorem fitI_walk (pl : Int) (x : It) (Q : Nat) (w : World) (c0 : w.cell? ⟨Q, 0, none⟩ = some (.int .i64 pl)) (hQ : Q < w.heap.size) : Calls Try.prog 62 #[x.val_, .pointer (some ⟨Q, 0, none⟩)] w fun e w' => e = .returned (.bool (fitI pl x)) ∧ Below w.heap.size w w' := by
  obtain ⟨k, p, v⟩ := x
  simp only [It.val_, fitI]
  obtain ⟨W1, E1, B1, X1, S1⟩ := Blk.new w 51 #[.int .i64 k, .int .i64 p, .int .i64 v]
  have k0 : W1.cell? ⟨w.heap.size, 0, none⟩ = some (.int .i64 k) := X1.cell 0
  have k1 : W1.cell? ⟨w.heap.size, 1, none⟩ = some (.int .i64 p) := X1.cell 1
  have k2 : W1.cell? ⟨w.heap.size, 2, none⟩ = some (.int .i64 v) := X1.cell 2
  have d0 := (B1.cell (p := ⟨Q, 0, none⟩) hQ).trans c0
  have n1 := within_walk k 0 23 W1
  have n2 := within_walk p 1 pl W1
  have n3 := within_walk v 0 255 W1
  generalize wthB k 0 23 = p1 at *
  generalize wthB p 1 pl = p2 at *
  generalize wthB v 0 255 = p3 at *
  rcases p1 with _ | _
  · go_enter Try.func62, Try.ntmps62
    go_wp2_with fail
    refine n1.mono ?_
    rintro e w' ⟨rfl, rfl⟩
    go_wp2
    go_ret
    exact ⟨rfl, B1⟩
  · rcases p2 with _ | _
    · go_enter Try.func62, Try.ntmps62
      go_wp2_with fail
      refine n1.mono ?_
      rintro e w' ⟨rfl, rfl⟩
      go_wp2_with fail
      refine n2.mono ?_
      rintro e w' ⟨rfl, rfl⟩
      go_wp2
      go_ret
      exact ⟨rfl, B1⟩
    · go_enter Try.func62, Try.ntmps62
      go_wp2_with fail
      refine n1.mono ?_
      rintro e w' ⟨rfl, rfl⟩
      go_wp2_with fail
      refine n2.mono ?_
      rintro e w' ⟨rfl, rfl⟩
      go_wp2_with fail
      refine n3.mono ?_
      rintro e w' ⟨rfl, rfl⟩
      go_wp2
      go_ret
      exact ⟨rfl, B1⟩
set_option maxRecDepth 100000 in
set_option maxHeartbeats 1600000 in
theorem upL_walk (x y : Ln) (w : World) (h0 : 0 ≤ x.off) (h1 : x.off ≤ 4194303) : Calls Try.prog 67 #[x.val_, y.val_] w fun e w' => e = .returned (.bool (upL x y)) ∧ Below w.heap.size w w' := by
  obtain ⟨o, p, j, k, v⟩ := x
  obtain ⟨o', p', j', k', v'⟩ := y
  simp only at h0 h1
  simp only [Ln.val_, upL]
  obtain ⟨W1, E1, B1, X1, S1⟩ := Blk.new w 53 #[.int .i64 o, .int .i64 p, .int .i64 j, .int .i64 k, .int .i64 v]
  obtain ⟨W2, E2, B2, X2, S2⟩ := Blk.new W1 53 #[.int .i64 o', .int .i64 p', .int .i64 j', .int .i64 k', .int .i64 v']
  have Y1 := X1.far B2 (by omega)
  rw [S1] at S2 X2
  have k0 : W2.cell? ⟨w.heap.size, 0, none⟩ = some (.int .i64 o) := Y1.cell 0
  have k1 : W2.cell? ⟨w.heap.size, 1, none⟩ = some (.int .i64 p) := Y1.cell 1
  have k2 : W2.cell? ⟨w.heap.size, 2, none⟩ = some (.int .i64 j) := Y1.cell 2
  have q0 : W2.cell? ⟨w.heap.size + 1, 0, none⟩ = some (.int .i64 o') := X2.cell 0
  have q1 : W2.cell? ⟨w.heap.size + 1, 1, none⟩ = some (.int .i64 p') := X2.cell 1
  have q2 : W2.cell? ⟨w.heap.size + 1, 2, none⟩ = some (.int .i64 j') := X2.cell 2
  by_cases c1 : o + 1 = o'
  · subst c1
    by_cases c2 : p < p'
    · go_enter Try.func67, Try.ntmps67
      go_wp2
      go_ret
      exact ⟨ret_bool (by simp [c2]), below_on B1 B2⟩
    · by_cases c3 : p = p'
      · subst c3
        go_enter Try.func67, Try.ntmps67
        go_wp2
        go_ret
        exact ⟨ret_bool (by simp), below_on B1 B2⟩
      · have c3' : (p == p') = false := beq_eq_false_iff_ne.2 c3
        go_enter Try.func67, Try.ntmps67
        go_wp2
        go_ret
        exact ⟨ret_bool (by simp [c2]), below_on B1 B2⟩
  · have c1' : (o + 1 == o') = false := beq_eq_false_iff_ne.2 c1
    go_enter Try.func67, Try.ntmps67
    go_wp2
    go_ret
    exact ⟨ret_bool (by simp [c1]), below_on B1 B2⟩
set_option maxRecDepth 100000 in
set_option maxHeartbeats 1600000 in
theorem fitL_walk (pl : Int) (x : Ln) (Q : Nat) (w : World) (c0 : w.cell? ⟨Q, 0, none⟩ = some (.int .i64 pl)) (hQ : Q < w.heap.size) : Calls Try.prog 66 #[x.val_, .pointer (some ⟨Q, 0, none⟩)] w fun e w' => e = .returned (.bool (fitL pl x)) ∧ Below w.heap.size w w' := by
  obtain ⟨o, p, j, k, v⟩ := x
  simp only [Ln.val_, fitL]
  obtain ⟨W1, E1, B1, X1, S1⟩ := Blk.new w 53 #[.int .i64 o, .int .i64 p, .int .i64 j, .int .i64 k, .int .i64 v]
  have k0 : W1.cell? ⟨w.heap.size, 0, none⟩ = some (.int .i64 o) := X1.cell 0
  have k1 : W1.cell? ⟨w.heap.size, 1, none⟩ = some (.int .i64 p) := X1.cell 1
  have k2 : W1.cell? ⟨w.heap.size, 2, none⟩ = some (.int .i64 j) := X1.cell 2
  have k3 : W1.cell? ⟨w.heap.size, 3, none⟩ = some (.int .i64 k) := X1.cell 3
  have k4 : W1.cell? ⟨w.heap.size, 4, none⟩ = some (.int .i64 v) := X1.cell 4
  have d0 := (B1.cell (p := ⟨Q, 0, none⟩) hQ).trans c0
  have n1 := within_walk o 0 4194303 W1
  have n2 := within_walk p 1 pl W1
  have n3 := within_walk j 0 3 W1
  have n4 := within_walk k 0 7 W1
  have n5 := within_walk v 0 255 W1
  generalize wthB o 0 4194303 = p1 at *
  generalize wthB p 1 pl = p2 at *
  generalize wthB j 0 3 = p3 at *
  generalize wthB k 0 7 = p4 at *
  generalize wthB v 0 255 = p5 at *
  rcases p1 with _ | _
  · go_enter Try.func66, Try.ntmps66
    go_wp2_with fail
    refine n1.mono ?_
    rintro e w' ⟨rfl, rfl⟩
    go_wp2
    go_ret
    exact ⟨rfl, B1⟩
  go_enter Try.func66, Try.ntmps66
  go_wp2_with fail
  refine n1.mono ?_
  rintro e w' ⟨rfl, rfl⟩
  rcases p2 with _ | _
  · go_wp2_with fail
    refine n2.mono ?_
    rintro e w' ⟨rfl, rfl⟩
    go_wp2
    go_ret
    exact ⟨rfl, B1⟩
  go_wp2_with fail
  refine n2.mono ?_
  rintro e w' ⟨rfl, rfl⟩
  rcases p3 with _ | _
  · go_wp2_with fail
    refine n3.mono ?_
    rintro e w' ⟨rfl, rfl⟩
    go_wp2
    go_ret
    exact ⟨rfl, B1⟩
  go_wp2_with fail
  refine n3.mono ?_
  rintro e w' ⟨rfl, rfl⟩
  rcases p4 with _ | _
  · go_wp2_with fail
    refine n4.mono ?_
    rintro e w' ⟨rfl, rfl⟩
    go_wp2
    go_ret
    exact ⟨rfl, B1⟩
  go_wp2_with fail
  refine n4.mono ?_
  rintro e w' ⟨rfl, rfl⟩
  go_wp2_with fail
  refine n5.mono ?_
  rintro e w' ⟨rfl, rfl⟩
  go_wp2
  go_ret
  exact ⟨rfl, B1⟩
end Go.Proofs.Ytmbphhcgmdaoeaa
