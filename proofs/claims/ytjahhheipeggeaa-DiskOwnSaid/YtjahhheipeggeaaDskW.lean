/- What is proved: what the walk of DiskGreatest wants: an array of sectors as a block that is known whole, and the disk behind acts without crashes. -/
import Derived.Test.YtjahhheipeggeaaDskV
namespace Go.Proofs.Ytjahhheipeggeaa
open Go.RowKit

/-- Block g is an array of sectors that may be written. -/
def Arr (w : World) (g : Nat) (e : TypeId) (l : List Sec) : Prop := w.heap[g]? = some (.cells (secs l).toArray e (0, 0))
theorem Arr.lt {w : World} {g : Nat} {e : TypeId} {l : List Sec} (h : Arr w g e l) : g < w.heap.size := (Array.getElem?_eq_some_iff.1 h).1
theorem Arr.far {w w' : World} {g : Nat} {e : TypeId} {l : List Sec} (h : Arr w g e l) (hb : Below w.heap.size w w') : Arr w' g e l := (hb.block g h.lt).trans h
theorem Arr.cell {w : World} {g : Nat} {e : TypeId} {l : List Sec} (h : Arr w g e l) {k : Nat} {s : Sec} (hk : l[k]? = some s) : w.cell? ⟨g, k * 2, none⟩ = some (.int .i64 s.n) ∧ w.cell? ⟨g, k * 2 + 1, none⟩ = some (.string s.b) := by
  obtain ⟨hl, rfl⟩ := List.getElem?_eq_some_iff.1 hk
  rw [cell_of_row w g _ _ e (0, 0) h, cell_of_row w g _ _ e (0, 0) h]
  simp only [List.getElem?_toArray]
  exact ⟨secs_n l k hl, secs_b l k hl⟩
theorem Arr.frozen {w : World} {g : Nat} {e : TypeId} {l : List Sec} (h : Arr w g e l) (n : Nat) : w.frozen? ⟨g, n, none⟩ = false := blk_frozen h n
theorem Arr.other {w : World} {g : Nat} {e : TypeId} {l : List Sec} (h : Arr w g e l) {p : Addr} (hp : g ≠ p.block) (u : Value) : Arr (w.setCell p u) g e l := (Below.heap_setCell w p u g hp).trans h
theorem heap_set_same {w : World} {g i : Nat} {cs : Array Value} {e : TypeId} (h : w.heap[g]? = some (.cells cs e (0, 0))) (u : Value) : (w.setCell ⟨g, i, none⟩ u).heap[g]? = some (.cells (cs.setIfInBounds i u) e (0, 0)) := by
  simp [World.setCell, Array.getElem?_modify, h]
theorem Arr.put {w : World} {g : Nat} {e : TypeId} {l : List Sec} (h : Arr w g e l) {k : Nat} (hk : k < l.length) (s : Sec) : Arr ((w.setCell ⟨g, k * 2, none⟩ (.int .i64 s.n)).setCell ⟨g, k * 2 + 1, none⟩ (.string s.b)) g e (l.set k s) := by
  have h1 := heap_set_same (i := k * 2 + 1) (heap_set_same (i := k * 2) h (.int .i64 s.n)) (.string s.b)
  unfold Arr
  rw [h1, ← secs_set l k s hk]
  simp
/-- What greatest numbers want behind an act. -/
def gre (d : Dsk) (x : DAct) : Dsk := if x.k = 2 then d else doD d x
theorem gre_ok {d : Dsk} (x : DAct) (h : chkB d = true) : chkB (gre d x) = true := by
  unfold gre
  split
  · exact h
  · exact do_ok x h
def runG (l : List DAct) (k : Nat) : Dsk := (l.take k).foldl gre newD
theorem runG_succ {l : List DAct} {k : Nat} {x : DAct} (h : l[k]? = some x) : runG l (k + 1) = gre (runG l k) x := by
  obtain ⟨hk, rfl⟩ := List.getElem?_eq_some_iff.1 h
  unfold runG
  rw [List.take_succ_eq_append_getElem hk, List.foldl_append]
  rfl
theorem foldG_ok (l : List DAct) {d : Dsk} (h : chkB d = true) : chkB (l.foldl gre d) = true := by
  induction l generalizing d with
  | nil => exact h
  | cons x l ih => exact ih (gre_ok x h)
theorem runG_ok (l : List DAct) (k : Nat) : chkB (runG l k) = true := foldG_ok _ new_ok
def GrR (W : World) (P Q : Nat) (e : TypeId) (d : Dsk) (w : World) : Prop := RunR W P d w ∧ Arr w Q e d.now
theorem info_arr : (Try.prog.info? 54).map (fun i => i.zero) = some (some (.agg (secs newD.now).toArray)) := by kernel_rfl
theorem run_zero_arr (w : World) : (zeroValue 54).run Try.prog w = .ok (.agg (secs newD.now).toArray) w := by
  obtain ⟨i, hi, hz⟩ := Option.map_eq_some_iff.1 info_arr
  simp [zeroValue, typeInfo, hi, hz, go_sem]
/-- Of an act that is no crash, and puts nothing, what stands stays. -/
theorem do_now_no {d : Dsk} {x : DAct} (h2 : x.k ≠ 2) (h : putOk d x.s x.n x.b = false ∨ x.k ≠ 0) : (doD d x).now = d.now := by
  unfold doD
  by_cases h0 : x.k = 0
  · rw [if_pos h0]
    rcases h with h | h
    · rw [h]
      rfl
    · exact absurd h0 h
  · rw [if_neg h0]
    by_cases h1 : x.k = 1
    · rw [if_pos h1]
      split <;> rfl
    · rw [if_neg h1, if_neg h2]
end Go.Proofs.Ytjahhheipeggeaa
