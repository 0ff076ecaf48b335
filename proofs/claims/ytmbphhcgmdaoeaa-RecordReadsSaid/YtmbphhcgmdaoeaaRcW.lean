/- What is proved: the law file's wakes of layer 5, over any functions that answer as the specs say. -/
import Derived.Test.YtmbphhcgmdaoeaaRcS
namespace Go.Proofs.Ytmbphhcgmdaoeaa
open Go.RowKit

theorem below_on {w w1 w2 : World} (h : Below w.heap.size w w1) (h' : Below w1.heap.size w1 w2) : Below w.heap.size w w2 := h.trans (h'.mono h.size)
theorem Sl.row (w : World) (size n : Nat) (e : TypeId) (cs : Array Value) (hn : cs.size = n * size) (hm : n ≤ maxLen) (hi : Nat) (hhi : w.heap.size + 1 ≤ hi) : Sl size (w.alloc (.cells cs e)) w.heap.size hi (.slice (some ⟨w.heap.size, 0, none⟩) n n) n cs.toList :=
  ⟨_, _, rfl, Nat.le_refl _, hm, (Rg.new w e cs hn).wide (Nat.le_refl _) hhi⟩
theorem Sl.made (w : World) (size n : Nat) (e : TypeId) (cs : Array Value) (hn : cs.size = n * size) (hm : n ≤ maxLen) : Sl size (w.alloc (.cells cs e)) 0 (w.alloc (.cells cs e)).heap.size (.slice (some ⟨w.heap.size, 0, none⟩) n n) n cs.toList :=
  (Sl.row w size n e cs hn hm _ (by simp)).wide (Nat.zero_le _) (Nat.le_refl _)
/-- A block whose cells are cs, free to be written. -/
def Blk (w : World) (g : Nat) (cs : Array Value) : Prop := ∃ e, w.heap[g]? = some (.cells cs e (0, 0))
theorem Blk.new (w : World) (e : TypeId) (cs : Array Value) : ∃ W1, w.alloc (.cells cs e) = W1 ∧ Below w.heap.size w W1 ∧ Blk W1 w.heap.size cs ∧ W1.heap.size = w.heap.size + 1 :=
  ⟨_, rfl, (Below.refl _ _).alloc (Nat.le_refl _) _, ⟨e, heap_alloc_new w _⟩, by simp⟩
theorem Blk.far {w w' : World} {g : Nat} {cs : Array Value} (h : Blk w g cs) {B : Nat} (hb : Below B w w') (hg : g < B) : Blk w' g cs := h.imp fun _ h => (hb.block g hg).trans h
theorem Blk.cell {w : World} {g : Nat} {cs : Array Value} (h : Blk w g cs) (k : Nat) : w.cell? ⟨g, k, none⟩ = cs[k]? := by
  obtain ⟨e, h⟩ := h
  simp [World.cell?, h]
theorem Blk.free {w : World} {g : Nat} {cs : Array Value} (h : Blk w g cs) (k : Nat) : w.frozen? ⟨g, k, none⟩ = false := by
  obtain ⟨e, h⟩ := h
  simp [World.frozen?, h]
theorem Blk.lt {w : World} {g : Nat} {cs : Array Value} (h : Blk w g cs) : g < w.heap.size := by
  obtain ⟨e, h⟩ := h
  rcases Nat.lt_or_ge g w.heap.size with q | q
  · exact q
  · rw [Array.getElem?_eq_none q] at h; cases h
theorem Blk.set {w : World} {g : Nat} {cs : Array Value} (h : Blk w g cs) (k : Nat) (v : Value) : Blk (w.setCell ⟨g, k, none⟩ v) g (cs.setIfInBounds k v) := by
  have hlt := h.lt
  obtain ⟨e, h⟩ := h
  refine ⟨e, ?_⟩
  have h' : w.heap[g] = .cells cs e (0, 0) := by simpa [Array.getElem?_eq_getElem hlt] using h
  show (w.heap.modify g _)[g]? = _
  rw [Array.getElem?_eq_getElem (by simpa using hlt), Array.getElem_modify_self, h']
  rfl
theorem Blk.other {w : World} {g : Nat} {cs : Array Value} (h : Blk w g cs) {p : Addr} (hp : g ≠ p.block) (v : Value) : Blk (w.setCell p v) g cs := by
  obtain ⟨e, h⟩ := h
  exact ⟨e, by rw [Below.heap_setCell w p v g hp]; exact h⟩
theorem size_set (w : World) (p : Addr) (u : Value) : (w.setCell p u).heap.size = w.heap.size := by simp
theorem Rd_of {w : World} {lo hi n : Nat} {a : Option Addr} {xs : List Value} (h : Rg 1 w lo hi a n xs) : Rd w hi a n xs := by
  obtain ⟨h1, h2⟩ := h
  refine ⟨by omega, h2.imp id ?_⟩
  rintro ⟨g, o, rfl, _, hg, hc⟩
  exact ⟨g, o, rfl, hg, hc⟩
theorem Rd.rg {w : World} {hi n : Nat} {a : Option Addr} {xs : List Value} (h : Rd w hi a n xs) : Rg 1 w 0 hi a n xs := by
  obtain ⟨h1, h2⟩ := h
  refine ⟨by omega, h2.imp id ?_⟩
  rintro ⟨g, o, rfl, hg, hc⟩
  exact ⟨g, o, rfl, Nat.zero_le _, hg, hc⟩
/-- string(b) of bytes that read as xs. -/
theorem str_of {w : World} {lo hi : Nat} {v : Value} {xs : List Int} (h : Bt w lo hi v xs) : (convert 34 9 v).run Try.prog w = .ok (.string (strOfNums xs)) w := by
  obtain ⟨a, c, rfl, _, _, hr⟩ := h
  exact run_str (P := Try.prog) Try.underlying34 Try.underlying5 Try.underlying9 (Rd_of hr) c
def wkR : Rc := ⟨2, true, [⟨3, 7⟩]⟩
theorem wk1 : mayB wkR = true := by kernel_rfl
theorem wk2 : recB wkR = [2, 0, 0, 1, 1, 3, 7] := by kernel_rfl
theorem wk3 : mayB ⟨2, false, []⟩ = true := by kernel_rfl
theorem wk4 : recB ⟨2, false, []⟩ = [2, 0, 0, 0, 0] := by kernel_rfl
theorem wk5 : stands noSt = true := by kernel_rfl
set_option maxRecDepth 100000 in
set_option maxHeartbeats 3200000 in
theorem wakes_any (hB : BytesSpec 13) (hR : ReadSpec 27) (hS : StandsSpec 21) (w : World) :
    Calls Try.prog 12 #[] w fun e w' => e = .returned (.bool true) ∧ Below w.heap.size w w' := by
  have n1 := fun (w1 : World) h => hB (.agg #[.int .i64 2, .bool true, .slice (some ⟨w.heap.size, 0, none⟩) 1 1]) wkR w1 h (may_in wk1)
  rw [show outE wkR = 0 by unfold outE; rw [wk1]; rfl, show outB wkR = [2, 0, 0, 1, 1, 3, 7] by unfold outB; rw [wk1, ← wk2]; rfl] at n1
  go_enter Try.func12, Try.ntmps12
  go_wp2_with fail
  refine (n1 _ ⟨_, rfl, Sl.made w 2 1 _ _ rfl (by decide)⟩).mono ?_
  rintro e w1 ⟨b, rfl, q1, b1⟩
  have b1' : Below w.heap.size w w1 := ((Below.refl _ w).alloc (Nat.le_refl _) _).trans (b1.mono (by simp))
  clear n1
  have n2 := fun (w2 : World) h => hR (.slice (some ⟨w1.heap.size, 0, none⟩) 5 5) [2, 0, 0, 0, 0] w2 h (wk4 ▸ isBytes_recB _) (by decide)
  obtain ⟨i1, i2⟩ := in_of wk3
  rw [wk4] at i1 i2
  rw [i1, i2] at n2
  go_wp2_with fail
  refine (n2 _ (Sl.made w1 1 5 _ _ rfl (by decide))).mono ?_
  rintro e w2 ⟨r, rfl, ⟨rs, rfl, ra, rc, rfl, _⟩, b2⟩
  have b2' : Below w1.heap.size w1 w2 := ((Below.refl _ w1).alloc (Nat.le_refl _) _).trans (b2.mono (by simp))
  have hz : w1.heap.size + 1 ≤ w2.heap.size := Nat.le_trans (by simp) b2.size
  clear n2 i1 i2 b2
  obtain ⟨W3, e3, hb3, x3, s3⟩ := Blk.new w2 24 #[.int .i64 2, .bool false, .slice ra 0 rc]
  have c1 := str_of (q1.far (b2'.trans (hb3.mono b2'.size)))
  have k0 : W3.cell? ⟨w2.heap.size, 0, none⟩ = some (.int .i64 2) := x3.cell 0
  have k1 : W3.cell? ⟨w2.heap.size, 1, none⟩ = some (.bool false) := x3.cell 1
  have n3 := hS (.agg #[.int .i64 0, .slice none 0 0, .slice none 0 0, .slice none 0 0, .slice none 0 0, .int .i64 0, .int .i64 0, .int .i64 0]) noSt W3 ⟨_, _, _, _, rfl, Sl.nil _ _ _ _, Sl.nil _ _ _ _, Sl.nil _ _ _ _, Sl.nil _ _ _ _⟩ (st_in wk5)
  rw [wk5] at n3
  have hs : strOfNums [2, 0, 0, 1, 1, 3, 7] = ⟨#[2, 0, 0, 1, 1, 3, 7]⟩ := rfl
  rw [hs] at c1
  have hq : ((⟨#[2, 0, 0, 1, 1, 3, 7]⟩ : ByteArray).toList == (⟨#[2, 0, 0, 1, 1, 3, 7]⟩ : ByteArray).toList) = true := by simp
  go_wp2_with fail
  refine n3.mono ?_
  rintro e w4 ⟨rfl, b4⟩
  go_wp2
  go_ret
  exact ⟨rfl, below_on b1' (below_on b2' (below_on hb3 b4))⟩
end Go.Proofs.Ytmbphhcgmdaoeaa
