/- What is proved: the contract of flumeref03's Crash. -/
import Derived.Test.YtjahhheipeggeaaDskI
namespace Go.Proofs.Ytjahhheipeggeaa
open Go.RowKit

/-! ### a crash, sector by sector -/
def bitI (lost : Int) (k : Nat) : Bool := lost / 2 ^ k % 2 == 1
def crashTo (d : Dsk) (lost : Int) : Nat → Dsk
  | 0 => d
  | k + 1 => if bitI lost k then ⟨(crashTo d lost k).now.set k ((crashTo d lost k).sure[k]?.getD noSec), (crashTo d lost k).sure⟩ else ⟨(crashTo d lost k).now, (crashTo d lost k).sure.set k ((crashTo d lost k).now[k]?.getD noSec)⟩
def keepAt (d : Dsk) (lost : Int) (k : Nat) : Sec := if bitI lost k then d.sure[k]?.getD noSec else d.now[k]?.getD noSec
def crashD (d : Dsk) (lost : Int) : Dsk := ⟨(List.range 33).map (keepAt d lost), (List.range 33).map (keepAt d lost)⟩
theorem crashTo_len (d : Dsk) (lost : Int) (k : Nat) : (crashTo d lost k).now.length = d.now.length ∧ (crashTo d lost k).sure.length = d.sure.length := by
  induction k with
  | zero => exact ⟨rfl, rfl⟩
  | succ k ih =>
    unfold crashTo
    split
    · exact ⟨by rw [List.length_set]; exact ih.1, ih.2⟩
    · exact ⟨ih.1, by rw [List.length_set]; exact ih.2⟩
theorem crashTo_at (d : Dsk) (lost : Int) (k j : Nat) (h : k ≤ 33) (h1 : d.now.length = 33) (h2 : d.sure.length = 33) (hj : j < 33) :
    (crashTo d lost k).now[j]? = some (if j < k then keepAt d lost j else d.now[j]?.getD noSec) ∧ (crashTo d lost k).sure[j]? = some (if j < k then keepAt d lost j else d.sure[j]?.getD noSec) := by
  induction k with
  | zero =>
    simp only [crashTo, Nat.not_lt_zero, if_false]
    rw [List.getElem?_eq_getElem (by omega), List.getElem?_eq_getElem (by omega)]
    exact ⟨rfl, rfl⟩
  | succ k ih =>
    obtain ⟨i1, i2⟩ := ih (by omega)
    obtain ⟨l1, l2⟩ := crashTo_len d lost k
    unfold crashTo
    by_cases hjk : k = j
    · subst hjk
      rw [if_neg (Nat.lt_irrefl _)] at i1 i2
      simp only [Nat.lt_succ_self, if_true]
      unfold keepAt
      split
      · refine ⟨?_, i2⟩
        rw [List.getElem?_set_self (by omega), i2]
        rfl
      · refine ⟨i1, ?_⟩
        rw [List.getElem?_set_self (by omega), i1]
        rfl
    · have e : (j < k + 1) = (j < k) := by simp; omega
      simp only [e]
      split
      · exact ⟨by rw [List.getElem?_set_ne hjk]; exact i1, i2⟩
      · exact ⟨i1, by rw [List.getElem?_set_ne hjk]; exact i2⟩
theorem crashTo_end (d : Dsk) (lost : Int) (h1 : d.now.length = 33) (h2 : d.sure.length = 33) : crashTo d lost 33 = crashD d lost := by
  obtain ⟨l1, l2⟩ := crashTo_len d lost 33
  have hx : ∀ l : List Sec, l.length = 33 → (∀ j, j < 33 → l[j]? = some (keepAt d lost j)) → l = (List.range 33).map (keepAt d lost) := by
    intro l hl hat
    apply List.ext_getElem? 
    intro j
    by_cases hj : j < 33
    · rw [hat j hj]
      simp [hj]
    · rw [List.getElem?_eq_none (by omega), List.getElem?_eq_none (by simp; omega)]
  have a1 := hx (crashTo d lost 33).now (by omega) (fun j hj => by rw [(crashTo_at d lost 33 j (Nat.le_refl _) h1 h2 hj).1, if_pos hj])
  have a2 := hx (crashTo d lost 33).sure (by omega) (fun j hj => by rw [(crashTo_at d lost 33 j (Nat.le_refl _) h1 h2 hj).2, if_pos hj])
  unfold crashD
  rw [← a1]
  have : (crashTo d lost 33).now = (crashTo d lost 33).sure := a1.trans a2.symm
  generalize crashTo d lost 33 = e at *
  obtain ⟨x, y⟩ := e
  simp only at this
  rw [this]
theorem and_one_u64 (n : Int) (h : 0 ≤ n) (h2 : n < 18446744073709551616) : bits .and .u64 n 1 = n % 2 := by
  obtain ⟨k, rfl⟩ := Int.eq_ofNat_of_zero_le h
  show IntKind.u64.wrap ((BitVec.ofInt 64 (k : Int) &&& BitVec.ofInt 64 1).toNat : Int) = _
  have h1 : (BitVec.ofInt 64 (k : Int)).toNat = k := by rw [BitVec.ofInt_natCast, BitVec.toNat_ofNat]; exact Nat.mod_eq_of_lt (by omega)
  have h2 : (BitVec.ofInt 64 1).toNat = 1 := by decide
  rw [BitVec.toNat_and, h1, h2, Nat.and_one_is_mod, IntKind.wrap_u64]
  omega
theorem bit_u64 (n : Int) (k : Nat) (h : 0 ≤ n) (h2 : n < 18446744073709551616) : (bits .and .u64 (n / 2 ^ k) 1 == 1) = bitI n k := by
  have hp : (0 : Int) < 2 ^ k := Int.pow_pos (by decide)
  rw [and_one_u64 _ (Int.ediv_nonneg h (Int.le_of_lt hp)) (Int.lt_of_le_of_lt (Int.ediv_le_self _ h) h2)]
  rfl

/-- What holds at every round's head of Crash's loop: two boxes and two rows of the call's own. -/
def CrR (W : World) (P R g c g' c' : Nat) (e : TypeId) (d : Dsk) (w : World) : Prop :=
  Below W.heap.size W w ∧ w.cell? ⟨P, 0, none⟩ = some (.slice (some ⟨g, 0, none⟩) 33 c) ∧ w.cell? ⟨P, 1, none⟩ = some (.slice (some ⟨g', 0, none⟩) 33 c') ∧
  w.cell? ⟨R, 0, none⟩ = some (.slice none 0 0) ∧ w.cell? ⟨R, 1, none⟩ = some (.slice none 0 0) ∧ w.frozen? ⟨R, 0, none⟩ = false ∧ w.frozen? ⟨R, 1, none⟩ = false ∧
  g < w.heap.size ∧ g' < w.heap.size ∧
  w.ownsRow W.heap.size e 2 (.slice (some ⟨g, 0, none⟩) 33 c) 33 (secs d.now) ∧ w.ownsRow W.heap.size e 2 (.slice (some ⟨g', 0, none⟩) 33 c') 33 (secs d.sure)
theorem CrR.drew {W w : World} {P R g c g' c' : Nat} {e : TypeId} {d : Dsk} (h : CrR W P R g c g' c' e d w) : CrR W P R g c g' c' e d w.drew := by
  obtain ⟨h1, h2⟩ := h
  exact ⟨h1.drew, h2⟩
theorem CrR.now {W w : World} {P R g c g' c' : Nat} {e : TypeId} {d : Dsk} (h : CrR W P R g c g' c' e d w) (hW : W.heap.size ≤ g) (n1 : g ≠ P) (n2 : g ≠ R) (n3 : g ≠ g') {k : Nat} (hk : k < d.now.length) (s : Sec) :
    CrR W P R g c g' c' e ⟨d.now.set k s, d.sure⟩ ((w.setCell ⟨g, k * 2, none⟩ (.int .i64 s.n)).setCell ⟨g, k * 2 + 1, none⟩ (.string s.b)) := by
  obtain ⟨h1, h2, h3, h4, h5, h6, h7, h8, h9, h10, h11⟩ := h
  have hb : ∀ p : Addr, p.block ≠ g → ((w.setCell ⟨g, k * 2, none⟩ (.int .i64 s.n)).setCell ⟨g, k * 2 + 1, none⟩ (.string s.b)).heap[p.block]? = w.heap[p.block]? := fun p hp =>
    (Below.heap_setCell _ _ _ _ (fun e => hp e)).trans (Below.heap_setCell _ _ _ _ (fun e => hp e))
  refine ⟨(h1.setCell hW _).setCell hW _, (World.cell?_of_block (hb ⟨P, 0, none⟩ (Ne.symm n1))).trans h2, (World.cell?_of_block (hb ⟨P, 1, none⟩ (Ne.symm n1))).trans h3, (World.cell?_of_block (hb ⟨R, 0, none⟩ (Ne.symm n2))).trans h4, (World.cell?_of_block (hb ⟨R, 1, none⟩ (Ne.symm n2))).trans h5,
    (World.frozen?_of_block (hb ⟨R, 0, none⟩ (Ne.symm n2))).trans h6, (World.frozen?_of_block (hb ⟨R, 1, none⟩ (Ne.symm n2))).trans h7, by simpa using h8, by simpa using h9, ?_, own_set_far (own_set_far h11 (p := ⟨g, k * 2, none⟩) (Ne.symm n3) _) (p := ⟨g, k * 2 + 1, none⟩) (Ne.symm n3) _⟩
  show World.ownsRow _ _ _ _ _ _ (secs (d.now.set k s))
  rw [← secs_set _ _ _ hk]
  exact ((h10.stored (k * 2) _).1.stored (k * 2 + 1) _).1
theorem CrR.sure {W w : World} {P R g c g' c' : Nat} {e : TypeId} {d : Dsk} (h : CrR W P R g c g' c' e d w) (hW : W.heap.size ≤ g') (n1 : g' ≠ P) (n2 : g' ≠ R) (n3 : g ≠ g') {k : Nat} (hk : k < d.sure.length) (s : Sec) :
    CrR W P R g c g' c' e ⟨d.now, d.sure.set k s⟩ ((w.setCell ⟨g', k * 2, none⟩ (.int .i64 s.n)).setCell ⟨g', k * 2 + 1, none⟩ (.string s.b)) := by
  obtain ⟨h1, h2, h3, h4, h5, h6, h7, h8, h9, h10, h11⟩ := h
  have hb : ∀ p : Addr, p.block ≠ g' → ((w.setCell ⟨g', k * 2, none⟩ (.int .i64 s.n)).setCell ⟨g', k * 2 + 1, none⟩ (.string s.b)).heap[p.block]? = w.heap[p.block]? := fun p hp =>
    (Below.heap_setCell _ _ _ _ (fun e => hp e)).trans (Below.heap_setCell _ _ _ _ (fun e => hp e))
  refine ⟨(h1.setCell hW _).setCell hW _, (World.cell?_of_block (hb ⟨P, 0, none⟩ (Ne.symm n1))).trans h2, (World.cell?_of_block (hb ⟨P, 1, none⟩ (Ne.symm n1))).trans h3, (World.cell?_of_block (hb ⟨R, 0, none⟩ (Ne.symm n2))).trans h4, (World.cell?_of_block (hb ⟨R, 1, none⟩ (Ne.symm n2))).trans h5,
    (World.frozen?_of_block (hb ⟨R, 0, none⟩ (Ne.symm n2))).trans h6, (World.frozen?_of_block (hb ⟨R, 1, none⟩ (Ne.symm n2))).trans h7, by simpa using h8, by simpa using h9, own_set_far (own_set_far h10 (p := ⟨g', k * 2, none⟩) n3 _) (p := ⟨g', k * 2 + 1, none⟩) n3 _, ?_⟩
  show World.ownsRow _ _ _ _ _ _ (secs (d.sure.set k s))
  rw [← secs_set _ _ _ hk]
  exact ((h11.stored (k * 2) _).1.stored (k * 2 + 1) _).1
end Go.Proofs.Ytjahhheipeggeaa
