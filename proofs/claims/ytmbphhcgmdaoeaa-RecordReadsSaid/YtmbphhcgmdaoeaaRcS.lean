/- What is proved: what every function on records and states must answer, said of any function number. -/
import Derived.Test.YtmbphhcgmdaoeaaRcB
namespace Go.Proofs.Ytmbphhcgmdaoeaa
open Go.RowKit

def I64 (n : Int) : Prop := -9223372036854775808 ≤ n ∧ n ≤ 9223372036854775807
def Wr.In (x : Wr) : Prop := I64 x.key ∧ I64 x.val
def It.In (x : It) : Prop := I64 x.key ∧ I64 x.place ∧ I64 x.val
def Ln.In (x : Ln) : Prop := I64 x.off ∧ I64 x.place ∧ I64 x.j ∧ I64 x.key ∧ I64 x.val
def Rc.In (r : Rc) : Prop := I64 r.place ∧ (∀ x ∈ r.ws, x.In) ∧ r.ws.length ≤ 1000
def St.In (s : St) : Prop := I64 s.place ∧ I64 s.c0 ∧ I64 s.c1 ∧ I64 s.c2 ∧ (∀ x ∈ s.items, x.In) ∧ (∀ x ∈ s.l0, x.In) ∧ (∀ x ∈ s.l1, x.In) ∧ (∀ x ∈ s.l2, x.In) ∧ s.items.length ≤ 1000 ∧ s.l0.length ≤ 1000 ∧ s.l1.length ≤ 1000 ∧ s.l2.length ≤ 1000
def Wr.cells (x : Wr) : List Value := [.int .i64 x.key, .int .i64 x.val]
def It.cells (x : It) : List Value := [.int .i64 x.key, .int .i64 x.place, .int .i64 x.val]
def Ln.cells (x : Ln) : List Value := [.int .i64 x.off, .int .i64 x.place, .int .i64 x.j, .int .i64 x.key, .int .i64 x.val]
def wrC (l : List Wr) : List Value := l.flatMap Wr.cells
def itC (l : List It) : List Value := l.flatMap It.cells
def lnC (l : List Ln) : List Value := l.flatMap Ln.cells
theorem wrC_len (l : List Wr) : (wrC l).length = l.length * 2 := flat_length _ 2 (fun _ => rfl) l
theorem itC_len (l : List It) : (itC l).length = l.length * 3 := flat_length _ 3 (fun _ => rfl) l
theorem lnC_len (l : List Ln) : (lnC l).length = l.length * 5 := flat_length _ 5 (fun _ => rfl) l
/-- The value is a slice of n elements of size cells each that reads as xs; its block lies from lo on, below hi. -/
def Sl (size : Nat) (w : World) (lo hi : Nat) (v : Value) (n : Nat) (xs : List Value) : Prop := ∃ a c, v = .slice a n c ∧ n ≤ c ∧ c ≤ maxLen ∧ Rg size w lo hi a n xs
theorem Sl.far {size : Nat} {w w' : World} {lo hi : Nat} {v : Value} {n : Nat} {xs : List Value} (h : Sl size w lo hi v n xs) (hb : Below hi w w') : Sl size w' lo hi v n xs := by
  obtain ⟨a, c, e, h1, h2, h3⟩ := h
  exact ⟨a, c, e, h1, h2, h3.far hb⟩
theorem Sl.wide {size : Nat} {w : World} {lo hi lo' hi' : Nat} {v : Value} {n : Nat} {xs : List Value} (h : Sl size w lo hi v n xs) (hl : lo' ≤ lo) (hh : hi ≤ hi') : Sl size w lo' hi' v n xs := by
  obtain ⟨a, c, e, h1, h2, h3⟩ := h
  exact ⟨a, c, e, h1, h2, h3.wide hl hh⟩
theorem Sl.set_low {size : Nat} {w : World} {lo hi : Nat} {v : Value} {n : Nat} {xs : List Value} (h : Sl size w lo hi v n xs) {p : Addr} (hp : p.block < lo) (u : Value) : Sl size (w.setCell p u) lo hi v n xs := by
  obtain ⟨a, c, e, h1, h2, h3⟩ := h
  exact ⟨a, c, e, h1, h2, h3.set_low hp u⟩
theorem Sl.nil (size : Nat) (w : World) (lo hi : Nat) : Sl size w lo hi (.slice none 0 0) 0 [] := ⟨none, 0, rfl, Nat.le_refl _, Nat.zero_le _, Rg.nil⟩
def RecV (w : World) (lo hi : Nat) (v : Value) (r : Rc) : Prop := ∃ s, v = .agg #[.int .i64 r.place, .bool r.yes, s] ∧ Sl 2 w lo hi s r.ws.length (wrC r.ws)
def StV (w : World) (lo hi : Nat) (v : Value) (s : St) : Prop :=
  ∃ v0 v1 v2 v3, v = .agg #[.int .i64 s.place, v0, v1, v2, v3, .int .i64 s.c0, .int .i64 s.c1, .int .i64 s.c2] ∧ Sl 3 w lo hi v0 s.items.length (itC s.items) ∧ Sl 5 w lo hi v1 s.l0.length (lnC s.l0) ∧ Sl 5 w lo hi v2 s.l1.length (lnC s.l1) ∧ Sl 5 w lo hi v3 s.l2.length (lnC s.l2)
def Bt (w : World) (lo hi : Nat) (v : Value) (xs : List Int) : Prop := Sl 1 w lo hi v xs.length (u8s xs)
theorem RecV.far {w w' : World} {lo hi : Nat} {v : Value} {r : Rc} (h : RecV w lo hi v r) (hb : Below hi w w') : RecV w' lo hi v r := by
  obtain ⟨s, e, h⟩ := h
  exact ⟨s, e, h.far hb⟩
theorem RecV.wide {w : World} {lo hi lo' hi' : Nat} {v : Value} {r : Rc} (h : RecV w lo hi v r) (hl : lo' ≤ lo) (hh : hi ≤ hi') : RecV w lo' hi' v r := by
  obtain ⟨s, e, h⟩ := h
  exact ⟨s, e, h.wide hl hh⟩
theorem StV.far {w w' : World} {lo hi : Nat} {v : Value} {s : St} (h : StV w lo hi v s) (hb : Below hi w w') : StV w' lo hi v s := by
  obtain ⟨v0, v1, v2, v3, e, h0, h1, h2, h3⟩ := h
  exact ⟨v0, v1, v2, v3, e, h0.far hb, h1.far hb, h2.far hb, h3.far hb⟩
theorem StV.wide {w : World} {lo hi lo' hi' : Nat} {v : Value} {s : St} (h : StV w lo hi v s) (hl : lo' ≤ lo) (hh : hi ≤ hi') : StV w lo' hi' v s := by
  obtain ⟨v0, v1, v2, v3, e, h0, h1, h2, h3⟩ := h
  exact ⟨v0, v1, v2, v3, e, h0.wide hl hh, h1.wide hl hh, h2.wide hl hh, h3.wide hl hh⟩
theorem Bt.far {w w' : World} {lo hi : Nat} {v : Value} {xs : List Int} (h : Bt w lo hi v xs) (hb : Below hi w w') : Bt w' lo hi v xs := Sl.far h hb
theorem Bt.wide {w : World} {lo hi lo' hi' : Nat} {v : Value} {xs : List Int} (h : Bt w lo hi v xs) (hl : lo' ≤ lo) (hh : hi ≤ hi') : Bt w lo' hi' v xs := Sl.wide h hl hh

def noRc : Rc := ⟨0, false, []⟩
def noSt : St := ⟨0, [], [], [], [], 0, 0, 0⟩
def outB (r : Rc) : List Int := if mayB r then recB r else []
def outE (r : Rc) : Int := if mayB r then 0 else 2
def souB (s : St) : List Int := if stands s then stE s else []
def souE (s : St) : Int := if stands s then 0 else 2
def inR (xs : List Int) : Rc := (readR xs).getD noRc
def inE (xs : List Int) : Int := if (readR xs).isSome then 0 else 50
def sinS (xs : List Int) : St := (readS xs).getD noSt
def sinE (xs : List Int) : Int := if (readS xs).isSome then 0 else 50
def wrEq (x y : Wr) : Bool := x.key == y.key && x.val == y.val
def itEq (x y : It) : Bool := x.key == y.key && (x.place == y.place && x.val == y.val)
def lnEq (x y : Ln) : Bool := x.off == y.off && (x.place == y.place && (x.j == y.j && (x.key == y.key && x.val == y.val)))
def rowEq {α : Type} (q : α → α → Bool) (d : α) (l m : List α) : Bool := decide (l.length = m.length) && rowAll (fun i => q (l.getD i d) (m.getD i d)) l.length
def sameR (a b : Rc) : Bool := a.place == b.place && a.yes == b.yes && rowEq wrEq wrD a.ws b.ws
def sameS (a b : St) : Bool := a.place == b.place && (a.c0 == b.c0 && a.c1 == b.c1 && a.c2 == b.c2) && rowEq itEq itD a.items b.items && rowEq lnEq lnD a.l0 b.l0 && rowEq lnEq lnD a.l1 b.l1 && rowEq lnEq lnD a.l2 b.l2

def WrittenSpec (f : FuncId) : Prop := ∀ (v : Value) (l : List Wr) (w : World), Sl 2 w 0 w.heap.size v l.length (wrC l) → (∀ x ∈ l, x.In) → l.length ≤ 1000 →
  Calls Try.prog f #[v] w fun e w' => e = .returned (.bool (wrB l)) ∧ Below w.heap.size w w'
def MaySpec (f : FuncId) : Prop := ∀ (v : Value) (r : Rc) (w : World), RecV w 0 w.heap.size v r → r.In →
  Calls Try.prog f #[v] w fun e w' => e = .returned (.bool (mayB r)) ∧ Below w.heap.size w w'
def BytesSpec (f : FuncId) : Prop := ∀ (v : Value) (r : Rc) (w : World), RecV w 0 w.heap.size v r → r.In →
  Calls Try.prog f #[v] w fun e w' => ∃ b, e = .returned (.tuple #[b, .int .i64 (outE r)]) ∧ Bt w' w.heap.size w'.heap.size b (outB r) ∧ Below w.heap.size w w'
def ReadSpec (f : FuncId) : Prop := ∀ (v : Value) (xs : List Int) (w : World), Bt w 0 w.heap.size v xs → IsBytes xs → xs.length ≤ 1000000 →
  Calls Try.prog f #[v] w fun e w' => ∃ r, e = .returned (.tuple #[r, .int .i64 (inE xs)]) ∧ RecV w' w.heap.size w'.heap.size r (inR xs) ∧ Below w.heap.size w w'
def StandsSpec (f : FuncId) : Prop := ∀ (v : Value) (s : St) (w : World), StV w 0 w.heap.size v s → s.In →
  Calls Try.prog f #[v] w fun e w' => e = .returned (.bool (stands s)) ∧ Below w.heap.size w w'
def StateBytesSpec (f : FuncId) : Prop := ∀ (v : Value) (s : St) (w : World), StV w 0 w.heap.size v s → s.In →
  Calls Try.prog f #[v] w fun e w' => ∃ b, e = .returned (.tuple #[b, .int .i64 (souE s)]) ∧ Bt w' w.heap.size w'.heap.size b (souB s) ∧ Below w.heap.size w w'
def ReadStateSpec (f : FuncId) : Prop := ∀ (v : Value) (xs : List Int) (w : World), Bt w 0 w.heap.size v xs → IsBytes xs → xs.length ≤ 1000000 →
  Calls Try.prog f #[v] w fun e w' => ∃ s, e = .returned (.tuple #[s, .int .i64 (sinE xs)]) ∧ StV w' w.heap.size w'.heap.size s (sinS xs) ∧ Below w.heap.size w w'
def SameSpec (f : FuncId) : Prop := ∀ (v u : Value) (r t : Rc) (w : World), RecV w 0 w.heap.size v r → RecV w 0 w.heap.size u t → r.In → t.In →
  Calls Try.prog f #[v, u] w fun e w' => e = .returned (.bool (sameR r t)) ∧ Below w.heap.size w w'
def SameStateSpec (f : FuncId) : Prop := ∀ (v u : Value) (r t : St) (w : World), StV w 0 w.heap.size v r → StV w 0 w.heap.size u t → r.In → t.In →
  Calls Try.prog f #[v, u] w fun e w' => e = .returned (.bool (sameS r t)) ∧ Below w.heap.size w w'

/-! ### what follows on lists -/
theorem rowEq_iff {α : Type} {q : α → α → Bool} (hq : ∀ x y, q x y = true ↔ x = y) (d : α) (l m : List α) : rowEq q d l m = true ↔ l = m := by
  unfold rowEq
  constructor
  · intro h
    obtain ⟨h1, h2⟩ := Bool.and_eq_true_iff.1 h
    have hl := of_decide_eq_true h1
    refine List.ext_getElem hl fun i hi hi' => ?_
    have := (hq _ _).1 (rowAll_get h2 hi)
    rwa [getD_at (List.getElem?_eq_getElem hi), getD_at (List.getElem?_eq_getElem hi')] at this
  · rintro rfl
    simp only [decide_true, Bool.true_and]
    exact rowAll_mk fun i _ => (hq _ _).2 rfl
theorem wrEq_iff (x y : Wr) : wrEq x y = true ↔ x = y := by
  obtain ⟨a, b⟩ := x
  obtain ⟨c, d⟩ := y
  simp [wrEq]
theorem itEq_iff (x y : It) : itEq x y = true ↔ x = y := by
  obtain ⟨a, b, c⟩ := x
  obtain ⟨a', b', c'⟩ := y
  simp [itEq]
theorem lnEq_iff (x y : Ln) : lnEq x y = true ↔ x = y := by
  obtain ⟨a, b, c, d, e⟩ := x
  obtain ⟨a', b', c', d', e'⟩ := y
  simp [lnEq]
theorem sameR_iff (a b : Rc) : sameR a b = true ↔ a = b := by
  obtain ⟨a1, a2, a3⟩ := a
  obtain ⟨b1, b2, b3⟩ := b
  unfold sameR
  simp only [Bool.and_eq_true, rowEq_iff wrEq_iff, beq_iff_eq, Rc.mk.injEq, and_assoc]
theorem sameS_iff (a b : St) : sameS a b = true ↔ a = b := by
  obtain ⟨a1, a2, a3, a4, a5, a6, a7, a8⟩ := a
  obtain ⟨b1, b2, b3, b4, b5, b6, b7, b8⟩ := b
  unfold sameS
  simp only [Bool.and_eq_true, rowEq_iff itEq_iff, rowEq_iff lnEq_iff, beq_iff_eq, St.mk.injEq]
  constructor
  · rintro ⟨⟨⟨⟨⟨h1, ⟨h2, h3⟩, h4⟩, h5⟩, h6⟩, h7⟩, h8⟩
    exact ⟨h1, h5, h6, h7, h8, h2, h3, h4⟩
  · rintro ⟨h1, h5, h6, h7, h8, h2, h3, h4⟩
    exact ⟨⟨⟨⟨⟨h1, ⟨h2, h3⟩, h4⟩, h5⟩, h6⟩, h7⟩, h8⟩
/-- What bytes are as a record: one whose bytes they are, or none. -/
theorem in_cases {xs : List Int} (hx : IsBytes xs) : (∃ r, inE xs = 0 ∧ inR xs = r ∧ mayB r = true ∧ recB r = xs) ∨ (inE xs = 50 ∧ inR xs = noRc ∧ ∀ r, mayB r = true → recB r ≠ xs) := by
  unfold inE inR
  rcases h : readR xs with _ | r
  · exact .inr ⟨rfl, rfl, fun r h1 h2 => by rw [(readR_iff hx r).2 ⟨h1, h2⟩] at h; cases h⟩
  · exact .inl ⟨r, rfl, rfl, (readR_iff hx r).1 h⟩
theorem sin_cases {xs : List Int} (hx : IsBytes xs) : (∃ s, sinE xs = 0 ∧ sinS xs = s ∧ stands s = true ∧ stE s = xs) ∨ (sinE xs = 50 ∧ sinS xs = noSt ∧ ∀ s, stands s = true → stE s ≠ xs) := by
  unfold sinE sinS
  rcases h : readS xs with _ | s
  · exact .inr ⟨rfl, rfl, fun r h1 h2 => by rw [(readS_iff hx r).2 ⟨h1, h2⟩] at h; cases h⟩
  · exact .inl ⟨s, rfl, rfl, (readS_iff hx s).1 h⟩
theorem in_of {r : Rc} (h : mayB r = true) : inE (recB r) = 0 ∧ inR (recB r) = r := by
  have := (readR_iff (isBytes_recB r) r).2 ⟨h, rfl⟩
  unfold inE inR
  rw [this]
  exact ⟨rfl, rfl⟩
theorem sin_of {s : St} (h : stands s = true) : sinE (stE s) = 0 ∧ sinS (stE s) = s := by
  have := (readS_iff (isBytes_stE s) s).2 ⟨h, rfl⟩
  unfold sinE sinS
  rw [this]
  exact ⟨rfl, rfl⟩
theorem mem_at {α : Type} {l : List α} {x : α} (h : x ∈ l) : ∃ i : Nat, l[i]? = some x := by
  obtain ⟨i, hi, e⟩ := List.mem_iff_getElem.1 h
  exact ⟨i, by rw [List.getElem?_eq_getElem hi, e]⟩
theorem may_in {r : Rc} (h : mayB r = true) : r.In := by
  obtain ⟨h1, h2, h3, _⟩ := mayB_parts h
  obtain ⟨h4, h5⟩ := wrB_parts h3
  refine ⟨⟨by omega, by omega⟩, fun x hx => ?_, by omega⟩
  obtain ⟨i, hi⟩ := mem_at hx
  obtain ⟨q1, q2, q3, q4⟩ := h5 i x hi
  exact ⟨⟨by omega, by omega⟩, by omega, by omega⟩
theorem lns_in {l : List Ln} {pl c : Int} (h : lnsB l pl c = true) (hp : pl ≤ 1048575) : I64 c ∧ (∀ x ∈ l, x.In) ∧ l.length ≤ 1000 := by
  obtain ⟨h1, h2, h3, h4⟩ := lnsB_parts h
  refine ⟨⟨by omega, by omega⟩, fun x hx => ?_, by omega⟩
  obtain ⟨i, hi⟩ := mem_at hx
  obtain ⟨q1, q2, q3, q4, q5, q6, q7, q8, q9, q10⟩ := h4 i x hi
  exact ⟨⟨by omega, by omega⟩, ⟨by omega, by omega⟩, ⟨by omega, by omega⟩, ⟨by omega, by omega⟩, by omega, by omega⟩
theorem st_in {s : St} (h : stands s = true) : s.In := by
  obtain ⟨h1, h2, h3, h4, h5, h6⟩ := stands_parts h
  obtain ⟨a1, a2, a3⟩ := lns_in h4 h2
  obtain ⟨b1, b2, b3⟩ := lns_in h5 h2
  obtain ⟨c1, c2, c3⟩ := lns_in h6 h2
  have h7 := itsB_len h3
  refine ⟨⟨by omega, by omega⟩, a1, b1, c1, fun x hx => ?_, a2, b2, c2, by omega, a3, b3, c3⟩
  obtain ⟨i, hi⟩ := mem_at hx
  obtain ⟨q1, q2, q3, q4, q5, q6⟩ := itsB_parts h3 i x hi
  exact ⟨⟨by omega, by omega⟩, ⟨by omega, by omega⟩, by omega, by omega⟩
end Go.Proofs.Ytmbphhcgmdaoeaa
