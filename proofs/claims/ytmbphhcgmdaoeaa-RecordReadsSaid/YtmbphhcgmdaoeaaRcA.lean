/- What is proved: records and states as the document's chapter 5 tells them, as lists of numbers: which may be, their bytes, what bytes are; bytes are read as just what they were made of. Nothing here speaks of the program. -/
import Derived.Test.YtmbphhcgmdaoeaaRow
namespace Go.Proofs.Ytmbphhcgmdaoeaa
open Go.RowKit

theorem num_le (n : Int) (k : Nat) (h0 : 0 ≤ n) (h : n < 256 ^ k) : num (le n k) = n := by
  have := le_sum n k
  rw [(div_pow_zero n k h0).2 h] at this
  omega
theorem le_cons (n : Int) (k : Nat) : le n (k + 1) = n % 256 :: le (n / 256) k := by
  unfold le
  rw [List.range_succ_eq_map, List.map_cons, List.map_map]
  congr 1
  · rw [Int.pow_zero, Int.ediv_one]
  · apply List.map_congr_left
    intro j _
    simp only [Function.comp]
    rw [Int.pow_succ, Int.mul_comm, Int.ediv_ediv_of_nonneg (by decide)]
theorem le_num : ∀ {cs : List Int}, IsBytes cs → le (num cs) cs.length = cs
  | [], _ => rfl
  | c :: cs, h => by
    have hc := h c (List.mem_cons_self ..)
    have hr := fun b hb => h b (List.mem_cons_of_mem _ hb)
    rw [List.length_cons, le_cons]
    have e : num (c :: cs) = c + 256 * num cs := rfl
    rw [e, show (c + 256 * num cs) % 256 = c by omega, show (c + 256 * num cs) / 256 = num cs by omega, le_num hr]
theorem le_one (n : Int) : le n 1 = [n % 256] := by rw [le_cons]; rfl
theorem isBytes_take {xs : List Int} (h : IsBytes xs) (k : Nat) : IsBytes (xs.take k) := fun b hb => h b (List.mem_of_mem_take hb)
theorem isBytes_drop {xs : List Int} (h : IsBytes xs) (k : Nat) : IsBytes (xs.drop k) := fun b hb => h b (List.mem_of_mem_drop hb)

structure Wr where
  key : Int
  val : Int
structure Rc where
  place : Int
  yes : Bool
  ws : List Wr
structure It where
  key : Int
  place : Int
  val : Int
structure Ln where
  off : Int
  place : Int
  j : Int
  key : Int
  val : Int
structure St where
  place : Int
  items : List It
  l0 : List Ln
  l1 : List Ln
  l2 : List Ln
  c0 : Int
  c1 : Int
  c2 : Int

/-! ### all of the first n -/
def rowAll (p : Nat → Bool) (n : Nat) : Bool := (List.range n).all p
theorem rowAll_succ (p : Nat → Bool) (n : Nat) : rowAll p (n + 1) = (rowAll p n && p n) := by
  unfold rowAll
  rw [List.range_succ, List.all_append]
  simp
theorem rowAll_no {p : Nat → Bool} {n i : Nat} (hi : i < n) (h : p i = false) : rowAll p n = false := by
  unfold rowAll
  rw [List.all_eq_false]
  exact ⟨i, List.mem_range.2 hi, by simp [h]⟩
theorem rowAll_get {p : Nat → Bool} {n i : Nat} (h : rowAll p n = true) (hi : i < n) : p i = true := List.all_eq_true.1 h i (List.mem_range.2 hi)
theorem rowAll_mk {p : Nat → Bool} {n : Nat} (h : ∀ i, i < n → p i = true) : rowAll p n = true := List.all_eq_true.2 fun i hi => h i (List.mem_range.1 hi)

/-! ### what may be -/
def wrD : Wr := ⟨0, 0⟩
def itD : It := ⟨0, 0, 0⟩
def lnD : Ln := ⟨0, 0, 0, 0, 0⟩
def wrAt (l : List Wr) (i : Nat) : Bool := decide (0 ≤ (l.getD i wrD).key ∧ (l.getD i wrD).key < 24 ∧ 0 ≤ (l.getD i wrD).val ∧ (l.getD i wrD).val ≤ 255 ∧ (i = 0 ∨ (l.getD (i - 1) wrD).key < (l.getD i wrD).key))
def wrB (l : List Wr) : Bool := decide (l.length ≤ 4) && rowAll (wrAt l) l.length
def mayB (r : Rc) : Bool := decide (1 ≤ r.place ∧ r.place ≤ 1048575) && wrB r.ws && (r.yes || decide (r.ws.length = 0))
def itAt (l : List It) (pl : Int) (i : Nat) : Bool := decide (0 ≤ (l.getD i itD).key ∧ (l.getD i itD).key < 24 ∧ (i = 0 ∨ (l.getD (i - 1) itD).key < (l.getD i itD).key) ∧ 1 ≤ (l.getD i itD).place ∧ (l.getD i itD).place ≤ pl ∧ 0 ≤ (l.getD i itD).val ∧ (l.getD i itD).val ≤ 255)
def itsB (l : List It) (pl : Int) : Bool := rowAll (itAt l pl) l.length
def lnAt (l : List Ln) (pl cut : Int) (i : Nat) : Bool :=
  decide (0 ≤ (l.getD i lnD).off ∧ (l.getD i lnD).off < 4194304 ∧ 1 ≤ (l.getD i lnD).place ∧ (l.getD i lnD).place ≤ pl ∧ 0 ≤ (l.getD i lnD).j ∧ (l.getD i lnD).j < 4 ∧ 0 ≤ (l.getD i lnD).key ∧ (l.getD i lnD).key < 8 ∧ 0 ≤ (l.getD i lnD).val ∧ (l.getD i lnD).val ≤ 255)
  && decide (i = 0 → cut < (l.getD i lnD).place)
  && decide (i = 0 ∨ ((l.getD i lnD).off = (l.getD (i - 1) lnD).off + 1 ∧ (l.getD (i - 1) lnD).place ≤ (l.getD i lnD).place ∧ ((l.getD i lnD).place = (l.getD (i - 1) lnD).place → (l.getD (i - 1) lnD).j < (l.getD i lnD).j)))
def lnsB (l : List Ln) (pl cut : Int) : Bool := decide (l.length ≤ 16 ∧ 0 ≤ cut ∧ cut ≤ pl) && rowAll (lnAt l pl cut) l.length
def stands (s : St) : Bool := decide (0 ≤ s.place ∧ s.place ≤ 1048575) && itsB s.items s.place && lnsB s.l0 s.place s.c0 && lnsB s.l1 s.place s.c1 && lnsB s.l2 s.place s.c2

/-! ### the bytes -/
def yesN (y : Bool) : Int := if y then 1 else 0
def wrE (w : Wr) : List Int := le w.key 1 ++ le w.val 1
def recB (r : Rc) : List Int := le r.place 3 ++ (le (yesN r.yes) 1 ++ (le (r.ws.length : Int) 1 ++ r.ws.flatMap wrE))
def itE (x : It) : List Int := le x.key 1 ++ (le x.place 3 ++ le x.val 1)
def lnE (x : Ln) : List Int := le x.place 3 ++ (le (x.j + 16 * x.key) 1 ++ le x.val 1)
def firstOff (l : List Ln) : Int := match l with | [] => 0 | x :: _ => x.off
def partE (l : List Ln) (c : Int) : List Int := le c 3 ++ (le (l.length : Int) 1 ++ (le (firstOff l) 3 ++ l.flatMap lnE))
def stE (s : St) : List Int := le s.place 3 ++ (le (s.items.length : Int) 1 ++ (s.items.flatMap itE ++ (partE s.l0 s.c0 ++ (partE s.l1 s.c1 ++ partE s.l2 s.c2))))

/-! ### what bytes are: numbers are cut from the front -/
def pNum (w : Nat) (xs : List Int) : Option (Int × List Int) := if w ≤ xs.length then some (num (xs.take w), xs.drop w) else none
theorem pNum_le (w : Nat) (n : Int) (t : List Int) (h0 : 0 ≤ n) (h : n < 256 ^ w) : pNum w (le n w ++ t) = some (n, t) := by
  unfold pNum
  rw [if_pos (by rw [List.length_append, le_length]; omega), List.take_left' (le_length _ _), List.drop_left' (le_length _ _), num_le n w h0 h]
theorem pNum_some {w : Nat} {xs t : List Int} {n : Int} (hx : IsBytes xs) (h : pNum w xs = some (n, t)) : xs = le n w ++ t ∧ 0 ≤ n ∧ n < 256 ^ w ∧ IsBytes t ∧ t.length + w = xs.length := by
  unfold pNum at h
  split at h
  · rename_i hw
    obtain ⟨rfl, rfl⟩ := Prod.mk.inj (Option.some.inj h)
    have hl : (xs.take w).length = w := by rw [List.length_take]; omega
    have hb := num_bd _ (isBytes_take hx w)
    have he := le_num (isBytes_take hx w)
    rw [hl] at hb he
    exact ⟨by rw [he, List.take_append_drop], hb.1, hb.2, isBytes_drop hx w, by rw [List.length_drop]; omega⟩
  · cases h
section
variable {α : Type}
def pMany (p : Nat → List Int → Option (α × List Int)) (k : Nat) : Nat → List Int → Option (List α × List Int)
  | 0, xs => some ([], xs)
  | n + 1, xs => (p k xs).bind fun q => (pMany p (k + 1) n q.2).bind fun r => some (q.1 :: r.1, r.2)
theorem pMany_snoc (p : Nat → List Int → Option (α × List Int)) (n : Nat) : ∀ (k : Nat) (xs : List Int), pMany p k (n + 1) xs = (pMany p k n xs).bind fun q => (p (k + n) q.2).bind fun r => some (q.1 ++ [r.1], r.2) := by
  induction n with
  | zero =>
    intro k xs
    simp [pMany]
  | succ n ih =>
    intro k xs
    rw [pMany]
    conv => rhs; rw [pMany]
    rcases p k xs with _ | ⟨x, t⟩
    · rfl
    · simp only [Option.bind_some]
      rw [ih (k + 1) t, show k + 1 + n = k + (n + 1) by omega]
      rcases pMany p (k + 1) n t with _ | ⟨l, u⟩
      · rfl
      · simp only [Option.bind_some]
        rcases p (k + (n + 1)) u with _ | ⟨y, v⟩
        · rfl
        · rfl
theorem pMany_none {p : Nat → List Int → Option (α × List Int)} {k n : Nat} {xs : List Int} (h : pMany p k n xs = none) : ∀ m, n ≤ m → pMany p k m xs = none := by
  intro m hm
  obtain ⟨d, rfl⟩ := Nat.exists_eq_add_of_le hm
  clear hm
  induction d with
  | zero => exact h
  | succ d ih => rw [← Nat.add_assoc, pMany_snoc, ih]; rfl
theorem pMany_step {p : Nat → List Int → Option (α × List Int)} {n : Nat} {xs t u : List Int} {l : List α} {x : α} (h : pMany p 0 n xs = some (l, t)) (hp : p n t = some (x, u)) : pMany p 0 (n + 1) xs = some (l ++ [x], u) := by
  rw [pMany_snoc, h, Nat.zero_add]
  simp only [Option.bind_some, hp]
theorem pMany_stop {p : Nat → List Int → Option (α × List Int)} {n : Nat} {xs t : List Int} {l : List α} (h : pMany p 0 n xs = some (l, t)) (hp : p n t = none) : pMany p 0 (n + 1) xs = none := by
  rw [pMany_snoc, h, Nat.zero_add]
  simp only [Option.bind_some, hp, Option.bind_none]
theorem pMany_fwd {p : Nat → List Int → Option (α × List Int)} {e : α → List Int} : ∀ (l : List α) (k : Nat) (t : List Int), (∀ i x t, l[i]? = some x → p (k + i) (e x ++ t) = some (x, t)) → pMany p k l.length (l.flatMap e ++ t) = some (l, t)
  | [], _, _, _ => rfl
  | x :: l, k, t, h => by
    rw [List.length_cons, pMany, List.flatMap_cons, List.append_assoc]
    have h0 := h 0 x (l.flatMap e ++ t) rfl
    rw [Nat.add_zero] at h0
    rw [h0]
    simp only [Option.bind_some]
    rw [pMany_fwd l (k + 1) t (fun i y u hy => by have := h (i + 1) y u (by simpa using hy); rwa [show k + 1 + i = k + (i + 1) by omega])]
    rfl
theorem pMany_bwd {p : Nat → List Int → Option (α × List Int)} {e : α → List Int} (hp : ∀ k xs x t, IsBytes xs → p k xs = some (x, t) → xs = e x ++ t) : ∀ (n k : Nat) (xs t : List Int) (l : List α), IsBytes xs → pMany p k n xs = some (l, t) → l.length = n ∧ xs = l.flatMap e ++ t
  | 0, k, xs, t, l, hx, h => by
    obtain ⟨rfl, rfl⟩ := Prod.mk.inj (Option.some.inj h)
    exact ⟨rfl, rfl⟩
  | n + 1, k, xs, t, l, hx, h => by
    rw [pMany] at h
    rcases h1 : p k xs with _ | ⟨x, u⟩
    · rw [h1] at h; cases h
    · rw [h1] at h
      simp only [Option.bind_some] at h
      rcases h2 : pMany p (k + 1) n u with _ | ⟨m, v⟩
      · rw [h2] at h; cases h
      · rw [h2] at h
        simp only [Option.bind_some] at h
        obtain ⟨rfl, rfl⟩ := Prod.mk.inj (Option.some.inj h)
        have e1 := hp k xs x u hx h1
        obtain ⟨e2, e3⟩ := pMany_bwd hp n (k + 1) u v m (fun b hb => hx b (by rw [e1]; exact List.mem_append_right _ hb)) h2
        exact ⟨by rw [List.length_cons, e2], by rw [e1, e3, List.flatMap_cons, List.append_assoc]⟩
theorem pMany_at {p : Nat → List Int → Option (α × List Int)} {Q : Nat → α → Prop} (hp : ∀ k xs x t, p k xs = some (x, t) → Q k x) : ∀ (n k : Nat) (xs t : List Int) (l : List α), pMany p k n xs = some (l, t) → ∀ i x, l[i]? = some x → Q (k + i) x
  | 0, k, xs, t, l, h, i, x, hi => by
    obtain ⟨rfl, rfl⟩ := Prod.mk.inj (Option.some.inj h)
    simp at hi
  | n + 1, k, xs, t, l, h, i, x, hi => by
    rw [pMany] at h
    rcases h1 : p k xs with _ | ⟨y, u⟩
    · rw [h1] at h; cases h
    · rw [h1] at h
      simp only [Option.bind_some] at h
      rcases h2 : pMany p (k + 1) n u with _ | ⟨m, v⟩
      · rw [h2] at h; cases h
      · rw [h2] at h
        simp only [Option.bind_some] at h
        obtain ⟨rfl, rfl⟩ := Prod.mk.inj (Option.some.inj h)
        rcases i with _ | i
        · simp at hi
          subst hi
          exact hp k xs _ u h1
        · have := pMany_at hp n (k + 1) u v m h2 i x (by simpa using hi)
          rwa [show k + 1 + i = k + (i + 1) by omega] at this
end
def pWr (_ : Nat) (xs : List Int) : Option (Wr × List Int) := (pNum 1 xs).bind fun k => (pNum 1 k.2).bind fun v => some (⟨k.1, v.1⟩, v.2)
def pIt (_ : Nat) (xs : List Int) : Option (It × List Int) := (pNum 1 xs).bind fun k => (pNum 3 k.2).bind fun p => (pNum 1 p.2).bind fun v => some (⟨k.1, p.1, v.1⟩, v.2)
def pLn (f : Int) (i : Nat) (xs : List Int) : Option (Ln × List Int) := (pNum 3 xs).bind fun p => (pNum 1 p.2).bind fun x => (pNum 1 x.2).bind fun v => some (⟨f + i, p.1, x.1 % 16, x.1 / 16, v.1⟩, v.2)
def pPart (xs : List Int) : Option ((List Ln × Int) × List Int) :=
  (pNum 3 xs).bind fun c => (pNum 1 c.2).bind fun n => (pNum 3 n.2).bind fun f => (pMany (pLn f.1) 0 n.1.toNat f.2).bind fun l => if n.1 = 0 ∧ f.1 ≠ 0 then none else some ((l.1, c.1), l.2)
def pRec (xs : List Int) : Option (Rc × List Int) :=
  (pNum 3 xs).bind fun p => (pNum 1 p.2).bind fun y => if 1 < y.1 then none else (pNum 1 y.2).bind fun n => (pMany pWr 0 n.1.toNat n.2).bind fun l => some (⟨p.1, decide (y.1 = 1), l.1⟩, l.2)
def pSt (xs : List Int) : Option (St × List Int) :=
  (pNum 3 xs).bind fun p => (pNum 1 p.2).bind fun n => (pMany pIt 0 n.1.toNat n.2).bind fun l => (pPart l.2).bind fun a => (pPart a.2).bind fun b => (pPart b.2).bind fun c => some (⟨p.1, l.1, a.1.1, b.1.1, c.1.1, a.1.2, b.1.2, c.1.2⟩, c.2)
def readR (xs : List Int) : Option Rc := (pRec xs).bind fun q => if q.2 = [] ∧ mayB q.1 = true then some q.1 else none
def readS (xs : List Int) : Option St := (pSt xs).bind fun q => if q.2 = [] ∧ stands q.1 = true then some q.1 else none
end Go.Proofs.Ytmbphhcgmdaoeaa
