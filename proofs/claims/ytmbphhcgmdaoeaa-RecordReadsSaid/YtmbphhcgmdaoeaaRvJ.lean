/- What is proved: numbers cut from the front of bytes, nought where too few stand: of a record's bytes, and of a state's, that comes to the record, the state. Nothing here speaks of the program. -/
import Derived.Test.YtmbphhcgmdaoeaaRcS
namespace Go.Proofs.Ytmbphhcgmdaoeaa
open Go.RowKit

def cutN (m : Nat) (ys : List Int) : Int × List Int := if m ≤ ys.length then (num (ys.take m), ys.drop m) else (0, [])
theorem cutN_le (m : Nat) (n : Int) (t : List Int) (h0 : 0 ≤ n) (h : n < 256 ^ m) : cutN m (le n m ++ t) = (n, t) := by
  unfold cutN
  rw [if_pos (by rw [List.length_append, le_length]; omega), List.take_left' (le_length _ _), List.drop_left' (le_length _ _), num_le n m h0 h]
theorem cutN_bytes {m : Nat} {ys : List Int} (h : IsBytes ys) : IsBytes (cutN m ys).2 := by
  unfold cutN
  split
  · exact isBytes_drop h m
  · intro b hb; cases hb
theorem cutN_len (m : Nat) (ys : List Int) : (cutN m ys).2.length ≤ ys.length := by
  unfold cutN
  split
  · simp
  · simp
theorem cutN_bd {m : Nat} {ys : List Int} (h : IsBytes ys) : 0 ≤ (cutN m ys).1 ∧ (cutN m ys).1 < 256 ^ m := by
  unfold cutN
  split
  · rename_i hw
    have := num_bd _ (isBytes_take h m)
    rwa [List.length_take, Nat.min_eq_left hw] at this
  · exact ⟨Int.le_refl _, Int.pow_pos (by decide)⟩
section
variable {α : Type}
def rowF (step : Nat → List Int → α × List Int) : Nat → List Int → List α × List Int
  | 0, ys => ([], ys)
  | n + 1, ys => ((rowF step n ys).1 ++ [(step n (rowF step n ys).2).1], (step n (rowF step n ys).2).2)
theorem rowF_length (step : Nat → List Int → α × List Int) (n : Nat) (ys : List Int) : (rowF step n ys).1.length = n := by
  induction n with
  | zero => rfl
  | succ n ih => simp [rowF, ih]
theorem rowF_bytes {step : Nat → List Int → α × List Int} (hs : ∀ i ys, IsBytes ys → IsBytes (step i ys).2) (n : Nat) {ys : List Int} (h : IsBytes ys) : IsBytes (rowF step n ys).2 := by
  induction n with
  | zero => exact h
  | succ n ih => exact hs _ _ ih
theorem rowF_len {step : Nat → List Int → α × List Int} (hs : ∀ i ys, (step i ys).2.length ≤ ys.length) (n : Nat) (ys : List Int) : (rowF step n ys).2.length ≤ ys.length := by
  induction n with
  | zero => exact Nat.le_refl _
  | succ n ih => exact Nat.le_trans (hs _ _) ih
theorem rowF_all {step : Nat → List Int → α × List Int} {p : α → Prop} (hs : ∀ i ys, i < 256 → IsBytes ys → p (step i ys).1) (hb : ∀ i ys, IsBytes ys → IsBytes (step i ys).2) (n : Nat) (hn : n ≤ 256) {ys : List Int} (h : IsBytes ys) : ∀ x ∈ (rowF step n ys).1, p x := by
  induction n with
  | zero => intro x hx; cases hx
  | succ n ih =>
    intro x hx
    rcases List.mem_append.1 hx with hx | hx
    · exact ih (by omega) x hx
    · rw [List.mem_singleton.1 hx]
      exact hs _ _ (by omega) (rowF_bytes hb n h)
theorem rowF_of {step : Nat → List Int → α × List Int} {e : α → List Int} {l : List α} {d : α} (hs : ∀ i t, i < l.length → step i (e (l.getD i d) ++ t) = (l.getD i d, t)) (t : List Int) : ∀ n, n ≤ l.length → rowF step n (l.flatMap e ++ t) = (l.take n, (l.drop n).flatMap e ++ t)
  | 0, _ => by simp [rowF]
  | n + 1, hn => by
    have hlt : n < l.length := by omega
    have hx : l.drop n = l.getD n d :: l.drop (n + 1) := by
      rw [List.drop_eq_getElem_cons hlt, List.getD_eq_getElem?_getD, List.getElem?_eq_getElem hlt]; rfl
    have ht : l.take (n + 1) = l.take n ++ [l.getD n d] := by
      rw [List.take_add_one, List.getElem?_eq_getElem hlt, List.getD_eq_getElem?_getD, List.getElem?_eq_getElem hlt]; rfl
    unfold rowF
    rw [rowF_of hs t n (by omega), ht]
    simp only
    rw [hx, List.flatMap_cons, List.append_assoc, hs n _ hlt]
theorem rowF_whole {step : Nat → List Int → α × List Int} {e : α → List Int} {l : List α} {d : α} (hs : ∀ i t, i < l.length → step i (e (l.getD i d) ++ t) = (l.getD i d, t)) (t : List Int) : rowF step l.length (l.flatMap e ++ t) = (l, t) := by
  rw [rowF_of hs t l.length (Nat.le_refl _), List.take_length, List.drop_length]
  rfl
end
def wrStep (_ : Nat) (ys : List Int) : Wr × List Int := (⟨(cutN 1 ys).1, (cutN 1 (cutN 1 ys).2).1⟩, (cutN 1 (cutN 1 ys).2).2)
def itStep (_ : Nat) (ys : List Int) : It × List Int := (⟨(cutN 1 ys).1, (cutN 3 (cutN 1 ys).2).1, (cutN 1 (cutN 3 (cutN 1 ys).2).2).1⟩, (cutN 1 (cutN 3 (cutN 1 ys).2).2).2)
def lnStep (first : Int) (i : Nat) (ys : List Int) : Ln × List Int :=
  (⟨first + i, (cutN 3 ys).1, (cutN 1 (cutN 3 ys).2).1 % 16, (cutN 1 (cutN 3 ys).2).1 / 16, (cutN 1 (cutN 1 (cutN 3 ys).2).2).1⟩, (cutN 1 (cutN 1 (cutN 3 ys).2).2).2)
def lenR (xs : List Int) : Rc :=
  ⟨(cutN 3 xs).1, (cutN 1 (cutN 3 xs).2).1 == 1, (rowF wrStep (cutN 1 (cutN 1 (cutN 3 xs).2).2).1.toNat (cutN 1 (cutN 1 (cutN 3 xs).2).2).2).1⟩
theorem wr_getD {l : List Wr} {i : Nat} (h : i < l.length) : l[i]? = some (l.getD i wrD) := by rw [List.getD_eq_getElem?_getD, List.getElem?_eq_getElem h]; rfl
theorem it_getD {l : List It} {i : Nat} (h : i < l.length) : l[i]? = some (l.getD i itD) := by rw [List.getD_eq_getElem?_getD, List.getElem?_eq_getElem h]; rfl
theorem ln_getD {l : List Ln} {i : Nat} (h : i < l.length) : l[i]? = some (l.getD i lnD) := by rw [List.getD_eq_getElem?_getD, List.getElem?_eq_getElem h]; rfl
theorem lenR_of {r : Rc} (h : mayB r = true) : lenR (recB r) = r := by
  obtain ⟨p1, p2, p3, p4⟩ := mayB_parts h
  obtain ⟨p5, p6⟩ := wrB_parts p3
  obtain ⟨p, y, l⟩ := r
  simp only at *
  have e0 : recB ⟨p, y, l⟩ = le p 3 ++ (le (yesN y) 1 ++ (le (l.length : Int) 1 ++ (l.flatMap wrE ++ []))) := by simp [recB]
  have hy : 0 ≤ yesN y ∧ yesN y < 256 ^ 1 := by unfold yesN; split <;> omega
  have hs : ∀ i t, i < l.length → wrStep i (wrE (l.getD i wrD) ++ t) = (l.getD i wrD, t) := by
    intro i t hi
    obtain ⟨q1, q2, q3, q4⟩ := p6 i _ (wr_getD hi)
    unfold wrStep wrE
    rw [List.append_assoc, cutN_le 1 _ _ q1 (by omega)]
    simp only
    rw [cutN_le 1 _ _ q3 (by omega)]
  unfold lenR
  rw [e0, cutN_le 3 p _ (by omega) (by omega)]
  simp only
  rw [cutN_le 1 (yesN y) _ hy.1 hy.2]
  simp only
  rw [cutN_le 1 (l.length : Int) _ (by omega) (by omega)]
  simp only [Int.toNat_natCast]
  rw [rowF_whole hs []]
  rcases y with _ | _ <;> rfl
theorem wrStep_bytes (i : Nat) (ys : List Int) (h : IsBytes ys) : IsBytes (wrStep i ys).2 := cutN_bytes (cutN_bytes h)
theorem wrStep_len (i : Nat) (ys : List Int) : (wrStep i ys).2.length ≤ ys.length := Nat.le_trans (cutN_len _ _) (cutN_len _ _)
theorem itStep_bytes (i : Nat) (ys : List Int) (h : IsBytes ys) : IsBytes (itStep i ys).2 := cutN_bytes (cutN_bytes (cutN_bytes h))
theorem itStep_len (i : Nat) (ys : List Int) : (itStep i ys).2.length ≤ ys.length := Nat.le_trans (cutN_len _ _) (Nat.le_trans (cutN_len _ _) (cutN_len _ _))
theorem lnStep_bytes (f : Int) (i : Nat) (ys : List Int) (h : IsBytes ys) : IsBytes (lnStep f i ys).2 := cutN_bytes (cutN_bytes (cutN_bytes h))
theorem lnStep_len (f : Int) (i : Nat) (ys : List Int) : (lnStep f i ys).2.length ≤ ys.length := Nat.le_trans (cutN_len _ _) (Nat.le_trans (cutN_len _ _) (cutN_len _ _))
theorem bd1 {ys : List Int} (h : IsBytes ys) : 0 ≤ (cutN 1 ys).1 ∧ (cutN 1 ys).1 < 256 := cutN_bd h
theorem bd3 {ys : List Int} (h : IsBytes ys) : 0 ≤ (cutN 3 ys).1 ∧ (cutN 3 ys).1 < 16777216 := cutN_bd h
theorem lenR_in {xs : List Int} (h : IsBytes xs) : (lenR xs).In := by
  have h1 := bd3 h
  have h3 := bd1 (cutN_bytes (m := 1) (cutN_bytes (m := 3) h))
  refine ⟨⟨by unfold lenR; simp only; omega, by unfold lenR; simp only; omega⟩, ?_, ?_⟩
  · refine rowF_all (p := Wr.In) (fun i ys _ hy => ?_) wrStep_bytes _ (by omega) (cutN_bytes (cutN_bytes (cutN_bytes h)))
    have a1 := bd1 hy
    have a2 := bd1 (cutN_bytes (m := 1) hy)
    exact ⟨⟨by unfold wrStep; simp only; omega, by unfold wrStep; simp only; omega⟩, by unfold wrStep; simp only; omega, by unfold wrStep; simp only; omega⟩
  · unfold lenR
    simp only
    rw [rowF_length]
    omega
/-- What bytes are as a record, by the way back. -/
theorem lenR_reads {xs : List Int} (hx : IsBytes xs) : (mayB (lenR xs) = true ∧ recB (lenR xs) = xs ∧ inE xs = 0 ∧ inR xs = lenR xs) ∨ ((mayB (lenR xs) = false ∨ recB (lenR xs) ≠ xs) ∧ inE xs = 50 ∧ inR xs = noRc) := by
  rcases in_cases hx with ⟨r, e1, e2, e3, e4⟩ | ⟨e1, e2, e3⟩
  · have : lenR xs = r := by rw [← e4]; exact lenR_of e3
    rw [this]
    exact .inl ⟨e3, e4, e1, e2⟩
  · refine .inr ⟨?_, e1, e2⟩
    rcases h : mayB (lenR xs) with _ | _
    · exact .inl rfl
    · exact .inr (e3 _ h)
end Go.Proofs.Ytmbphhcgmdaoeaa
