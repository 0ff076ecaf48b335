/- What is proved: numbers cut from the front of a state's bytes come to the state. Nothing here speaks of the program. -/
import Derived.Test.YtmbphhcgmdaoeaaRvJ
namespace Go.Proofs.Ytmbphhcgmdaoeaa
open Go.RowKit

def lenL (ys : List Int) : List Ln × List Int := rowF (lnStep (cutN 3 (cutN 1 ys).2).1) (cutN 1 ys).1.toNat (cutN 3 (cutN 1 ys).2).2
def lenI (xs : List Int) : List It × List Int := rowF itStep (cutN 1 (cutN 3 xs).2).1.toNat (cutN 1 (cutN 3 xs).2).2
def tl0 (xs : List Int) : List Int := (lenL (cutN 3 (lenI xs).2).2).2
def tl1 (xs : List Int) : List Int := (lenL (cutN 3 (tl0 xs)).2).2
def lenS (xs : List Int) : St :=
  ⟨(cutN 3 xs).1, (lenI xs).1, (lenL (cutN 3 (lenI xs).2).2).1, (lenL (cutN 3 (tl0 xs)).2).1, (lenL (cutN 3 (tl1 xs)).2).1, (cutN 3 (lenI xs).2).1, (cutN 3 (tl0 xs)).1, (cutN 3 (tl1 xs)).1⟩
theorem off_at {l : List Ln} {pl c : Int} (h : lnsB l pl c = true) : ∀ i, i < l.length → (l.getD i lnD).off = firstOff l + i
  | 0, hi => by
    match l, hi with
    | x :: l, _ => simp [firstOff]
  | i + 1, hi => by
    have ih := off_at h i (by omega)
    obtain ⟨_, h2⟩ := Bool.and_eq_true_iff.1 h
    have h3 := rowAll_get h2 hi
    unfold lnAt at h3
    simp only [Bool.and_eq_true, decide_eq_true_eq] at h3
    have h4 := h3.2
    rw [Nat.add_sub_cancel] at h4
    omega
theorem lenL_of {l : List Ln} {pl c : Int} (h : lnsB l pl c = true) (hp : pl ≤ 1048575) (t : List Int) : lenL (le (l.length : Int) 1 ++ (le (firstOff l) 3 ++ (l.flatMap lnE ++ t))) = (l, t) := by
  obtain ⟨h1, _, _, h4⟩ := lnsB_parts h
  have hfo : 0 ≤ firstOff l ∧ firstOff l < 16777216 := by
    match l, h4 with
    | [], _ => exact ⟨Int.le_refl _, by decide⟩
    | x :: l, h4 => have := h4 0 x rfl; exact ⟨by simp only [firstOff]; omega, by simp only [firstOff]; omega⟩
  have hs : ∀ i t, i < l.length → lnStep (firstOff l) i (lnE (l.getD i lnD) ++ t) = (l.getD i lnD, t) := by
    intro i t hi
    obtain ⟨q1, q2, q3, q4, q5, q6, q7, q8, q9, q10⟩ := h4 i _ (ln_getD hi)
    have ho := off_at h i hi
    generalize l.getD i lnD = x at *
    obtain ⟨o, p, j, k, v⟩ := x
    simp only at *
    unfold lnStep lnE
    simp only
    rw [List.append_assoc, cutN_le 3 p _ (by omega) (by omega)]
    simp only
    rw [List.append_assoc, cutN_le 1 (j + 16 * k) _ (by omega) (by omega)]
    simp only
    rw [cutN_le 1 v _ (by omega) (by omega)]
    simp only [Prod.mk.injEq, Ln.mk.injEq, and_true, true_and]
    omega
  unfold lenL
  rw [cutN_le 1 (l.length : Int) _ (by omega) (by omega)]
  simp only [Int.toNat_natCast]
  rw [cutN_le 3 (firstOff l) _ hfo.1 hfo.2]
  simp only
  exact rowF_whole hs t
theorem partL_of {l : List Ln} {pl c : Int} (h : lnsB l pl c = true) (hp : pl ≤ 1048575) (t : List Int) : cutN 3 (partE l c ++ t) = (c, le (l.length : Int) 1 ++ (le (firstOff l) 3 ++ (l.flatMap lnE ++ t))) := by
  obtain ⟨_, h2, h3, _⟩ := lnsB_parts h
  unfold partE
  simp only [List.append_assoc]
  exact cutN_le 3 c _ h2 (by omega)
theorem lenI_of {s : St} (h : stands s = true) (t : List Int) : cutN 3 (le s.place 3 ++ (le (s.items.length : Int) 1 ++ (s.items.flatMap itE ++ t))) = (s.place, le (s.items.length : Int) 1 ++ (s.items.flatMap itE ++ t)) ∧ lenI (le s.place 3 ++ (le (s.items.length : Int) 1 ++ (s.items.flatMap itE ++ t))) = (s.items, t) := by
  obtain ⟨p1, p2, p3, p4, p5, p6⟩ := stands_parts h
  have i0 := itsB_len p3
  have hs : ∀ i t, i < s.items.length → itStep i (itE (s.items.getD i itD) ++ t) = (s.items.getD i itD, t) := by
    intro i t hi
    obtain ⟨q1, q2, q3, q4, q5, q6⟩ := itsB_parts p3 i _ (it_getD hi)
    unfold itStep itE
    rw [List.append_assoc, cutN_le 1 _ _ (by omega) (by omega)]
    simp only
    rw [List.append_assoc, cutN_le 3 _ _ (by omega) (by omega)]
    simp only
    rw [cutN_le 1 _ _ q5 (by omega)]
  have e1 := cutN_le 3 s.place (le (s.items.length : Int) 1 ++ (s.items.flatMap itE ++ t)) p1 (by omega)
  refine ⟨e1, ?_⟩
  unfold lenI
  rw [e1]
  simp only
  rw [cutN_le 1 (s.items.length : Int) _ (by omega) (by omega)]
  simp only [Int.toNat_natCast]
  exact rowF_whole hs t
theorem lenS_of {s : St} (h : stands s = true) : lenS (stE s) = s := by
  obtain ⟨p1, p2, p3, p4, p5, p6⟩ := stands_parts h
  have e0 : stE s = le s.place 3 ++ (le (s.items.length : Int) 1 ++ (s.items.flatMap itE ++ (partE s.l0 s.c0 ++ (partE s.l1 s.c1 ++ (partE s.l2 s.c2 ++ []))))) := by simp [stE]
  obtain ⟨e1, e2⟩ := lenI_of h (partE s.l0 s.c0 ++ (partE s.l1 s.c1 ++ (partE s.l2 s.c2 ++ [])))
  have e3 : tl0 (stE s) = partE s.l1 s.c1 ++ (partE s.l2 s.c2 ++ []) := by unfold tl0; rw [e0, e2]; simp only; rw [partL_of p4 p2]; simp only; rw [lenL_of p4 p2]
  have e4 : tl1 (stE s) = partE s.l2 s.c2 ++ [] := by unfold tl1; rw [e3, partL_of p5 p2]; simp only; rw [lenL_of p5 p2]
  unfold lenS
  rw [e3, e4, partL_of p5 p2, partL_of p6 p2, e0, e1, e2]
  simp only
  rw [partL_of p4 p2]
  simp only
  rw [lenL_of p4 p2, lenL_of p5 p2, lenL_of p6 p2]
theorem lenI_bytes {xs : List Int} (h : IsBytes xs) : IsBytes (lenI xs).2 := rowF_bytes itStep_bytes _ (cutN_bytes (cutN_bytes h))
theorem lenL_bytes {ys : List Int} (h : IsBytes ys) : IsBytes (lenL ys).2 := rowF_bytes (lnStep_bytes _) _ (cutN_bytes (cutN_bytes h))
theorem lenI_len (xs : List Int) : (lenI xs).2.length ≤ xs.length := Nat.le_trans (rowF_len itStep_len _ _) (Nat.le_trans (cutN_len _ _) (cutN_len _ _))
theorem lenL_len (ys : List Int) : (lenL ys).2.length ≤ ys.length := Nat.le_trans (rowF_len (lnStep_len _) _ _) (Nat.le_trans (cutN_len _ _) (cutN_len _ _))
theorem lnStep_in {f : Int} (hf : 0 ≤ f ∧ f < 16777216) (i : Nat) (ys : List Int) (hi : i < 256) (hy : IsBytes ys) : (lnStep f i ys).1.In := by
  have a1 := bd3 hy
  have a2 := bd1 (cutN_bytes (m := 3) hy)
  have a3 := bd1 (cutN_bytes (m := 1) (cutN_bytes (m := 3) hy))
  unfold lnStep
  simp only
  generalize (cutN 3 ys).1 = x1 at *
  generalize (cutN 1 (cutN 3 ys).2).1 = x2 at *
  generalize (cutN 1 (cutN 1 (cutN 3 ys).2).2).1 = x3 at *
  unfold Ln.In I64
  simp only
  omega
theorem itStep_in (i : Nat) (ys : List Int) (_ : i < 256) (hy : IsBytes ys) : (itStep i ys).1.In := by
  have a1 := bd1 hy
  have a2 := bd3 (cutN_bytes (m := 1) hy)
  have a3 := bd1 (cutN_bytes (m := 3) (cutN_bytes (m := 1) hy))
  unfold itStep
  simp only
  unfold It.In I64
  simp only
  omega
theorem lenL_in {ys : List Int} (h : IsBytes ys) : (∀ x ∈ (lenL ys).1, x.In) ∧ (lenL ys).1.length ≤ 255 := by
  have h1 := bd1 h
  have h2 := bd3 (cutN_bytes (m := 1) h)
  have h3 : IsBytes (cutN 3 (cutN 1 ys).2).2 := cutN_bytes (cutN_bytes h)
  unfold lenL
  generalize (cutN 3 (cutN 1 ys).2).1 = f at *
  generalize (cutN 3 (cutN 1 ys).2).2 = zs at *
  generalize hn : (cutN 1 ys).1.toNat = n at *
  exact ⟨rowF_all (p := Ln.In) (lnStep_in h2) (lnStep_bytes _) n (by omega) h3, by rw [rowF_length]; omega⟩
theorem lenI_in {xs : List Int} (h : IsBytes xs) : (∀ x ∈ (lenI xs).1, x.In) ∧ (lenI xs).1.length ≤ 255 := by
  have h1 := bd1 (cutN_bytes (m := 3) h)
  have h3 : IsBytes (cutN 1 (cutN 3 xs).2).2 := cutN_bytes (cutN_bytes h)
  unfold lenI
  generalize (cutN 1 (cutN 3 xs).2).2 = zs at *
  generalize hn : (cutN 1 (cutN 3 xs).2).1.toNat = n at *
  exact ⟨rowF_all (p := It.In) itStep_in itStep_bytes n (by omega) h3, by rw [rowF_length]; omega⟩
theorem tl0_bytes {xs : List Int} (h : IsBytes xs) : IsBytes (tl0 xs) := lenL_bytes (cutN_bytes (lenI_bytes h))
theorem tl1_bytes {xs : List Int} (h : IsBytes xs) : IsBytes (tl1 xs) := lenL_bytes (cutN_bytes (tl0_bytes h))
theorem i64_of {n : Int} (h : 0 ≤ n ∧ n < 16777216) : I64 n := ⟨by omega, by omega⟩
theorem st_mk {p c0 c1 c2 : Int} {it : List It} {l0 l1 l2 : List Ln} (hp : I64 p) (h0 : I64 c0) (h1 : I64 c1) (h2 : I64 c2) (hi : (∀ x ∈ it, x.In) ∧ it.length ≤ 255) (k0 : (∀ x ∈ l0, x.In) ∧ l0.length ≤ 255) (k1 : (∀ x ∈ l1, x.In) ∧ l1.length ≤ 255) (k2 : (∀ x ∈ l2, x.In) ∧ l2.length ≤ 255) : St.In ⟨p, it, l0, l1, l2, c0, c1, c2⟩ :=
  ⟨hp, h0, h1, h2, hi.1, k0.1, k1.1, k2.1, Nat.le_trans hi.2 (by decide), Nat.le_trans k0.2 (by decide), Nat.le_trans k1.2 (by decide), Nat.le_trans k2.2 (by decide)⟩
theorem lenS_in {xs : List Int} (h : IsBytes xs) : (lenS xs).In :=
  st_mk (i64_of (bd3 h)) (i64_of (bd3 (lenI_bytes h))) (i64_of (bd3 (tl0_bytes h))) (i64_of (bd3 (tl1_bytes h))) (lenI_in h) (lenL_in (cutN_bytes (m := 3) (lenI_bytes h))) (lenL_in (cutN_bytes (m := 3) (tl0_bytes h))) (lenL_in (cutN_bytes (m := 3) (tl1_bytes h)))
/-- What bytes are as a state, by the way back. -/
theorem lenS_reads {xs : List Int} (hx : IsBytes xs) : (stands (lenS xs) = true ∧ stE (lenS xs) = xs ∧ sinE xs = 0 ∧ sinS xs = lenS xs) ∨ ((stands (lenS xs) = false ∨ stE (lenS xs) ≠ xs) ∧ sinE xs = 50 ∧ sinS xs = noSt) := by
  rcases sin_cases hx with ⟨r, e1, e2, e3, e4⟩ | ⟨e1, e2, e3⟩
  · have : lenS xs = r := by rw [← e4]; exact lenS_of e3
    rw [this]
    exact .inl ⟨e3, e4, e1, e2⟩
  · refine .inr ⟨?_, e1, e2⟩
    rcases h : stands (lenS xs) with _ | _
    · exact .inl rfl
    · exact .inr (e3 _ h)
end Go.Proofs.Ytmbphhcgmdaoeaa
