/- What is proved: where the lengths fit, what is cut from the front of bytes has just those bytes. Nothing here speaks of the program. What is proved: where the lengths fit, the state that was cut from bytes has just those bytes. Nothing here speaks of the program. -/
import Derived.Test.YtmbphhcgmdaoeaaRvX
namespace Go.Proofs.Ytmbphhcgmdaoeaa
open Go.RowKit

theorem cut_back {m : Nat} {ys : List Int} (hx : IsBytes ys) (hm : m ≤ ys.length) : le (cutN m ys).1 m ++ (cutN m ys).2 = ys ∧ (cutN m ys).2.length + m = ys.length := by
  unfold cutN
  rw [if_pos hm]
  have h := le_num (isBytes_take hx m)
  rw [List.length_take, Nat.min_eq_left hm] at h
  simp only
  rw [h, List.take_append_drop, List.length_drop]
  exact ⟨rfl, by omega⟩
section
variable {α : Type}
theorem row_back {step : Nat → List Int → α × List Int} {e : α → List Int} {z : Nat} (hb : ∀ i ys, IsBytes ys → IsBytes (step i ys).2) (hs : ∀ i ys, IsBytes ys → z ≤ ys.length → e (step i ys).1 ++ (step i ys).2 = ys ∧ (step i ys).2.length + z = ys.length) {ys : List Int} (hx : IsBytes ys) :
    ∀ n : Nat, n * z ≤ ys.length → (rowF step n ys).1.flatMap e ++ (rowF step n ys).2 = ys ∧ (rowF step n ys).2.length + n * z = ys.length
  | 0, _ => by simp [rowF]
  | n + 1, hn => by
    have hn' : n * z + z ≤ ys.length := by rw [Nat.add_mul, Nat.one_mul] at hn; exact hn
    obtain ⟨i1, i2⟩ := row_back hb hs hx n (by omega)
    obtain ⟨j1, j2⟩ := hs n (rowF step n ys).2 (rowF_bytes hb n hx) (by omega)
    unfold rowF
    simp only
    rw [List.flatMap_append, List.append_assoc, List.flatMap_singleton, j1, i1, Nat.add_mul, Nat.one_mul]
    exact ⟨rfl, by omega⟩
end
theorem wr_back (i : Nat) (ys : List Int) (hx : IsBytes ys) (h : 2 ≤ ys.length) : wrE (wrStep i ys).1 ++ (wrStep i ys).2 = ys ∧ (wrStep i ys).2.length + 2 = ys.length := by
  obtain ⟨a1, a2⟩ := cut_back (m := 1) hx (by omega)
  obtain ⟨b1, b2⟩ := cut_back (m := 1) (cutN_bytes (m := 1) hx) (by omega)
  unfold wrE wrStep
  simp only
  rw [List.append_assoc, b1, a1]
  exact ⟨rfl, by omega⟩
theorem it_back (i : Nat) (ys : List Int) (hx : IsBytes ys) (h : 5 ≤ ys.length) : itE (itStep i ys).1 ++ (itStep i ys).2 = ys ∧ (itStep i ys).2.length + 5 = ys.length := by
  obtain ⟨a1, a2⟩ := cut_back (m := 1) hx (by omega)
  obtain ⟨b1, b2⟩ := cut_back (m := 3) (cutN_bytes (m := 1) hx) (by omega)
  obtain ⟨c1, c2⟩ := cut_back (m := 1) (cutN_bytes (m := 3) (cutN_bytes (m := 1) hx)) (by omega)
  unfold itE itStep
  simp only
  rw [List.append_assoc, List.append_assoc, c1, b1, a1]
  exact ⟨rfl, by omega⟩
theorem ln_back (f : Int) (i : Nat) (ys : List Int) (hx : IsBytes ys) (h : 5 ≤ ys.length) : lnE (lnStep f i ys).1 ++ (lnStep f i ys).2 = ys ∧ (lnStep f i ys).2.length + 5 = ys.length := by
  obtain ⟨a1, a2⟩ := cut_back (m := 3) hx (by omega)
  obtain ⟨b1, b2⟩ := cut_back (m := 1) (cutN_bytes (m := 3) hx) (by omega)
  obtain ⟨c1, c2⟩ := cut_back (m := 1) (cutN_bytes (m := 1) (cutN_bytes (m := 3) hx)) (by omega)
  unfold lnE lnStep
  simp only
  rw [show (cutN 1 (cutN 3 ys).2).1 % 16 + 16 * ((cutN 1 (cutN 3 ys).2).1 / 16) = (cutN 1 (cutN 3 ys).2).1 by omega, List.append_assoc, List.append_assoc, c1, b1, a1]
  exact ⟨rfl, by omega⟩
/-- A record's bytes, where the count fits the length and Yes is 0 or 1. -/
theorem lenR_back {xs : List Int} (hx : IsBytes xs) (h5 : 5 ≤ xs.length) (hy : (cutN 1 (cutN 3 xs).2).1 ≤ 1) (hn : xs.length = 5 + 2 * (cutN 1 (cutN 1 (cutN 3 xs).2).2).1.toNat) : recB (lenR xs) = xs := by
  obtain ⟨a1, a2⟩ := cut_back (m := 3) hx (by omega)
  obtain ⟨b1, b2⟩ := cut_back (m := 1) (cutN_bytes (m := 3) hx) (by omega)
  obtain ⟨c1, c2⟩ := cut_back (m := 1) (cutN_bytes (m := 1) (cutN_bytes (m := 3) hx)) (by omega)
  have hy0 := (bd1 (cutN_bytes (m := 3) hx)).1
  have hn0 := (bd1 (cutN_bytes (m := 1) (cutN_bytes (m := 3) hx))).1
  have hbz : IsBytes (cutN 1 (cutN 1 (cutN 3 xs).2).2).2 := cutN_bytes (cutN_bytes (cutN_bytes hx))
  obtain ⟨r1, r2⟩ := row_back wrStep_bytes wr_back hbz (cutN 1 (cutN 1 (cutN 3 xs).2).2).1.toNat (by omega)
  have hlen := rowF_length wrStep (cutN 1 (cutN 1 (cutN 3 xs).2).2).1.toNat (cutN 1 (cutN 1 (cutN 3 xs).2).2).2
  have hnil : (rowF wrStep (cutN 1 (cutN 1 (cutN 3 xs).2).2).1.toNat (cutN 1 (cutN 1 (cutN 3 xs).2).2).2).2 = [] := List.eq_nil_of_length_eq_zero (by omega)
  rw [hnil, List.append_nil] at r1
  have hyn : yesN ((cutN 1 (cutN 3 xs).2).1 == 1) = (cutN 1 (cutN 3 xs).2).1 := by
    have : (cutN 1 (cutN 3 xs).2).1 = 0 ∨ (cutN 1 (cutN 3 xs).2).1 = 1 := by omega
    rcases this with e | e <;> rw [e] <;> rfl
  unfold recB lenR
  simp only
  rw [hyn, hlen, Int.toNat_of_nonneg hn0, r1, c1, b1, a1]
theorem lenR_yes {xs : List Int} (hx : IsBytes xs) (hb : recB (lenR xs) = xs) : inE xs = (if mayB (lenR xs) then 0 else 50) ∧ inR xs = (if mayB (lenR xs) then lenR xs else noRc) := by
  rcases lenR_reads hx with ⟨e1, _, e3, e4⟩ | ⟨e1, e3, e4⟩
  · rw [e1]; exact ⟨e3, e4⟩
  · rcases e1 with e1 | e1
    · rw [e1]; exact ⟨e3, e4⟩
    · exact absurd hb e1
theorem lenR_no {xs : List Int} (hx : IsBytes xs) (h : xs.length < 5 ∨ 1 < (cutN 1 (cutN 3 xs).2).1 ∨ xs.length ≠ 5 + 2 * (cutN 1 (cutN 1 (cutN 3 xs).2).2).1.toNat) : inE xs = 50 ∧ inR xs = noRc := by
  rcases lenR_reads hx with ⟨e1, e2, _, _⟩ | ⟨_, e3, e4⟩
  · exfalso
    have hl := recB_len (lenR xs)
    rw [e2] at hl
    have hw : (lenR xs).ws.length = (cutN 1 (cutN 1 (cutN 3 xs).2).2).1.toNat := rowF_length ..
    have hy : (cutN 1 (cutN 3 xs).2).1 = yesN (lenR xs).yes := by
      obtain ⟨p1, p2, _, _⟩ := mayB_parts e1
      have e : xs = le (lenR xs).place 3 ++ (le (yesN (lenR xs).yes) 1 ++ (le ((lenR xs).ws.length : Int) 1 ++ (lenR xs).ws.flatMap wrE)) := e2.symm
      generalize lenR xs = r at *
      have hyb : 0 ≤ yesN r.yes ∧ yesN r.yes < 256 ^ 1 := by unfold yesN; split <;> omega
      rw [e, cutN_le 3 r.place _ (by omega) (by omega)]
      simp only
      rw [cutN_le 1 (yesN r.yes) _ hyb.1 hyb.2]
    have hy1 : yesN (lenR xs).yes ≤ 1 := by unfold yesN; split <;> omega
    rw [hw] at hl
    omega
  · exact ⟨e3, e4⟩

theorem firstOff_row (f : Int) (zs : List Int) : ∀ n, 0 < n → firstOff (rowF (lnStep f) n zs).1 = f
  | 1, _ => by simp [rowF, firstOff, lnStep]
  | n + 2, _ => by
    have h := firstOff_row f zs (n + 1) (by omega)
    have hl := rowF_length (lnStep f) (n + 1) zs
    unfold rowF
    simp only
    generalize (rowF (lnStep f) (n + 1) zs).1 = l at *
    match l, hl with
    | x :: l, _ => exact h
/-- A partition's lines: the bytes fit, and there is no first offset where there is no line. -/
def FitL (ys : List Int) : Prop := 4 + 5 * (cutN 1 ys).1.toNat ≤ ys.length ∧ ((cutN 1 ys).1.toNat = 0 → (cutN 3 (cutN 1 ys).2).1 = 0)
theorem lenL_back {ys : List Int} (hx : IsBytes ys) (h : FitL ys) : le ((lenL ys).1.length : Int) 1 ++ (le (firstOff (lenL ys).1) 3 ++ ((lenL ys).1.flatMap lnE ++ (lenL ys).2)) = ys ∧ (lenL ys).2.length + 4 + 5 * (cutN 1 ys).1.toNat = ys.length := by
  obtain ⟨h1, h2⟩ := h
  obtain ⟨a1, a2⟩ := cut_back (m := 1) hx (by omega)
  obtain ⟨b1, b2⟩ := cut_back (m := 3) (cutN_bytes (m := 1) hx) (by omega)
  have hn0 := (bd1 hx).1
  have hbz : IsBytes (cutN 3 (cutN 1 ys).2).2 := cutN_bytes (cutN_bytes hx)
  obtain ⟨r1, r2⟩ := row_back (lnStep_bytes _) (ln_back (cutN 3 (cutN 1 ys).2).1) hbz (cutN 1 ys).1.toNat (by omega)
  have hlen : (lenL ys).1.length = (cutN 1 ys).1.toNat := rowF_length ..
  have hf : firstOff (lenL ys).1 = (cutN 3 (cutN 1 ys).2).1 := by
    by_cases hz : (cutN 1 ys).1.toNat = 0
    · rw [h2 hz]
      have : (lenL ys).1 = [] := List.eq_nil_of_length_eq_zero (by rw [hlen, hz])
      rw [this]; rfl
    · exact firstOff_row _ _ _ (by omega)
  rw [hlen, hf, Int.toNat_of_nonneg hn0]
  have r1' : (lenL ys).1.flatMap lnE ++ (lenL ys).2 = (cutN 3 (cutN 1 ys).2).2 := r1
  have r2' : (lenL ys).2.length + (cutN 1 ys).1.toNat * 5 = (cutN 3 (cutN 1 ys).2).2.length := r2
  rw [r1', b1, a1]
  exact ⟨rfl, by omega⟩
theorem part_back {ys : List Int} (hx : IsBytes ys) (h3 : 3 ≤ ys.length) (h : FitL (cutN 3 ys).2) : partE (lenL (cutN 3 ys).2).1 (cutN 3 ys).1 ++ (lenL (cutN 3 ys).2).2 = ys := by
  obtain ⟨a1, _⟩ := cut_back (m := 3) hx h3
  obtain ⟨b1, _⟩ := lenL_back (cutN_bytes (m := 3) hx) h
  unfold partE
  rw [List.append_assoc, List.append_assoc, List.append_assoc, b1, a1]
theorem lenI_back {xs : List Int} (hx : IsBytes xs) (h3 : 4 ≤ xs.length) (h : 4 + 5 * (cutN 1 (cutN 3 xs).2).1.toNat ≤ xs.length) : le (cutN 3 xs).1 3 ++ (le ((lenI xs).1.length : Int) 1 ++ ((lenI xs).1.flatMap itE ++ (lenI xs).2)) = xs := by
  obtain ⟨a1, a2⟩ := cut_back (m := 3) hx (by omega)
  obtain ⟨b1, b2⟩ := cut_back (m := 1) (cutN_bytes (m := 3) hx) (by omega)
  have hn0 := (bd1 (cutN_bytes (m := 3) hx)).1
  have hbz : IsBytes (cutN 1 (cutN 3 xs).2).2 := cutN_bytes (cutN_bytes hx)
  obtain ⟨r1, _⟩ := row_back itStep_bytes it_back hbz (cutN 1 (cutN 3 xs).2).1.toNat (by omega)
  have hlen : (lenI xs).1.length = (cutN 1 (cutN 3 xs).2).1.toNat := rowF_length ..
  have r1' : (lenI xs).1.flatMap itE ++ (lenI xs).2 = (cutN 1 (cutN 3 xs).2).2 := r1
  rw [hlen, Int.toNat_of_nonneg hn0, r1', b1, a1]
/-- A state's bytes, where all fits and none are left. -/
theorem lenS_back {xs : List Int} (hx : IsBytes xs) (h3 : 4 ≤ xs.length) (hi : 4 + 5 * (cutN 1 (cutN 3 xs).2).1.toNat ≤ xs.length)
    (p0 : 3 ≤ (lenI xs).2.length) (f0 : FitL (cutN 3 (lenI xs).2).2) (p1 : 3 ≤ (tl0 xs).length) (f1 : FitL (cutN 3 (tl0 xs)).2) (p2 : 3 ≤ (tl1 xs).length) (f2 : FitL (cutN 3 (tl1 xs)).2)
    (hend : (lenL (cutN 3 (tl1 xs)).2).2 = []) : stE (lenS xs) = xs := by
  have e0 := lenI_back hx h3 hi
  have e1 := part_back (lenI_bytes hx) p0 f0
  have e2 := part_back (tl0_bytes hx) p1 f1
  have e3 := part_back (tl1_bytes hx) p2 f2
  rw [hend, List.append_nil] at e3
  have t0 : tl0 xs = (lenL (cutN 3 (lenI xs).2).2).2 := rfl
  have t1 : tl1 xs = (lenL (cutN 3 (tl0 xs)).2).2 := rfl
  rw [← t0] at e1
  rw [← t1] at e2
  unfold stE lenS
  simp only
  rw [e3, e2, e1, e0]
end Go.Proofs.Ytmbphhcgmdaoeaa
