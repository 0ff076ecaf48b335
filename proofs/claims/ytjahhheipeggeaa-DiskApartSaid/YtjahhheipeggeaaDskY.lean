/- What is proved: what follows of two puts on plain disks: twice is once, and the order of two puts is not seen unless they differ in their bytes alone. -/
import Derived.Test.YtjahhheipeggeaaDskW
namespace Go.Proofs.Ytjahhheipeggeaa
open Go.RowKit

/-- An act, taken as a put. -/
def DAct.zero (x : DAct) : DAct := ⟨0, x.s, x.n, x.b, x.lost⟩
theorem do_zero (d : Dsk) (x : DAct) : doD d x.zero = if putOk d x.s x.n x.b then putD d x.s.toNat x.n x.b else d := rfl
theorem do_zero_no {d : Dsk} {x : DAct} (h : argOk x.s x.n x.b = false) : doD d x.zero = d := by
  rw [do_zero]
  unfold putOk
  rw [h, Bool.and_false]
  rfl
theorem do_zero_yes {d : Dsk} {x : DAct} (hk : chkB d = true) (h : argOk x.s x.n x.b = true) : doD d x.zero = putD d x.s.toNat x.n x.b := by
  rw [do_zero]
  unfold putOk
  rw [h, hk]
  rfl
theorem putD_twice (d : Dsk) (k : Nat) (n : Int) (b : ByteArray) (hk : k < d.now.length) : putD (putD d k n b) k n b = putD d k n b := by
  unfold putD
  split
  · rename_i h
    rw [if_neg]
    simp [hk]
  · rfl
theorem putD_comm (d : Dsk) (k k' : Nat) (n n' : Int) (b b' : ByteArray) (hk : k < d.now.length) (hk' : k' < d.now.length) (h : k = k' → n = n' → b = b') :
    putD (putD d k n b) k' n' b' = putD (putD d k' n' b') k n b := by
  by_cases e : k = k'
  · subst e
    have h := h rfl
    obtain ⟨z, hz⟩ : ∃ z, d.now[k]? = some z := ⟨_, List.getElem?_eq_getElem hk⟩
    by_cases h1 : z.n < n <;> by_cases h2 : z.n < n'
    · have q1 : putD d k n b = ⟨d.now.set k ⟨n, b⟩, d.sure⟩ := by unfold putD; rw [hz]; exact if_pos h1
      have q2 : putD d k n' b' = ⟨d.now.set k ⟨n', b'⟩, d.sure⟩ := by unfold putD; rw [hz]; exact if_pos h2
      rw [q1, q2]
      unfold putD
      simp only [List.getElem?_set, hk, if_true, Option.getD_some, List.set_set]
      rcases Int.lt_trichotomy n n' with g | g | g
      · rw [if_pos g, if_neg (by omega)]
      · rw [if_neg (by omega), if_neg (by omega), h g, g]
      · rw [if_neg (by omega), if_pos g]
    · have q1 : putD d k n b = ⟨d.now.set k ⟨n, b⟩, d.sure⟩ := by unfold putD; rw [hz]; exact if_pos h1
      have q2 : putD d k n' b' = d := by unfold putD; rw [hz]; exact if_neg h2
      rw [q2, q1]
      unfold putD
      simp only [List.getElem?_set, hk, if_true, Option.getD_some]
      rw [if_neg (by omega)]
    · have q1 : putD d k n b = d := by unfold putD; rw [hz]; exact if_neg h1
      have q2 : putD d k n' b' = ⟨d.now.set k ⟨n', b'⟩, d.sure⟩ := by unfold putD; rw [hz]; exact if_pos h2
      rw [q1, q2]
      unfold putD
      simp only [List.getElem?_set, hk, if_true, Option.getD_some]
      rw [if_neg (by omega)]
    · have q1 : putD d k n b = d := by unfold putD; rw [hz]; exact if_neg h1
      have q2 : putD d k n' b' = d := by unfold putD; rw [hz]; exact if_neg h2
      rw [q1, q2, q1]
  · have e' : k' ≠ k := fun h => e h.symm
    by_cases h1 : (d.now[k]?.getD noSec).n < n <;> by_cases h2 : (d.now[k']?.getD noSec).n < n'
    · have q1 : putD d k n b = ⟨d.now.set k ⟨n, b⟩, d.sure⟩ := if_pos h1
      have q2 : putD d k' n' b' = ⟨d.now.set k' ⟨n', b'⟩, d.sure⟩ := if_pos h2
      rw [q1, q2]
      unfold putD
      simp only [List.getElem?_set_ne e, List.getElem?_set_ne e']
      rw [if_pos h2, if_pos h1, List.set_comm _ _ e]
    · have q1 : putD d k n b = ⟨d.now.set k ⟨n, b⟩, d.sure⟩ := if_pos h1
      have q2 : putD d k' n' b' = d := if_neg h2
      rw [q2, q1]
      unfold putD
      simp only [List.getElem?_set_ne e]
      rw [if_neg h2]
    · have q1 : putD d k n b = d := if_neg h1
      have q2 : putD d k' n' b' = ⟨d.now.set k' ⟨n', b'⟩, d.sure⟩ := if_pos h2
      rw [q1, q2]
      unfold putD
      simp only [List.getElem?_set_ne e']
      rw [if_neg h1]
    · have q1 : putD d k n b = d := if_neg h1
      have q2 : putD d k' n' b' = d := if_neg h2
      rw [q1, q2, q1]
theorem argOk_at {s n : Int} {b : ByteArray} (h : argOk s n b = true) : 0 ≤ s ∧ s < 33 := by
  unfold argOk at h
  have := of_decide_eq_true h
  exact ⟨this.1, this.2.1⟩
theorem do_twice {d : Dsk} (x : DAct) (h : chkB d = true) : doD (doD d x.zero) x.zero = doD d x.zero := by
  rcases ha : argOk x.s x.n x.b with _ | _
  · rw [do_zero_no ha]
  · have hl := rowB_length (chkB_parts h).1
    have := argOk_at ha
    rw [do_zero_yes (do_ok _ h) ha, do_zero_yes h ha]
    exact putD_twice _ _ _ _ (by omega)
theorem do_comm {d : Dsk} (x y : DAct) (h : chkB d = true) (hd : x.s = y.s → x.n = y.n → x.b = y.b) : doD (doD d x.zero) y.zero = doD (doD d y.zero) x.zero := by
  have hl := rowB_length (chkB_parts h).1
  rcases ha : argOk x.s x.n x.b with _ | _
  · rw [do_zero_no (d := d) ha, do_zero_no ha]
  · rcases hb : argOk y.s y.n y.b with _ | _
    · rw [do_zero_no (d := d) hb, do_zero_no hb]
    · have q1 := argOk_at ha
      have q2 := argOk_at hb
      rw [do_zero_yes (do_ok _ h) hb, do_zero_yes (do_ok _ h) ha, do_zero_yes h ha, do_zero_yes h hb]
      exact putD_comm _ _ _ _ _ _ _ (by omega) (by omega) (fun e => hd (by omega))
end Go.Proofs.Ytjahhheipeggeaa
