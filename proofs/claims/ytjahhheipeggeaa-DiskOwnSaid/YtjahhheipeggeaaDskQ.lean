/- What is proved: what follows of puts, syncs and crashes on plain disks: each disk that comes may be; a crash without bits is a sync; one behind a sync nothing. -/
import Derived.Test.YtjahhheipeggeaaDskL
namespace Go.Proofs.Ytjahhheipeggeaa
open Go.RowKit

theorem leB_iff {l m : List Sec} : leB l m = true ↔ ∀ (k : Nat) (s t : Sec), l[k]? = some s → m[k]? = some t → t.n ≤ s.n := by
  unfold leB
  rw [List.all_eq_true]
  constructor
  · intro h k s t hs ht
    exact of_decide_eq_true (h (s, t) (List.mem_of_getElem? (zip_at hs ht)))
  · intro h p hp
    obtain ⟨k, hk⟩ := List.mem_iff_getElem?.1 hp
    obtain ⟨h1, h2⟩ := List.getElem?_zip_eq_some.1 hk
    exact decide_eq_true (h k p.1 p.2 h1 h2)
theorem rowB_iff {l : List Sec} : rowB l = true ↔ l.length = 33 ∧ ∀ (k : Nat) (s : Sec), l[k]? = some s → secOk s = true := by
  unfold rowB
  rw [Bool.and_eq_true, decide_eq_true_eq, List.all_eq_true]
  constructor
  · rintro ⟨h1, h2⟩
    exact ⟨h1, fun k s hs => h2 s (List.mem_of_getElem? hs)⟩
  · rintro ⟨h1, h2⟩
    refine ⟨h1, fun s hs => ?_⟩
    obtain ⟨k, hk⟩ := List.mem_iff_getElem?.1 hs
    exact h2 k s hk
theorem chkB_mk {d : Dsk} (h1 : rowB d.now = true) (h2 : rowB d.sure = true) (h3 : leB d.now d.sure = true) : chkB d = true := by
  unfold chkB
  rw [h1, h2, h3]
  rfl
theorem le_same (l : List Sec) : leB l l = true := leB_iff.2 fun k s t hs ht => by rw [hs] at ht; cases ht; exact Int.le_refl _
theorem sync_ok {d : Dsk} (h : chkB d = true) : chkB ⟨d.now, d.now⟩ = true := by
  obtain ⟨h1, _, _⟩ := chkB_parts h
  exact chkB_mk h1 h1 (le_same _)
theorem keep_at {d : Dsk} {lost : Int} {k : Nat} (h1 : d.now.length = 33) (h2 : d.sure.length = 33) (hk : k < 33) : d.now[k]? = some (keepAt d lost k) ∧ bitI lost k = false ∨ d.sure[k]? = some (keepAt d lost k) ∧ bitI lost k = true := by
  unfold keepAt
  rcases hb : bitI lost k with _ | _
  · refine .inl ⟨?_, rfl⟩
    rw [if_neg (by decide), List.getElem?_eq_getElem (by omega)]
    rfl
  · refine .inr ⟨?_, rfl⟩
    rw [if_pos rfl, List.getElem?_eq_getElem (by omega)]
    rfl
def keepRow (d : Dsk) (lost : Int) : List Sec := (List.range 33).map (keepAt d lost)
theorem keepRow_at (d : Dsk) (lost : Int) {k : Nat} (hk : k < 33) : (keepRow d lost)[k]? = some (keepAt d lost k) := by simp [keepRow, hk]
theorem keepRow_len (d : Dsk) (lost : Int) : (keepRow d lost).length = 33 := by simp [keepRow]
theorem crash_eq (d : Dsk) (lost : Int) : crashD d lost = ⟨keepRow d lost, keepRow d lost⟩ := rfl
theorem keepRow_ok {d : Dsk} (lost : Int) (h : chkB d = true) : rowB (keepRow d lost) = true := by
  obtain ⟨h1, h2, _⟩ := chkB_parts h
  have l1 := rowB_length h1
  have l2 := rowB_length h2
  refine rowB_iff.2 ⟨keepRow_len _ _, fun k s hs => ?_⟩
  have hk := (List.getElem?_eq_some_iff.1 hs).1
  rw [keepRow_len] at hk
  rw [keepRow_at d lost hk] at hs
  cases hs
  rcases keep_at (lost := lost) l1 l2 hk with ⟨e, _⟩ | ⟨e, _⟩
  · exact (rowB_iff.1 h1).2 k _ e
  · exact (rowB_iff.1 h2).2 k _ e
theorem crash_ok {d : Dsk} (lost : Int) (h : chkB d = true) : chkB (crashD d lost) = true := by
  rw [crash_eq]
  exact chkB_mk (keepRow_ok lost h) (keepRow_ok lost h) (le_same _)
theorem bit_zero (k : Nat) : bitI 0 k = false := by
  unfold bitI
  rw [Int.zero_ediv]
  rfl
theorem crash_zero {d : Dsk} (h1 : d.now.length = 33) : crashD d 0 = ⟨d.now, d.now⟩ := by
  rw [crash_eq]
  have : keepRow d 0 = d.now := by
    apply List.ext_getElem?
    intro k
    by_cases hk : k < 33
    · rw [keepRow_at d 0 hk]
      unfold keepAt
      rw [bit_zero, if_neg (by decide), List.getElem?_eq_getElem (by omega)]
      rfl
    · rw [List.getElem?_eq_none (by rw [keepRow_len]; omega), List.getElem?_eq_none (by omega)]
  rw [this]
theorem crash_sync {l : List Sec} (lost : Int) (h1 : l.length = 33) : crashD ⟨l, l⟩ lost = ⟨l, l⟩ := by
  rw [crash_eq]
  have : keepRow ⟨l, l⟩ lost = l := by
    apply List.ext_getElem?
    intro k
    by_cases hk : k < 33
    · rw [keepRow_at _ lost hk]
      rcases keep_at (d := ⟨l, l⟩) (lost := lost) h1 h1 hk with ⟨e, _⟩ | ⟨e, _⟩ <;> exact e.symm
    · rw [List.getElem?_eq_none (by rw [keepRow_len]; omega), List.getElem?_eq_none (by omega)]
  rw [this]
theorem dirty_same (l : List Sec) : dirtyD ⟨l, l⟩ = [] := by
  unfold dirtyD
  split
  · unfold dirtyTo
    rw [List.filter_eq_nil_iff]
    intro j _
    simp [isDirty]
  · rfl
theorem new_ok : chkB newD = true := by decide +kernel
/-- What a put leaves of a sector that stands. -/
theorem put_at (d : Dsk) (k : Nat) (n : Int) (b : ByteArray) (j : Nat) (hk : k < d.now.length) : (putD d k n b).now[j]? = if j = k ∧ (d.now[k]?.getD noSec).n < n then some ⟨n, b⟩ else d.now[j]? := by
  unfold putD
  by_cases hlt : (d.now[k]?.getD noSec).n < n
  · rw [if_pos hlt]
    by_cases hj : j = k
    · subst hj
      rw [if_pos ⟨rfl, hlt⟩, List.getElem?_set_self hk]
    · rw [if_neg (fun h => hj h.1), List.getElem?_set_ne (Ne.symm hj)]
  · rw [if_neg hlt, if_neg (fun h => hlt h.2)]
theorem put_sure (d : Dsk) (k : Nat) (n : Int) (b : ByteArray) : (putD d k n b).sure = d.sure := by unfold putD; split <;> rfl
theorem put_len (d : Dsk) (k : Nat) (n : Int) (b : ByteArray) : (putD d k n b).now.length = d.now.length := by unfold putD; split <;> simp
theorem put_ok {d : Dsk} {k : Nat} {n : Int} {b : ByteArray} (h : putOk d k n b = true) : chkB (putD d k n b) = true := by
  obtain ⟨hc, ha⟩ := Bool.and_eq_true_iff.1 h
  obtain ⟨h1, h2, h3⟩ := chkB_parts hc
  obtain ⟨a1, a2, a3, a4, a5, a6⟩ := of_decide_eq_true ha
  have l1 := rowB_length h1
  have hk : k < d.now.length := by omega
  refine chkB_mk (rowB_iff.2 ⟨by rw [put_len]; exact l1, fun j s hs => ?_⟩) (by rw [put_sure]; exact h2) (leB_iff.2 fun j s t hs ht => ?_)
  · rw [put_at _ _ _ _ _ hk] at hs
    split at hs
    · cases hs
      exact decide_eq_true ⟨show 0 ≤ n by omega, a4, a6, fun e => absurd (show n = 0 from e) (by omega)⟩
    · exact (rowB_iff.1 h1).2 j s hs
  · rw [put_sure] at ht
    rw [put_at _ _ _ _ _ hk] at hs
    split at hs
    · rename_i hj
      cases hs
      obtain ⟨rfl, hlt⟩ := hj
      have := leB_iff.1 h3 j _ t (List.getElem?_eq_getElem hk) ht
      rw [List.getElem?_eq_getElem hk] at hlt
      have h4 : d.now[j].n < n := hlt
      show t.n ≤ n
      omega
    · exact leB_iff.1 h3 j s t hs ht
end Go.Proofs.Ytjahhheipeggeaa
