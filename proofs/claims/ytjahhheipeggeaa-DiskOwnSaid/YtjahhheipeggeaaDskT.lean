/- What is proved: slices of acts as lists; the contract of the laws' own great. -/
import Derived.Test.YtjahhheipeggeaaDskS
namespace Go.Proofs.Ytjahhheipeggeaa
open Go.RowKit

def DAct.cells (a : DAct) : List Value := [.int .i64 a.k, .int .i64 a.s, .int .i64 a.n, .string a.b, .int .u64 a.lost]
def acts (l : List DAct) : List Value := l.flatMap DAct.cells
theorem acts_length (l : List DAct) : (acts l).length = l.length * 5 := flat_length _ 5 (fun _ => rfl) l
theorem acts_len {w : World} {lo hi : Nat} {a : Option Addr} {n : Nat} {l : List DAct} (h : Rg 5 w lo hi a n (acts l)) : l.length = n := by
  have := h.1
  rw [acts_length] at this
  omega
theorem acts_cell {w : World} {g o : Nat} {l : List DAct} (h : ∀ j u, (acts l)[j]? = some u → w.cell? ⟨g, o + j, none⟩ = some u) {k : Nat} {x : DAct} (hk : l[k]? = some x) :
    w.cell? ⟨g, o + k * 5, none⟩ = some (.int .i64 x.k) ∧ w.cell? ⟨g, o + k * 5 + 1, none⟩ = some (.int .i64 x.s) ∧ w.cell? ⟨g, o + k * 5 + 2, none⟩ = some (.int .i64 x.n) ∧ w.cell? ⟨g, o + k * 5 + 3, none⟩ = some (.string x.b) ∧ w.cell? ⟨g, o + k * 5 + 4, none⟩ = some (.int .u64 x.lost) := by
  obtain ⟨hl, rfl⟩ := List.getElem?_eq_some_iff.1 hk
  have f := fun j (hj : j < 5) => flat_at DAct.cells 5 (fun _ => rfl) l k j hl hj
  refine ⟨h _ _ (f 0 (by decide)), ?_, ?_, ?_, ?_⟩
  all_goals rw [Nat.add_assoc]
  · exact h _ _ (f 1 (by decide))
  · exact h _ _ (f 2 (by decide))
  · exact h _ _ (f 3 (by decide))
  · exact h _ _ (f 4 (by decide))
def slimA (x : DAct) : Bool := decide (x.b.size ≤ 1000)
def slimL (l : List DAct) : Bool := decide (l.length ≤ 100) && l.all slimA
set_option maxHeartbeats 1600000 in
theorem greatA_walk (hi : Nat) (a : Option Addr) (n c : Nat) (l : List DAct) (w : World) (hr : Rg 5 w 0 hi a n (acts l)) (hh : hi ≤ w.heap.size) (hn : n ≤ 140737488351232) :
    Calls Try.prog 27 #[.slice a n c] w fun e w' => e = .returned (.bool (!slimL l)) ∧ Below w.heap.size w w' := by
  have hlen := acts_len hr
  by_cases h1 : 100 < n
  · have HN := Lib.hid (show slimL l = false by unfold slimL; rw [decide_eq_false (by omega), Bool.false_and])
    clear hlen hr
    go_enter Try.func27, Try.ntmps27
    go_wp2
    go_ret
    exact ⟨ret_bool (by rw [HN.out]; rfl), Below.refl _ _⟩
  · have HL := Lib.hid hlen
    have HR := Lib.hid hr
    clear hlen hr
    go_enter Try.func27, Try.ntmps27
    go_wp2
    go_loopw [10] (fun i wr => ∃ k : Nat, k ≤ n ∧ i = .int .i64 k ∧ (l.take k).all slimA = true ∧ Below w.heap.size w wr) (fun i _ => n - (intOf i).toNat)
    case atStart => exact ⟨0, Nat.zero_le _, rfl, by simp, Below.refl _ _⟩
    case round =>
      obtain ⟨k, hk, rfl, hall, hbr⟩ := hrel
      by_cases hlt : k < n
      · obtain ⟨x, hx⟩ : ∃ x, l[k]? = some x := ⟨_, List.getElem?_eq_getElem (by rw [HL.out]; exact hlt)⟩
        obtain ⟨g, o, rfl, _, _, hc⟩ := (HR.out.far (hbr.mono hh)).addr (by omega)
        obtain ⟨c0, c1, c2, c3, c4⟩ := acts_cell hc hx
        clear hc
        have hb2 : Below w.heap.size w (wr.alloc (.cells #[.int .i64 x.k, .int .i64 x.s, .int .i64 x.n, .string x.b, .int .u64 x.lost] 47)) := hbr.alloc hbr.size _
        rcases hq : slimA x with _ | _
        · have HN := Lib.hid (show slimL l = false by unfold slimL; rw [all_no hx hq, Bool.and_false])
          have hq' : 1000 < x.b.size := by have := of_decide_eq_false hq; omega
          clear hx hall hq
          go_wp2
          go_ret
          exact ⟨ret_bool (by rw [HN.out]; rfl), hb2⟩
        · have HT := Lib.hid (all_succ _ _ k _ hx hall hq)
          have hq' : x.b.size ≤ 1000 := of_decide_eq_true hq
          clear hx hall hq
          go_wp2
          go_roundw
          case rel => exact ⟨k + 1, by omega, by go_num, HT.out, hb2⟩
          case measure => simp [intOf]; omega
      · obtain rfl : k = n := by omega
        have HS := Lib.hid (show slimL l = true by
          unfold slimL
          rw [List.take_of_length_le (by rw [HL.out]; exact Nat.le_refl _)] at hall
          rw [hall, decide_eq_true (by rw [HL.out]; omega)]
          rfl)
        clear hall
        go_wp2
        go_ret
        exact ⟨ret_bool (by rw [HS.out]; rfl), hbr⟩

/-! ### what acts make of a disk -/
theorem do_ok {d : Dsk} (x : DAct) (h : chkB d = true) : chkB (doD d x) = true := by
  unfold doD
  split
  · split
    · rename_i hp
      have ha := of_decide_eq_true (Bool.and_eq_true_iff.1 hp).2
      obtain ⟨k, hk⟩ := Int.eq_ofNat_of_zero_le ha.1
      rw [hk] at hp ⊢
      exact put_ok hp
    · exact h
  · split
    · exact sync_ok h
    · split
      · exact crash_ok _ h
      · exact h
theorem num_at {l : List Sec} {k : Nat} {s : Sec} (h : l[k]? = some s) : (l[k]?.getD noSec).n = s.n := by rw [h]; rfl
/-- Numbers that are sure never fall; those that stand but by a crash; and none that is sure is above what stands. -/
theorem do_rises {d : Dsk} (x : DAct) (h : chkB d = true) {k : Nat} {s t s' t' : Sec} (h1 : d.now[k]? = some s) (h2 : d.sure[k]? = some t) (h3 : (doD d x).now[k]? = some s') (h4 : (doD d x).sure[k]? = some t') :
    t.n ≤ t'.n ∧ (x.k ≠ 2 → s.n ≤ s'.n) ∧ t.n ≤ s'.n := by
  obtain ⟨r1, r2, r3⟩ := chkB_parts h
  have l1 := rowB_length r1
  have l2 := rowB_length r2
  have hts := leB_iff.1 r3 k s t h1 h2
  have hk : k < 33 := by
    have := (List.getElem?_eq_some_iff.1 h1).1
    omega
  unfold doD at h3 h4
  split at h3
  · rename_i e0
    rw [if_pos e0] at h4
    split at h3
    · rename_i hp
      rw [if_pos hp] at h4
      have ha := of_decide_eq_true (Bool.and_eq_true_iff.1 hp).2
      obtain ⟨j, hj⟩ := Int.eq_ofNat_of_zero_le ha.1
      rw [hj, Int.toNat_natCast] at h3 h4
      rw [put_sure, h2] at h4
      cases h4
      rw [put_at _ _ _ _ _ (by omega)] at h3
      split at h3
      · rename_i hc
        cases h3
        obtain ⟨rfl, hlt⟩ := hc
        rw [num_at h1] at hlt
        exact ⟨Int.le_refl _, fun _ => Int.le_of_lt hlt, Int.le_trans hts (Int.le_of_lt hlt)⟩
      · rw [h1] at h3
        cases h3
        exact ⟨Int.le_refl _, fun _ => Int.le_refl _, hts⟩
    · rename_i hp
      rw [if_neg hp, h2] at h4
      rw [h1] at h3
      cases h3
      cases h4
      exact ⟨Int.le_refl _, fun _ => Int.le_refl _, hts⟩
  · rename_i e0
    rw [if_neg e0] at h4
    split at h3
    · rename_i e1
      rw [if_pos e1, if_pos h] at h4
      have h5 : d.now[k]? = some s' := h3
      have h6 : d.now[k]? = some t' := h4
      rw [h1] at h5 h6
      cases h5
      cases h6
      exact ⟨hts, fun _ => Int.le_refl _, hts⟩
    · rename_i e1
      rw [if_neg e1] at h4
      split at h3
      · rename_i e2
        rw [if_pos e2, if_pos h] at h4
        have h5 : (keepRow d x.lost)[k]? = some s' := h3
        have h6 : (keepRow d x.lost)[k]? = some t' := h4
        rw [keepRow_at _ _ hk] at h5 h6
        cases h5
        cases h6
        refine ⟨?_, fun e => absurd e2 e, ?_⟩
        all_goals
          rcases keep_at (lost := x.lost) l1 l2 hk with ⟨e, _⟩ | ⟨e, _⟩
          · rw [h1] at e
            have := Option.some.inj e
            rw [← this]
            exact hts
          · rw [h2] at e
            have := Option.some.inj e
            rw [← this]
            exact Int.le_refl _
      · rename_i e2
        rw [if_neg e2, h2] at h4
        rw [h1] at h3
        cases h3
        cases h4
        exact ⟨Int.le_refl _, fun _ => Int.le_refl _, hts⟩
end Go.Proofs.Ytjahhheipeggeaa
