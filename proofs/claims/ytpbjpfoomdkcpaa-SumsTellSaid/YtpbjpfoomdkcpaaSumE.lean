/- What is proved: the contract of Open: what it returns over any slice of bytes; nothing that was there before the call turns. -/
import Derived.Test.YtpbjpfoomdkcpaaSumD
namespace Go.Proofs.Ytpbjpfoomdkcpaa
open Go.RowKit

/-- Bytes whose last four are the sum of those ahead. -/
def okB (xs : List Int) : Bool := decide (4 ≤ xs.length ∧ num (xs.drop (xs.length - 4)) = iu (sum (xs.take (xs.length - 4))))
def opened (xs : List Int) : List Int := if okB xs then xs.take (xs.length - 4) else []
def errOf (xs : List Int) : Int := if okB xs then 0 else 50
theorem Rd.part {w : World} {B : Nat} {g o n : Nat} {xs : List Int} (h : Rd w B (some ⟨g, o, none⟩) n (u8s xs)) {i k : Nat} (hk : i + k ≤ n) :
    Rd w B (some ⟨g, o + i, none⟩) k (u8s ((xs.drop i).take k)) := by
  obtain ⟨h1, h2⟩ := h
  rw [u8s_length] at h1
  refine ⟨by rw [u8s_length]; simp; omega, ?_⟩
  rcases h2 with h2 | ⟨g', o', ha, hg, hc⟩
  · exact .inl (by omega)
  · cases ha
    refine .inr ⟨g, o + i, rfl, hg, fun j u hu => ?_⟩
    rw [Nat.add_assoc]
    refine hc (i + j) u ?_
    have hj := (List.getElem?_eq_some_iff.1 hu).1
    rw [u8s_length] at hj
    simp at hj
    rw [← hu]
    simp only [u8s, List.getElem?_map, List.getElem?_take, List.getElem?_drop]
    rw [if_pos (by omega)]
theorem open_short (a : Option Addr) (l c : Nat) (w : World) (hl : l < 4) :
    Calls Try.prog 8 #[.slice a l c] w fun e w' => e = .returned (.tuple #[.slice none 0 0, .int .i64 50]) ∧ w = w' := by
  go_enter Try.func8, Try.ntmps8
  go_wp2
  go_ret2
  exact ⟨rfl, rfl⟩
theorem ok_long {xs : List Int} {m : Nat} (h : xs.length = m + 4) : (num (xs.drop m) == iu (sum (xs.take m))) = okB xs := by
  unfold okB
  rw [h, Nat.add_sub_cancel, Bool.eq_iff_iff, beq_iff_eq, decide_eq_true_eq]
  exact ⟨fun h => ⟨by omega, h⟩, fun h => h.2⟩
set_option maxHeartbeats 800000 in
theorem open_long (g o m c : Nat) (xs : List Int) (w : World) (hr : Rd w w.heap.size (some ⟨g, o, none⟩) (m + 4) (u8s xs)) (hx : IsBytes xs) (hlc : m + 4 ≤ c) (hl : m ≤ 1000000) :
    Calls Try.prog 8 #[.slice (some ⟨g, o, none⟩) (m + 4) c] w fun e w' =>
      ∃ a' n' c', e = .returned (.tuple #[.slice a' n' c', .int .i64 (errOf xs)]) ∧ Rd w' w'.heap.size a' n' (u8s (opened xs)) ∧ n' ≤ c' ∧ n' ≤ m ∧ Below w.heap.size w w' := by
  have hlen : xs.length = m + 4 := by rw [← hr.1]; exact (u8s_length xs).symm
  have HX := Lib.hid hx
  have HL := Lib.hid hlen
  have hr1 := hr.part (i := 0) (k := m) (by omega)
  have hr2 := hr.part (i := m) (k := 4) (by omega)
  rw [Nat.add_zero, List.drop_zero] at hr1
  rw [List.take_of_length_le (by rw [List.length_drop]; omega)] at hr2
  have hx1 : IsBytes (xs.take m) := isBytes_part hx 0 m
  have hx2 : IsBytes (xs.drop m) := fun b hb => hx b (List.mem_of_mem_drop hb)
  have hok := ok_long hlen
  have h4 : m + 4 - m = 4 := by omega
  have HX1 := Lib.hid hx1
  have HX2 := Lib.hid hx2
  clear hx hlen hx1 hx2
  rcases hk : okB xs with _ | _
  · rw [hk] at hok
    have HK := Lib.hid hk
    clear hk
    go_enter Try.func8, Try.ntmps8
    go_wp2
    go_quiet (fail)
    go_wp2_with fail
    refine (read_walk _ 4 _ _ w.heap.size (hr2.drewN nq) HX2.out).mono ?_
    rintro e w' ⟨rfl, rfl⟩
    go_wp2_with (go_at_call 12; refine (sum_walk (some ⟨g, o, none⟩) m m _ _ (hr1.drewN nq) HX1.out hl).mono ?_; rintro e w' ⟨rfl, rfl⟩)
    go_ret2
    refine ⟨none, 0, 0, by unfold errOf; rw [HK.out]; rfl, ?_, Nat.le_refl _, Nat.zero_le _, below_drewN w nq _⟩
    unfold opened
    rw [HK.out]
    exact Rd.nil _ _ _
  · rw [hk] at hok
    have HK := Lib.hid hk
    clear hk
    have hmk := run_make_row' (P := Try.prog) 22 5 (.int .u8 0) 1 Try.underlying22 info_u8 rfl .i64 .i64 m (by omega) (by omega)
    have hs := splice_head (xs.take m) m
    rw [List.length_take, HL.out, Nat.min_eq_left (by omega : m ≤ m + 4), Nat.sub_self, List.replicate_zero, List.append_nil] at hs
    have HS := Lib.hid hs
    clear hs
    go_enter Try.func8, Try.ntmps8
    go_wp2
    go_quiet (fail)
    go_wp2_with fail
    refine (read_walk _ 4 _ _ w.heap.size (hr2.drewN nq) HX2.out).mono ?_
    rintro e w' ⟨rfl, rfl⟩
    have hbd : Below w.heap.size w ((w.drewN nq).alloc (.cells (madeCells #[.int .u8 0] m) 5)) := (below_drewN w nq _).alloc (Nat.le_refl _) _
    have hx0 := hr1.far hbd
    have hg0 : ((w.drewN nq).alloc (.cells (madeCells #[.int .u8 0] m) 5)).heap[w.heap.size]? = some (.cells (u8s (List.replicate m 0)).toArray 5 (0, 0)) := heap_made (w.drewN nq) m 5
    go_wp2_with (first
      | (go_at_call 12; refine (sum_walk (some ⟨g, o, none⟩) m m _ _ (hr1.drewN nq) HX1.out hl).mono ?_; rintro e w' ⟨rfl, rfl⟩)
      | (with_reducible refine wpList_copy_splice (o := ⟨some 33, _, _, _, _, _⟩) rfl (.tmp 31) (.tmp 32) _ _ rfl 5 Try.underlying22 info_u8' (some ⟨w.heap.size, 0, none⟩) (some ⟨g, o, none⟩) m m m m rfl rfl w.heap.size 0 (u8s (List.replicate m 0)) 5 hg0 (u8s (xs.take m)) ?c1 ?c2 ?c3 (u8s_one _) w.heap.size w hbd (Nat.le_refl _) ?_))
    case c1 => rw [u8s_length, List.length_take, HL.out]; exact (Nat.min_eq_left (by omega)).trans (Nat.min_self m).symm
    case c2 =>
      intro h0 j v hv
      obtain ⟨_, h1 | ⟨g', o', e', _, hc⟩⟩ := hx0
      · subst h1; simp [u8s] at h0
      · cases e'
        exact hc j v hv
    case c3 => rw [u8s_length, u8s_length, List.length_replicate, List.length_take]; omega
    intro w3 hg3 hb3
    have hg3' := hg3.out
    rw [HS.out] at hg3'
    have ho := own_row (n := m) hg3' (Nat.le_refl _) (by rw [List.length_take, HL.out]; omega) (by unfold maxLen; omega)
    obtain ⟨a', c', e', hc1, hc2, hr3⟩ := Rd.own ho
    cases e'
    clear ho hg3' hg3 hg0 hx0 hbd hr1 hr2 hr hmk hok
    go_wp2
    go_ret2
    refine ⟨_, _, _, by unfold errOf; rw [HK.out]; rfl, ?_, hc1, Nat.le_refl _, hb3⟩
    unfold opened
    rw [HK.out, HL.out, if_pos rfl, Nat.add_sub_cancel]
    exact hr3
theorem open_any (a : Option Addr) (l c : Nat) (xs : List Int) (w : World) (hr : Rd w w.heap.size a l (u8s xs)) (hx : IsBytes xs) (hlc : l ≤ c) (hl : l ≤ 1000000) :
    Calls Try.prog 8 #[.slice a l c] w fun e w' =>
      ∃ a' n' c', e = .returned (.tuple #[.slice a' n' c', .int .i64 (errOf xs)]) ∧ Rd w' w'.heap.size a' n' (u8s (opened xs)) ∧ n' ≤ c' ∧ n' ≤ l ∧ Below w.heap.size w w' := by
  have hlen : xs.length = l := by rw [← hr.1]; exact (u8s_length xs).symm
  by_cases h : l < 4
  · refine (open_short a l c w h).mono ?_
    rintro e w' ⟨rfl, rfl⟩
    have hk : okB xs = false := by unfold okB; simp; omega
    refine ⟨none, 0, 0, by unfold errOf; rw [hk]; rfl, ?_, Nat.le_refl _, Nat.zero_le _, Below.refl _ _⟩
    unfold opened
    rw [hk]
    exact Rd.nil _ _ _
  · obtain ⟨m, rfl⟩ : ∃ m, l = m + 4 := ⟨l - 4, by omega⟩
    obtain ⟨_, h0 | ⟨g, o, rfl, _⟩⟩ := id hr
    · omega
    refine (open_long g o m c xs w hr hx hlc (by omega)).mono ?_
    rintro e w' ⟨a', n', c', h1, h2, h3, h4, h5⟩
    exact ⟨a', n', c', h1, h2, h3, by omega, h5⟩
end Go.Proofs.Ytpbjpfoomdkcpaa
