/- What is proved: the contract of flumeref03's Dirty. -/
import Derived.Test.YtjahhheipeggeaaDskH
namespace Go.Proofs.Ytjahhheipeggeaa
open Go.RowKit

theorem info_int : (Try.prog.info? 3).map (fun i => (i.zero, i.size, i.bytes)) = some (some (.int .i64 0), 1, 8) := by kernel_rfl
set_option maxHeartbeats 1600000 in
theorem rdirty_no (lo hi : Nat) (v : Value) (d : Dsk) (w : World) (hd : Dk w lo hi v d) (hh : hi ≤ w.heap.size) (hk : chkB d = false) :
    Calls Try.prog 26 #[v] w fun e w' => e = .returned (.slice none 0 0) ∧ Below w.heap.size w w' := by
  obtain ⟨a, l, c, a', l', c', rfl, h1, h2, hc⟩ := hd
  obtain ⟨W1, e1, hb1, k0, k1, hsz⟩ := one_box w 24 (.slice a l c) (.slice a' l' c')
  have r1 := check_walk lo hi (.agg #[.slice a l c, .slice a' l' c']) d W1 ⟨a, l, c, a', l', c', rfl, h1.far (hb1.mono hh), h2.far (hb1.mono hh), hc⟩ (by omega)
  rw [chk_no hk] at r1
  clear hk h1 h2
  go_enter Try.func26, Try.ntmps26
  go_wp2_with fail
  refine r1.mono ?_
  rintro e w3 ⟨rfl, hb3⟩
  go_wp2
  go_ret
  exact ⟨rfl, hb1.trans (hb3.mono hb1.size)⟩
def DirtyR (W : World) (e : TypeId) (d : Dsk) (k : Nat) (v : Value) (wr : World) : Prop := Below W.heap.size W wr ∧ wr.ownsRow W.heap.size e 1 v (dirtyTo d k).length (nums (dirtyTo d k))
set_option maxHeartbeats 3200000 in
theorem rdirty_yes (lo hi : Nat) (v : Value) (d : Dsk) (w : World) (hd : Dk w lo hi v d) (hh : hi ≤ w.heap.size) (hk : chkB d = true) :
    Calls Try.prog 26 #[v] w fun e w' => ∃ a' n' c', e = .returned (.slice a' n' c') ∧ Rg 1 w' w.heap.size w'.heap.size a' n' (nums (dirtyD d)) ∧ n' ≤ c' ∧ c' ≤ maxLen ∧ Below w.heap.size w w' := by
  obtain ⟨i0, hi0, hz0, hz1, hz2⟩ := info_parts info_int
  obtain ⟨a, l, c, a', l', c', rfl, h1, h2, hc⟩ := hd
  obtain ⟨W1, e1, hb1, k0, k1, hsz⟩ := one_box w 24 (.slice a l c) (.slice a' l' c')
  have r1 := check_walk lo hi (.agg #[.slice a l c, .slice a' l' c']) d W1 ⟨a, l, c, a', l', c', rfl, h1.far (hb1.mono hh), h2.far (hb1.mono hh), hc⟩ (by omega)
  have HD := Lib.hid (show dirtyD d = dirtyTo d 33 by unfold dirtyD; rw [hk]; rfl)
  obtain ⟨hp1, hp2, _⟩ := chkB_parts hk
  have hl1 : l = 33 := by rw [← secs_len h1]; exact rowB_length hp1
  have hl2 : l' = 33 := by rw [← secs_len h2]; exact rowB_length hp2
  subst hl1 hl2
  have HL := Lib.hid (rowB_length hp1)
  have HL' := Lib.hid (rowB_length hp2)
  rw [chk_yes hk] at r1
  clear hk hp1 hp2
  go_enter Try.func26, Try.ntmps26
  go_wp2_with fail
  refine r1.mono ?_
  rintro e w3 ⟨rfl, hb3⟩
  have hB3 := hb1.trans (hb3.mono hb1.size)
  have q0 := (hb3.cell (p := ⟨w.heap.size, 0, none⟩) (show w.heap.size < _ by omega)).trans k0
  have q1 := (hb3.cell (p := ⟨w.heap.size, 1, none⟩) (show w.heap.size < _ by omega)).trans k1
  have hz3 := hb3.size
  have hR : DirtyR w3 3 d 0 (.slice none 0 0) w3 := ⟨Below.refl _ _, World.ownsRow_nil _ _ _ 1⟩
  obtain ⟨g, o, rfl, _, hg2, hcell⟩ := (h1.far (hB3.mono hh)).addr (by decide)
  obtain ⟨g', o', rfl, _, hg2', hcell'⟩ := (h2.far (hB3.mono hh)).addr (by decide)
  have HC := Lib.hid hcell
  have HC' := Lib.hid hcell'
  clear h1 h2 hcell hcell' k0 k1 e1 r1
  go_wp2
  go_loopw [3, 4] (fun v i wr => ∃ k : Nat, k ≤ 33 ∧ i = .int .i64 k ∧ DirtyR w3 3 d k v wr) (fun _ i _ => 33 - (intOf i).toNat)
  case atStart => exact ⟨0, Nat.zero_le _, rfl, hR⟩
  case round =>
    obtain ⟨k, hk, rfl, hbr, hor⟩ := hrel
    by_cases hlt : k < 33
    · obtain ⟨s, hs⟩ : ∃ s, d.now[k]? = some s := ⟨_, List.getElem?_eq_getElem (by rw [HL.out]; exact hlt)⟩
      obtain ⟨t, ht⟩ : ∃ s, d.sure[k]? = some s := ⟨_, List.getElem?_eq_getElem (by rw [HL'.out]; exact hlt)⟩
      have hdk : isDirty d k = !(s.n == t.n) := by unfold isDirty; rw [hs, ht]; rfl
      have c1 := (hbr.cell (p := ⟨g, o + k * 2, none⟩) (show g < _ by omega)).trans (secs_cell HC.out hs).1
      have c2 := (hbr.cell (p := ⟨g', o' + k * 2, none⟩) (show g' < _ by omega)).trans (secs_cell HC'.out ht).1
      have x0 := (hbr.cell (p := ⟨w.heap.size, 0, none⟩) (show w.heap.size < _ by omega)).trans q0
      have x1 := (hbr.cell (p := ⟨w.heap.size, 1, none⟩) (show w.heap.size < _ by omega)).trans q1
      have hki : (k : Int) < 33 := by omega
      have hk0 : (0 : Int) ≤ k := by omega
      rcases hq : (s.n == t.n) with _ | _
      · have HT := Lib.hid (dirty_yes (d := d) (k := k) (by rw [hdk, hq]; rfl))
        have HO := Lib.hid hor
        have hlen := dirty_len d k
        have hq' : (s.n != t.n) = true := by rw [bne, hq]; rfl
        clear hs ht hdk hor hR
        go_wp2
        go_quiet (fail)
        go_wp2_with (at_builtin; refine wpList_append_rg _ rfl (.tmp 25) (.tmp 27) _ rfl i0 _ 1 8 Try.underlying40 hi0 hz0 hz1 hz2 rfl (by decide) rfl ((hbr.trans (below_drewN wr nq _)).alloc hbr.size _) (HO.out.alloc _) rfl (Rg.new (size := 1) (n := 1) (wr.drewN nq) 3 #[.int .i64 (k : Int)] rfl) (by simp [Value.oneCell']) (by unfold maxLen; omega) (by omega) ?_; intro v5 w5 hb5 ho5 _)
        have hR5 : DirtyR w3 3 d (k + 1) v5 w5 := by
          refine ⟨hb5, ?_⟩
          rw [HT.out, nums_append, List.length_append]
          exact ho5
        clear hb5 ho5
        go_wp2
        go_roundw
        case rel => exact ⟨k + 1, by omega, by go_num, hR5⟩
        case measure => simp [intOf]; omega
      · have HT := Lib.hid (dirty_no (d := d) (k := k) (by rw [hdk, hq]; rfl))
        have HO := Lib.hid hor
        have hq' : (s.n != t.n) = false := by rw [bne, hq]; rfl
        clear hs ht hdk hor hR
        go_wp2
        go_quiet (fail)
        go_wp2
        go_roundw
        case rel => exact ⟨k + 1, by omega, by go_num, hbr.trans (below_drewN wr nq _), by rw [HT.out]; exact HO.out⟩
        case measure => simp [intOf]; omega
    · obtain rfl : k = 33 := by omega
      obtain ⟨a1, c1, rfl, hc1, hc2, hrg⟩ := Rg.own hor
      clear hor hR
      go_wp2
      go_ret
      exact ⟨_, _, _, rfl, by rw [HD.out]; exact hrg.wide hB3.size (Nat.le_refl _), hc1, hc2, hB3.trans (hbr.mono hB3.size)⟩
end Go.Proofs.Ytjahhheipeggeaa
