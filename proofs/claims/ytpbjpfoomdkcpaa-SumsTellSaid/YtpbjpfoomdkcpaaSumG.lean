/- What is proved: the contracts of the document's own Seal and Open (flumeref02): what each returns over any slice of bytes; nothing that was there before the call turns. -/
import Derived.Test.YtpbjpfoomdkcpaaSumE
import Derived.Test.YtpbjpfoomdkcpaaSumF
import Derived.Deep.RegionWith
namespace Go.Proofs.Ytpbjpfoomdkcpaa
open Go.RowKit

theorem and255 (n : Int) (h : 0 ≤ n ∧ n ≤ 4294967295) : bits .and .u32 n 255 = n % 256 := by
  obtain ⟨x, rfl⟩ := iu_of n h
  rw [show (255 : Int) = iu 255#32 by rfl, and_u32]
  unfold iu
  rw [BitVec.toNat_and, show (255#32).toNat = 2 ^ 8 - 1 by rfl, Nat.and_two_pow_sub_one_eq_mod]
  rfl
theorem le4 (n : Int) : le n 4 = [n % 256, n / 256 % 256, n / 65536 % 256, n / 16777216 % 256] := by
  show [n / 256 ^ 0 % 256, n / 256 ^ 1 % 256, n / 256 ^ 2 % 256, n / 256 ^ 3 % 256] = _
  rw [Int.pow_zero, Int.ediv_one]
  rfl
theorem Rd.new (w : World) (e : TypeId) (xs : List Int) : Rd (w.alloc (.cells (u8s xs).toArray e)) (w.heap.size + 1) (some ⟨w.heap.size, 0, none⟩) xs.length (u8s xs) := by
  refine ⟨u8s_length xs, .inr ⟨w.heap.size, 0, rfl, by omega, fun j u hu => ?_⟩⟩
  rw [cell_of_row _ w.heap.size (0 + j) _ e (0, 0) (heap_alloc_new w _), Nat.zero_add]
  simpa using hu
set_option maxHeartbeats 800000 in
theorem rseal_walk (a : Option Addr) (l c : Nat) (xs : List Int) (w : World) (hr : Rd w w.heap.size a l (u8s xs)) (hx : IsBytes xs) (hl : l ≤ 1000000) :
    Calls Try.prog 17 #[.slice a l c] w fun e w' =>
      ∃ a' c', e = .returned (.slice a' (l + 4) c') ∧ Rd w' w'.heap.size a' (l + 4) (u8s (xs ++ le (iu (sum xs)) 4)) ∧ l + 4 ≤ c' ∧ c' ≤ maxLen ∧ Below w.heap.size w w' := by
  have hlen : xs.length = l := by rw [← hr.1]; exact (u8s_length xs).symm
  have hsum := rsum_walk a l c xs w hr hx hl
  have hb := iu_bd (sum xs)
  have h4 := le4 (iu (sum xs))
  generalize iu (sum xs) = n at *
  have h0 := and255 n hb
  have h1 := and255 (n / 256) (by omega)
  have h2 := and255 (n / 65536) (by omega)
  have h3 : n / 16777216 % 256 = n / 16777216 := by omega
  rw [h3] at h4
  have H4 := Lib.hid h4
  obtain ⟨i0, hi, hz0, hz1, hz2⟩ := info_parts info_u8
  have hb0 := Below.refl w.heap.size w
  have hown0 := World.ownsRow_nil w w.heap.size 5 1
  clear h4 hx
  go_enter Try.func17, Try.ntmps17
  go_wp2_with (first
    | (go_at_call 13; refine hsum.mono ?_; rintro e w' ⟨rfl, rfl⟩)
    | (at_builtin; refine wpList_append_src _ rfl (.tmp 7) (.tmp 8) _ rfl i0 (.int .u8 0) 1 Try.underlying22 hi hz0 hz1 hz2 rfl rfl hb0 hown0 rfl hr (u8s_one _) (by unfold maxLen; omega) (by omega) ?_; intro v1 w1 hb1 hown1)
    | (at_builtin; refine wpList_append_src _ rfl (.tmp 10) (.tmp 25) _ rfl i0 (.int .u8 0) 1 Try.underlying22 hi hz0 hz1 hz2 rfl rfl (hb1.alloc hb1.size _) (hown1.alloc _) rfl (Rd.new w1 5 [n % 256, n / 256 % 256, n / 65536 % 256, n / 16777216]) (u8s_one _) (by unfold maxLen; omega) (by omega) ?_; intro v2 w2 hb2 hown2; obtain ⟨a2, c2, rfl, hc2, hm2, hr2⟩ := Rd.own hown2))
  rw [List.nil_append, ← u8s_append, ← H4.out, Nat.zero_add] at hr2
  rw [Nat.zero_add] at hc2
  clear hown1 hown2 hown0 hb1 hb0 hsum hr
  go_ret
  exact ⟨_, _, rfl, hr2, hc2, hm2, hb2⟩

/-! ### strings of bytes that are one -/
theorem byte_ofNat_inj {n m : Int} (hn : 0 ≤ n ∧ n ≤ 255) (hm : 0 ≤ m ∧ m ≤ 255) (h : UInt8.ofNat n.toNat = UInt8.ofNat m.toNat) : n = m := by
  have := congrArg UInt8.toNat h
  simp only [UInt8.toNat_ofNat'] at this
  omega
theorem map_bytes_inj : ∀ {xs ys : List Int}, IsBytes xs → IsBytes ys → (xs.map fun n => UInt8.ofNat n.toNat) = (ys.map fun n => UInt8.ofNat n.toNat) → xs = ys
  | [], [], _, _, _ => rfl
  | [], _ :: _, _, _, h => by simp at h
  | _ :: _, [], _, _, h => by simp at h
  | x :: xs, y :: ys, hx, hy, h => by
    simp only [List.map_cons, List.cons.injEq] at h
    rw [byte_ofNat_inj (hx x (by simp)) (hy y (by simp)) h.1, map_bytes_inj (fun b hb => hx b (by simp [hb])) (fun b hb => hy b (by simp [hb])) h.2]
theorem str_eq {xs ys : List Int} (hx : IsBytes xs) (hy : IsBytes ys) : ((strOfNums xs).toList == (strOfNums ys).toList) = decide (xs = ys) := by
  rw [str_list, str_list, Bool.eq_iff_iff, beq_iff_eq, decide_eq_true_eq]
  exact ⟨map_bytes_inj hx hy, fun h => by rw [h]⟩
theorem le_num4 {cs : List Int} (h : IsBytes cs) (hl : cs.length = 4) : le (num cs) 4 = cs := by
  match cs, hl, h with
  | [a, b, c, d], _, h =>
    have h1 := h a (by simp)
    have h2 := h b (by simp)
    have h3 := h c (by simp)
    have h4 := h d (by simp)
    rw [le4]
    simp only [num, List.cons.injEq]
    refine ⟨by omega, by omega, by omega, by omega, trivial⟩
theorem seal_same {xs : List Int} {m : Nat} (hx : IsBytes xs) (hl : xs.length = m + 4) :
    ((strOfNums (xs.take m ++ le (iu (sum (xs.take m))) 4)).toList == (strOfNums xs).toList) = okB xs := by
  have h4 : (xs.drop m).length = 4 := by rw [List.length_drop]; omega
  have hd : IsBytes (xs.drop m) := fun b hb => hx b (List.mem_of_mem_drop hb)
  rw [str_eq (isBytes_append (show IsBytes (xs.take m) from isBytes_part hx 0 m) (isBytes_le _ _)) hx, ← ok_long hl, Bool.eq_iff_iff, beq_iff_eq, decide_eq_true_eq]
  constructor
  · intro h
    have e := congrArg (List.drop m) h
    rw [List.drop_left' (by rw [List.length_take]; omega)] at e
    rw [← e, num_le4]
  · intro h
    rw [← h, le_num4 hd h4, List.take_append_drop]

set_option maxHeartbeats 400000 in
theorem ropen_short (a : Option Addr) (l c : Nat) (w : World) (hl : l < 4) :
    Calls Try.prog 9 #[.slice a l c] w fun e w' => e = .returned (.tuple #[.slice none 0 0, .int .i64 50]) ∧ Below w.heap.size w w' := by
  have hd : decide ((l : Int) - 4 < 0) = true := decide_eq_true (by omega)
  go_enter Try.func9, Try.ntmps9
  go_wp2
  go_quiet (fail)
  go_wp2
  go_ret2
  exact ⟨rfl, below_drewN w nq _⟩
set_option maxHeartbeats 800000 in
theorem ropen_long (g o m c : Nat) (xs : List Int) (w : World) (hr : Rd w w.heap.size (some ⟨g, o, none⟩) (m + 4) (u8s xs)) (hx : IsBytes xs) (hlc : m + 4 ≤ c) (hl : m ≤ 1000000) :
    Calls Try.prog 9 #[.slice (some ⟨g, o, none⟩) (m + 4) c] w fun e w' =>
      ∃ a' n' c', e = .returned (.tuple #[.slice a' n' c', .int .i64 (errOf xs)]) ∧ Rd w' w'.heap.size a' n' (u8s (opened xs)) ∧ n' ≤ c' ∧ n' ≤ m ∧ Below w.heap.size w w' := by
  have hlen : xs.length = m + 4 := by rw [← hr.1]; exact (u8s_length xs).symm
  have HX := Lib.hid hx
  have HL := Lib.hid hlen
  have hr1 := hr.part (i := 0) (k := m) (by omega)
  rw [Nat.add_zero, List.drop_zero] at hr1
  have hx1 : IsBytes (xs.take m) := isBytes_part hx 0 m
  have HX1 := Lib.hid hx1
  have hs2 := run_str Try.underlying22 Try.underlying5 Try.underlying9 (w := w.drew) (Rd.drew_ hr) c
  have hm0 : ((m : Int) < 0) = False := by simp
  have hse := seal_same hx hlen
  obtain ⟨i0, hi, hz0, hz1, hz2⟩ := info_parts info_u8
  clear hx hlen hx1
  rcases hk : okB xs with _ | _
  · rw [hk] at hse
    have HK := Lib.hid hk
    clear hk
    go_enter Try.func9, Try.ntmps9
    go_wp2
    go_region_with (go_at_call 17; refine (rseal_walk (some ⟨g, o, none⟩) m c (xs.take m) _ ?_ HX1.out (by omega)).mono ?_; exact Rd.drew_ hr1; rintro e w1 ⟨a1, c1, rfl, hrd, _, _, hb1⟩; have hs1 := run_str Try.underlying22 Try.underlying5 Try.underlying9 hrd c1; have hs3 := run_str Try.underlying22 Try.underlying5 Try.underlying9 (hr.far (((Below.refl _ w).drew).trans hb1)) c)
    all_goals
      go_wp2
      go_ret2
      refine ⟨none, 0, 0, by unfold errOf; rw [HK.out]; rfl, ?_, Nat.le_refl _, Nat.zero_le _, ((Below.refl _ w).drew).trans hb1⟩
      unfold opened
      rw [HK.out]
      exact Rd.nil _ _ _
  · rw [hk] at hse
    have HK := Lib.hid hk
    clear hk
    go_enter Try.func9, Try.ntmps9
    go_wp2
    go_region_with (go_at_call 17; refine (rseal_walk (some ⟨g, o, none⟩) m c (xs.take m) _ ?_ HX1.out (by omega)).mono ?_; exact Rd.drew_ hr1; rintro e w1 ⟨a1, c1, rfl, hrd, _, _, hb1⟩; have hs1 := run_str Try.underlying22 Try.underlying5 Try.underlying9 hrd c1; have hs3 := run_str Try.underlying22 Try.underlying5 Try.underlying9 (hr.far (((Below.refl _ w).drew).trans hb1)) c)
    all_goals
      have hbw := ((Below.refl w.heap.size w).drew).trans hb1
      have hown0 := World.ownsRow_nil w1 w.heap.size 5 1
      have hx0 := hr1.far hbw
      clear hs1 hs3 hrd hse
      go_wp2_with (at_builtin; refine wpList_append_src _ rfl (.tmp 21) (.tmp 24) _ rfl i0 (.int .u8 0) 1 Try.underlying22 hi hz0 hz1 hz2 rfl rfl hbw hown0 rfl hx0 (u8s_one _) (by unfold maxLen; omega) (by omega) ?_; intro v2 w2 hb2 hown2; obtain ⟨a2, c2, rfl, hc2, hm2, hr2⟩ := Rd.own hown2)
      rw [List.nil_append, Nat.zero_add] at hr2
      rw [Nat.zero_add] at hc2
      go_ret2
      refine ⟨_, _, _, by unfold errOf; rw [HK.out]; rfl, ?_, hc2, Nat.le_refl m, hb2⟩
      unfold opened
      rw [HK.out, HL.out, if_pos rfl, Nat.add_sub_cancel]
      exact hr2
theorem ropen_any (a : Option Addr) (l c : Nat) (xs : List Int) (w : World) (hr : Rd w w.heap.size a l (u8s xs)) (hx : IsBytes xs) (hlc : l ≤ c) (hl : l ≤ 1000000) :
    Calls Try.prog 9 #[.slice a l c] w fun e w' =>
      ∃ a' n' c', e = .returned (.tuple #[.slice a' n' c', .int .i64 (errOf xs)]) ∧ Rd w' w'.heap.size a' n' (u8s (opened xs)) ∧ n' ≤ c' ∧ n' ≤ l ∧ Below w.heap.size w w' := by
  have hlen : xs.length = l := by rw [← hr.1]; exact (u8s_length xs).symm
  by_cases h : l < 4
  · refine (ropen_short a l c w h).mono ?_
    rintro e w' ⟨rfl, hb⟩
    have hk : okB xs = false := by unfold okB; simp; omega
    refine ⟨none, 0, 0, by unfold errOf; rw [hk]; rfl, ?_, Nat.le_refl _, Nat.zero_le _, hb⟩
    unfold opened
    rw [hk]
    exact Rd.nil _ _ _
  · obtain ⟨m, rfl⟩ : ∃ m, l = m + 4 := ⟨l - 4, by omega⟩
    obtain ⟨_, h0 | ⟨g, o, rfl, _⟩⟩ := id hr
    · omega
    refine (ropen_long g o m c xs w hr hx hlc (by omega)).mono ?_
    rintro e w' ⟨a', n', c', h1, h2, h3, h4, h5⟩
    exact ⟨a', n', c', h1, h2, h3, by omega, h5⟩
end Go.Proofs.Ytpbjpfoomdkcpaa
