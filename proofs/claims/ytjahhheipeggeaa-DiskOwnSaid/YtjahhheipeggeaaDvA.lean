/- What is proved: the contracts of disk's isWrong, its closures, and where. -/
import Derived.Test.YtjahhheipeggeaaDskL
namespace Go.Proofs.Ytjahhheipeggeaa
open Go.RowKit

theorem size_nil {b : ByteArray} (h : b.toList = []) : b.size = 0 := by
  have : b = ⟨#[]⟩ := toList_inj (h.trans (by simp [ByteArray.toList_eq]))
  rw [this]
  rfl
set_option maxHeartbeats 1600000 in
theorem wrong_walk (i : Int) (s : Sec) (w : World) : Calls Try.prog 35 #[.int .i64 i, s.val] w fun e w' => e = .returned (.bool (!secOk s)) ∧ Below w.heap.size w w' := by
  obtain ⟨n, b⟩ := s
  simp only [Sec.val]
  obtain ⟨W1, e1, hb1, k0, k1, hsz⟩ := one_box w 35 (.int .i64 n) (.string b)
  by_cases h0 : n = 0
  · subst h0
    rcases hb : b.toList.isEmpty with _ | _
    · have HN := Lib.hid (show secOk ⟨0, b⟩ = false from decide_eq_false (by rintro ⟨_, _, _, h⟩; have := h rfl; simp only at this; rw [this] at hb; cases hb))
      go_enter Try.func35, Try.ntmps35
      go_wp2
      go_ret
      exact ⟨ret_bool (by rw [HN.out]; first | rfl | simp only [h3', decide_true, decide_false, Bool.not_true, Bool.not_false]), by first | exact hb1 | (rw [e1]; exact hb1)⟩
    · have hb' : b.toList = [] := by simpa using hb
      have HN := Lib.hid (show secOk ⟨0, b⟩ = true from decide_eq_true ⟨by simp only; omega, by simp only; omega, by simp only; rw [size_nil hb']; decide, fun _ => hb'⟩)
      go_enter Try.func35, Try.ntmps35
      go_wp2
      go_ret
      exact ⟨ret_bool (by rw [HN.out]; first | rfl | simp only [h3', decide_true, decide_false, Bool.not_true, Bool.not_false]), by first | exact hb1 | (rw [e1]; exact hb1)⟩
  · have h0' : (n == 0) = false := by simpa using h0
    by_cases h1 : n < 0
    · have HN := Lib.hid (show secOk ⟨n, b⟩ = false from decide_eq_false (by simp only; omega))
      go_enter Try.func35, Try.ntmps35
      go_wp2
      go_ret
      exact ⟨ret_bool (by rw [HN.out]; first | rfl | simp only [h3', decide_true, decide_false, Bool.not_true, Bool.not_false]), by first | exact hb1 | (rw [e1]; exact hb1)⟩
    by_cases h2 : 1048575 < n
    · have HN := Lib.hid (show secOk ⟨n, b⟩ = false from decide_eq_false (by simp only; omega))
      go_enter Try.func35, Try.ntmps35
      go_wp2
      go_ret
      exact ⟨ret_bool (by rw [HN.out]; first | rfl | simp only [h3', decide_true, decide_false, Bool.not_true, Bool.not_false]), by first | exact hb1 | (rw [e1]; exact hb1)⟩
    by_cases h3 : 640 < b.size
    · have h3' : (640 : Int) < (b.size : Int) := by omega
      have HN := Lib.hid (show secOk ⟨n, b⟩ = false from decide_eq_false (by simp only; omega))
      go_enter Try.func35, Try.ntmps35
      go_wp2
      go_ret
      exact ⟨ret_bool (by rw [HN.out]; first | rfl | simp only [h3', decide_true, decide_false, Bool.not_true, Bool.not_false]), by first | exact hb1 | (rw [e1]; exact hb1)⟩
    · have HN := Lib.hid (show secOk ⟨n, b⟩ = true from decide_eq_true ⟨by simp only; omega, by simp only; omega, by simp only; omega, fun h => absurd h h0⟩)
      have h3' : ¬ (640 : Int) < (b.size : Int) := by omega
      go_enter Try.func35, Try.ntmps35
      go_wp2
      go_ret
      exact ⟨ret_bool (by rw [HN.out]; first | rfl | simp only [h3', decide_true, decide_false, Bool.not_true, Bool.not_false]), by first | exact hb1 | (rw [e1]; exact hb1)⟩
set_option maxHeartbeats 1600000 in
theorem above_walk (k : Nat) (s : Sec) (tn : Int) (Q g o c : Nat) (w : World) (c0 : w.cell? ⟨Q, 0, none⟩ = some (.slice (some ⟨g, o, none⟩) 33 c)) (cn : w.cell? ⟨g, o + k * 2, none⟩ = some (.int .i64 tn)) (hk : k < 33) (hQ : Q < w.heap.size) (hg : g < w.heap.size) :
    Calls Try.prog 36 #[.int .i64 k, s.val, .pointer (some ⟨Q, 0, none⟩)] w fun e w' => e = .returned (.bool (decide (tn < s.n))) ∧ Below w.heap.size w w' := by
  obtain ⟨n, b⟩ := s
  simp only [Sec.val]
  obtain ⟨W1, e1, hb1, k0, k1, hsz⟩ := one_box w 35 (.int .i64 n) (.string b)
  have d0 := (hb1.cell (p := ⟨Q, 0, none⟩) hQ).trans c0
  have dn := (hb1.cell (p := ⟨g, o + k * 2, none⟩) hg).trans cn
  have hki : (k : Int) < 33 := by omega
  have hk0 : (0 : Int) ≤ k := by omega
  go_enter Try.func36, Try.ntmps36
  go_wp2
  go_quiet (fail)
  go_wp2
  go_ret
  exact ⟨rfl, hb1.trans (below_drewN _ _ _)⟩
set_option maxHeartbeats 1600000 in
theorem unsure_walk (k : Nat) (s : Sec) (tn : Int) (Q g o c : Nat) (w : World) (c0 : w.cell? ⟨Q, 1, none⟩ = some (.slice (some ⟨g, o, none⟩) 33 c)) (cn : w.cell? ⟨g, o + k * 2, none⟩ = some (.int .i64 tn)) (hk : k < 33) (hQ : Q < w.heap.size) (hg : g < w.heap.size) :
    Calls Try.prog 40 #[.int .i64 k, s.val, .pointer (some ⟨Q, 0, none⟩)] w fun e w' => e = .returned (.bool (!(s.n == tn))) ∧ Below w.heap.size w w' := by
  obtain ⟨n, b⟩ := s
  simp only [Sec.val]
  obtain ⟨W1, e1, hb1, k0, k1, hsz⟩ := one_box w 35 (.int .i64 n) (.string b)
  have d0 := (hb1.cell (p := ⟨Q, 1, none⟩) hQ).trans c0
  have dn := (hb1.cell (p := ⟨g, o + k * 2, none⟩) hg).trans cn
  have hki : (k : Int) < 33 := by omega
  have hk0 : (0 : Int) ≤ k := by omega
  go_enter Try.func40, Try.ntmps40
  go_wp2
  go_quiet (fail)
  go_wp2
  go_ret
  exact ⟨rfl, hb1.trans (below_drewN _ _ _)⟩

def hitAt (p : Nat → Sec → Bool) (xs : List Sec) (j : Nat) : Bool := match xs[j]? with | some s => p j s | none => false
def whereTo (p : Nat → Sec → Bool) (xs : List Sec) (k : Nat) : List Nat := (List.range k).filter (hitAt p xs)
theorem whereTo_yes {p : Nat → Sec → Bool} {xs : List Sec} {k : Nat} {s : Sec} (hs : xs[k]? = some s) (h : p k s = true) : whereTo p xs (k + 1) = whereTo p xs k ++ [k] := by
  unfold whereTo
  have : hitAt p xs k = true := by unfold hitAt; rw [hs]; exact h
  rw [List.range_succ, List.filter_append, List.filter_cons, this]
  rfl
theorem whereTo_no {p : Nat → Sec → Bool} {xs : List Sec} {k : Nat} {s : Sec} (hs : xs[k]? = some s) (h : p k s = false) : whereTo p xs (k + 1) = whereTo p xs k := by
  unfold whereTo
  have : hitAt p xs k = false := by unfold hitAt; rw [hs]; exact h
  rw [List.range_succ, List.filter_append, List.filter_cons, this]
  simp
theorem whereTo_len (p : Nat → Sec → Bool) (xs : List Sec) (k : Nat) : (whereTo p xs k).length ≤ k := by
  have := List.length_filter_le (hitAt p xs) (List.range k)
  simpa [whereTo] using this
set_option maxHeartbeats 3200000 in
theorem where_walk (f : FuncId) (caps : Array Value) (p : Nat → Sec → Bool) (lo hi : Nat) (a : Option Addr) (l c : Nat) (xs : List Sec) (w : World) (h : Rg 2 w lo hi a l (secs xs)) (hh : hi ≤ w.heap.size) (hl : l ≤ 60) (hgo : ∀ args W, (callFunc f args).run Try.prog W = .ok (.enter f args) W)
    (hask : ∀ (k : Nat) (s : Sec) (W : World), xs[k]? = some s → Below w.heap.size w W → Calls Try.prog f (#[.int .i64 k, s.val] ++ caps) W fun e W' => e = .returned (.bool (p k s)) ∧ Below W.heap.size W W') :
    Calls Try.prog 37 #[.slice a l c, .func (.func f) #[] caps] w fun e w' => ∃ a' n' c', e = .returned (.slice a' n' c') ∧ Rg 1 w' w.heap.size w'.heap.size a' n' (nums (whereTo p xs l)) ∧ n' ≤ c' ∧ c' ≤ maxLen ∧ Below w.heap.size w w' := by
  obtain ⟨i0, hi0, hz0, hz1, hz2⟩ := info_parts info_int
  have hx := secs_len h
  have HX := Lib.hid hx
  have H := Lib.hid h
  have HK := Lib.hid hask
  clear hx h hask
  go_enter Try.func37, Try.ntmps37
  go_wp2
  go_loopw [5, 10] (fun v i wr => ∃ k : Nat, k ≤ l ∧ i = .int .i64 k ∧ Below w.heap.size w wr ∧ wr.ownsRow w.heap.size 3 1 v (whereTo p xs k).length (nums (whereTo p xs k))) (fun _ i _ => l - (intOf i).toNat)
  case atStart => exact ⟨0, Nat.zero_le _, rfl, Below.refl _ _, World.ownsRow_nil _ _ _ 1⟩
  case round =>
    obtain ⟨k, hk, rfl, hbr, hor⟩ := hrel
    by_cases hlt : k < l
    · obtain ⟨s, hs⟩ : ∃ s, xs[k]? = some s := ⟨_, List.getElem?_eq_getElem (by rw [HX.out]; exact hlt)⟩
      obtain ⟨g, o, rfl, _, hg2, hcell⟩ := (H.out.far (hbr.mono hh)).addr (by omega)
      obtain ⟨c1, c2⟩ := secs_cell hcell hs
      have hki : (k : Int) < l := by omega
      have hk0 : (0 : Int) ≤ k := by omega
      obtain ⟨W1, e1, hb1, k0, k1, hsz⟩ := one_box wr 35 (.int .i64 s.n) (.string s.b)
      have r1 := HK.out k s W1 hs (hbr.trans (hb1.mono hbr.size))
      simp only [Sec.val] at r1
      clear hcell
      rcases hq : p k s with _ | _
      · have HT := Lib.hid (whereTo_no (p := p) hs hq)
        have HO := Lib.hid hor
        rw [hq] at r1
        clear hs hq hor
        go_wp2_with fail
        refine r1.mono ?_
        rintro e w3 ⟨rfl, hb3⟩
        have hb4 := hb_far hb1 hb3
        have x4 := own_below HO.out hb4
        have x0 := hbr.trans (hb4.mono hbr.size)
        clear k0 k1 c1 c2 r1 e1
        go_wp2
        go_roundw
        case rel => exact ⟨k + 1, by omega, by go_num, x0, by rw [HT.out]; exact x4⟩
        case measure => simp [intOf]; omega
      · have HT := Lib.hid (whereTo_yes (p := p) hs hq)
        have HO := Lib.hid hor
        have hlen := whereTo_len p xs k
        rw [hq] at r1
        clear hs hq hor
        go_wp2_with fail
        refine r1.mono ?_
        rintro e w3 ⟨rfl, hb3⟩
        have hb4 := hb_far hb1 hb3
        have x4 := own_below HO.out hb4
        have x0 := hbr.trans (hb4.mono hbr.size)
        have hz4 := x0.size
        clear k0 k1 c1 c2 r1 e1
        go_wp2_with (at_builtin; refine wpList_append_rg _ rfl (.tmp 19) (.tmp 21) _ rfl i0 _ 1 8 Try.underlying40 hi0 hz0 hz1 hz2 rfl (by decide) rfl (x0.alloc hz4 _) (x4.alloc _) rfl (Rg.new (size := 1) (n := 1) w3 3 #[.int .i64 (k : Int)] rfl) (by simp [Value.oneCell']) (by unfold maxLen; omega) (by omega) ?_; intro v5 w5 hb5 ho5 _)
        have hR5 : w5.ownsRow w.heap.size 3 1 v5 (whereTo p xs (k + 1)).length (nums (whereTo p xs (k + 1))) := by
          rw [HT.out, nums_append, List.length_append]
          exact ho5
        clear ho5
        go_wp2
        go_roundw
        case rel => exact ⟨k + 1, by omega, by go_num, hb5, hR5⟩
        case measure => simp [intOf]; omega
    · obtain rfl : k = l := by omega
      obtain ⟨a1, c1, rfl, hc1, hc2, hrg⟩ := Rg.own hor
      clear hor
      go_wp2
      go_ret
      exact ⟨_, _, _, rfl, hrg, hc1, hc2, hbr⟩
end Go.Proofs.Ytjahhheipeggeaa
