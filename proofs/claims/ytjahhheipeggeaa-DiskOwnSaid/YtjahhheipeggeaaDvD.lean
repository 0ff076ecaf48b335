/- What is proved: appends onto a full slice of another's; the contracts of slices.Clone and disk's with. -/
import Derived.Test.YtjahhheipeggeaaDvC
import Derived.Lib.LazyBuf
namespace Go.Proofs.Ytjahhheipeggeaa
open Go.RowKit

section
variable {P : Program}
theorem run_append_full {W : World} {e : TypeId} (t ty : TypeId) (i : TypeInfo) (z : Value) (size bytes : Nat) (ht : P.underlying t = some (.slice e)) (hi : P.info? e = some i) (hz : i.zero = some z)
    (hsize : i.size = size) (hby : i.bytes = bytes) (hzs : z.cells.size = size) (hsz : 0 < size) {w : World} (hbel : Below W.heap.size W w) {lo0 B0 n : Nat} {ad : Addr} {olds : List Value} (h0 : Rg size w lo0 B0 (some ad) n olds)
    {lo B : Nat} {a : Option Addr} {m : Nat} {news : List Value} (hr : Rg size w lo B a m news) (hm : 0 < m) (c : Nat)
    (h63 : n + m ≤ maxLen) (hbytes : (n + m) * bytes ≤ 140737488355328) :
    ∃ g' c' w', (Builtin.append_ #[t, t] ty #[.slice (some ad) n n, .slice a m c]).run P w = .ok (.slice (some ⟨g', 0, none⟩) (n + m) c') w' ∧ w.heap.size ≤ g' ∧ g' < w'.heap.size ∧ w'.ownsRow w.heap.size e size (.slice (some ⟨g', 0, none⟩) (n + m) c') (n + m) (olds ++ news) ∧ Below W.heap.size W w' ∧ Below w.heap.size w w' := by
  obtain ⟨g, o, rfl, _, _, _⟩ := hr.addr hm
  obtain ⟨v', w', hrun, r1, r2⟩ := run_append_arg_grows (P := P) w t ty e i z size bytes ht hi hz hsize hby hzs hsz ad n n olds h0.1 (h0.holds _ rfl) ⟨g, o, none⟩ m c news hr.1 (hr.holds _ rfl) (by omega) h63 hbytes
  obtain ⟨g', c', rfl, h3, h4⟩ := own_at r1 (by omega)
  exact ⟨g', c', w', hrun, h3, h4, r1, hbel.grown r2 hbel.size (by simp), (Below.refl _ _).grown r2 (Nat.le_refl _) (by simp)⟩
theorem wp_append_full {w : World} {o : Oper} {a : Act} {K : Act → World → Prop} {Q : Exit → Act → World → Prop} (s x : Operand) (t : TypeId)
    (ho : o.op = .call { callee := .builtin .append, args := #[s, x], argTypes := #[t, t] })
    (W : World) (e : TypeId) (i : TypeInfo) (z : Value) (size bytes : Nat) (ht : P.underlying t = some (.slice e)) (hi : P.info? e = some i) (hz : i.zero = some z)
    (hsize : i.size = size) (hby : i.bytes = bytes) (hzs : z.cells.size = size) (hsz : 0 < size) (ad : Addr) (n : Nat) (hs : a.eval s = .slice (some ad) n n)
    (lo B : Nat) (A : Option Addr) (m c : Nat) (news : List Value) (hx : a.eval x = .slice A m c) (hbel : Below W.heap.size W w) (lo0 B0 : Nat) (olds : List Value) (h0 : Rg size w lo0 B0 (some ad) n olds) (hr : Rg size w lo B A m news) (hm : 0 < m)
    (h63 : n + m ≤ maxLen) (hbytes : (n + m) * bytes ≤ 140737488355328)
    (h : ∀ g' c' w', w.heap.size ≤ g' → g' < w'.heap.size → w'.ownsRow w.heap.size e size (.slice (some ⟨g', 0, none⟩) (n + m) c') (n + m) (olds ++ news) → Below W.heap.size W w' → Below w.heap.size w w' → K (a.put o.dst (.slice (some ⟨g', 0, none⟩) (n + m) c')) w') : o.wp P a w K Q := by
  obtain ⟨g', c', w', hrun, r1, r2, r3, r4, r5⟩ := run_append_full (P := P) t o.type i z size bytes ht hi hz hsize hby hzs hsz hbel h0 hr hm c h63 hbytes
  unfold Oper.wp execOp
  simp only [ho, resolve, invoke, builtin, Sem.run_bind, Sem.run_pure, Result.andThen_ok, List.map_toArray, List.map_cons, List.map_nil, hs, hx, hrun]
  exact h g' c' w' r1 r2 r3 r4 r5
theorem step_append_full {w : World} {ops : Array Oper} {o : Oper} {a : Act} {K : Act → World → Prop} {Q : Exit → Act → World → Prop} {E : Prop} (hgd : o.guard = none) (s x : Operand) (t : TypeId)
    (ho : o.op = .call { callee := .builtin .append, args := #[s, x], argTypes := #[t, t] })
    (W : World) (e : TypeId) (i : TypeInfo) (z : Value) (size bytes : Nat) (ht : P.underlying t = some (.slice e)) (hi : P.info? e = some i) (hz : i.zero = some z)
    (hsize : i.size = size) (hby : i.bytes = bytes) (hzs : z.cells.size = size) (hsz : 0 < size) (ad : Addr) (n : Nat) (hs : a.eval s = .slice (some ad) n n)
    (lo B : Nat) (A : Option Addr) (m c : Nat) (news : List Value) (hx : a.eval x = .slice A m c) (hbel : Below W.heap.size W w) (lo0 B0 : Nat) (olds : List Value) (h0 : Rg size w lo0 B0 (some ad) n olds) (hr : Rg size w lo B A m news) (hm : 0 < m)
    (h63 : n + m ≤ maxLen) (hbytes : (n + m) * bytes ≤ 140737488355328)
    (h : ∀ g' c' w', w.heap.size ≤ g' → g' < w'.heap.size → w'.ownsRow w.heap.size e size (.slice (some ⟨g', 0, none⟩) (n + m) c') (n + m) (olds ++ news) → Below W.heap.size W w' → Below w.heap.size w w' → K (a.put o.dst (.slice (some ⟨g', 0, none⟩) (n + m) c')) w') :
    if Region.wanted o (yielded ops a.tmps) = true then Oper.wp P o a w K Q else E := by
  have hw : Region.wanted o (yielded ops a.tmps) = true := by simp [Region.wanted, hgd]
  rw [if_pos hw]
  exact wp_append_full s x t ho W e i z size bytes ht hi hz hsize hby hzs hsz ad n hs lo B A m c news hx hbel lo0 B0 olds h0 hr hm h63 hbytes h
end

set_option maxHeartbeats 1600000 in
theorem clone_walk (lo hi : Nat) (a : Option Addr) (l c : Nat) (xs : List Sec) (w : World) (h1 : Rg 2 w lo hi a l (secs xs)) (hh : hi ≤ w.heap.size) (hl : 0 < l) (hm : l ≤ 1000000) :
    Calls Try.prog 32 #[.slice a l c] w fun e w' => ∃ g c', e = .returned (.slice (some ⟨g, 0, none⟩) l c') ∧ w.heap.size ≤ g ∧ g < w'.heap.size ∧ w'.ownsRow w.heap.size 35 2 (.slice (some ⟨g, 0, none⟩) l c') l (secs xs) ∧ Below w.heap.size w w' := by
  obtain ⟨i0, hi0, hz0, hz1, hz2⟩ := info_parts info_sec
  obtain ⟨g, o, rfl, hg1, hg2, hcell⟩ := h1.addr hl
  have hb1 : Below w.heap.size w (w.alloc (.cells #[] 35)) := (Below.refl _ _).alloc (Nat.le_refl _) _
  have h1' := h1.far (hb1.mono hh)
  have hz1' : (w.alloc (.cells #[] 35)).heap.size = w.heap.size + 1 := by simp
  have hnil := fun w : World => Go.run_eql_slice_nil (P := Try.prog) w 22 35 (some ⟨g, o, none⟩) l c Try.underlying22
  simp only [Option.isNone_some] at hnil
  clear h1 hcell
  go_enter Try.func32, Try.ntmps32
  go_wp2_with (refine wpList_append_fresh rfl (.tmp 5) (.tmp 6) _ rfl (w.alloc (.cells #[] 35)) 35 i0 _ 2 24 Try.underlying22 hi0 hz0 hz1 hz2 rfl (by decide) _ rfl lo hi (some ⟨g, o, none⟩) l c (secs xs) rfl (Below.refl _ _) h1' hl (by unfold maxLen; omega) (by omega) ?_; intro g3 c3 w3 hg3 hk3 hr3 hb3 hs3)
  go_wp2
  go_ret
  exact ⟨g3, c3, rfl, by omega, hk3, own_base hr3 (by omega), hb1.trans (hb3.mono hb1.size)⟩

theorem set_split {xs : List Sec} {k : Nat} (hk : k < xs.length) (s : Sec) : secs (xs.set k s) = (secs (xs.take k) ++ s.cells) ++ secs (xs.drop (k + 1)) := by
  rw [List.set_eq_take_append_cons_drop, if_pos hk, secs_append]
  simp [secs]
theorem kS1 {B : Nat} {s1 s2 : Value} {w w' : World} (h : w.cell? ⟨B, 0, none⟩ = some s1 ∧ w.cell? ⟨B, 1, none⟩ = some s2 ∧ B + 1 ≤ w.heap.size) (hb : Below w.heap.size w w') :
    w'.cell? ⟨B, 0, none⟩ = some s1 ∧ w'.cell? ⟨B, 1, none⟩ = some s2 ∧ B + 1 ≤ w'.heap.size :=
  ⟨(hb.cell (p := ⟨B, 0, none⟩) (show B < _ by omega)).trans h.1, (hb.cell (p := ⟨B, 1, none⟩) (show B < _ by omega)).trans h.2.1, Nat.le_trans h.2.2 hb.size⟩
set_option maxHeartbeats 3200000 in
theorem with_walk (lo hi : Nat) (a : Option Addr) (c k : Nat) (s : Sec) (xs : List Sec) (w : World) (h1 : Rg 2 w lo hi a 33 (secs xs)) (hh : hi ≤ w.heap.size) (hk : k < 33) (hc : 33 ≤ c) (hcm : c ≤ maxLen) :
    Calls Try.prog 31 #[.slice a 33 c, .int .i64 k, s.val] w fun e w' => ∃ g c', e = .returned (.slice (some ⟨g, 0, none⟩) 33 c') ∧ w.heap.size ≤ g ∧ g < w'.heap.size ∧ w'.ownsRow w.heap.size 35 2 (.slice (some ⟨g, 0, none⟩) 33 c') 33 (secs (xs.set k s)) ∧ Below w.heap.size w w' := by
  obtain ⟨i0, hi0, hz0, hz1, hz2⟩ := info_parts info_sec
  obtain ⟨g, o, rfl, hg1, hg2, hcell⟩ := h1.addr (by decide)
  obtain ⟨n, b⟩ := s
  simp only [Sec.val]
  obtain ⟨W1, e1, hb1, k0, k1, hsz⟩ := one_box w 35 (.int .i64 n) (.string b)
  have hx := secs_len h1
  have h1' := h1.far (hb1.mono hh)
  have hki : (k : Int) < 33 := by omega
  have hk0 : (0 : Int) ≤ k := by omega
  have hki' : (k : Int) ≤ c := by omega
  have h0' : Rg 2 W1 lo hi (some ⟨g, o, none⟩) k ((secs xs).take (k * 2)) := by
    have := h1'.part (i := 0) (k := k) (by omega)
    simpa using this
  have hh2 : hi ≤ W1.heap.size := by omega
  go_enter Try.func31, Try.ntmps31
  go_wp2_with fail
  try rw [e1]
  clear e1
  go_region_held3 (fun w' => w'.cell? ⟨w.heap.size, 0, none⟩ = some (.int .i64 n) ∧ w'.cell? ⟨w.heap.size, 1, none⟩ = some (.string b) ∧ w.heap.size + 1 ≤ w'.heap.size)
    (first
      | exact kS1 ⟨k0, k1, hsz⟩ ((Below.refl _ _).drew)
      | exact kS1 (by assumption) ((Below.refl _ _).drew)
      | exact kS1 (by assumption) ((Below.refl _ _).alloc (Nat.le_refl _) _)
      | exact kS1 (by assumption) hs3
      | (go_keep; done))
    (first | (refine step_append_full (by rfl) (.tmp 11) (.tmp 13) _ (by rfl) W1 _ i0 _ 2 24 Try.underlying22 hi0 hz0 hz1 hz2 rfl (by decide) _ k (by rfl) _ _ _ 1 1 [.int .i64 n, .string b] (by rfl) (by repeat (first | assumption | exact Below.refl _ _ | apply Below.drew | apply below_made)) lo hi ((secs xs).take (k * 2)) (Rg.far h0' (Below.mono (by repeat (first | assumption | exact Below.refl _ _ | apply Below.drew | apply below_made)) hh2)) (by repeat (first | exact Rg.new (size := 2) (n := 1) _ _ #[.int .i64 n, .string b] rfl | refine Rg.drew_ ?_)) (by decide) (by unfold maxLen; omega) (by omega) ?_; intro g3 c3 w3 hg3 hk3 hr3 hb3 hs3))
  have hb13 : Below w.heap.size w w3 := hb1.trans (hb3.mono hb1.size)
  have hz3 := hb3.size
  have hg4 : w.heap.size ≤ g3 := by simp at hg3; omega
  have ho3 := own_base hr3 (show w.heap.size ≤ _ by simp; omega)
  have hki2 : (k : Int) + 1 ≤ 33 := by omega
  have h33 := h1.far (hb13.mono hh)
  have HX := Lib.hid hx
  have HT := Lib.hid (set_split (xs := xs) (k := k) (by omega) ⟨n, b⟩)
  have e0 : (secs xs).take (k * 2) = secs (xs.take k) := flat_take _ 2 Sec.cells_length xs k
  rw [e0] at ho3
  have e3 : (secs xs).drop ((k + 1) * 2) = secs (xs.drop (k + 1)) := flat_drop _ 2 Sec.cells_length xs (k + 1)
  by_cases hcc : c = k + 1
  · obtain rfl : k = 32 := by omega
    subst hcc
    have hR : Rg 2 w3 lo hi (some ⟨g, o, none⟩) (32 - 32) (secs (xs.drop 33)) := by
      rw [List.drop_of_length_le (by omega)]
      exact Rg.nil
    clear hr3 hs3 hg3 h0' h1' h33 e3 e0 hx h1 hcell k0 k1
    go_wp2_with (at_builtin; refine wpList_append_rg _ rfl (.tmp 15) (.tmp 19) _ rfl i0 _ 2 24 Try.underlying22 hi0 hz0 hz1 hz2 rfl (by decide) rfl hb13 ho3 rfl hR (secs_one _) (by unfold maxLen; omega) (by omega) ?_; intro v5 w5 hb5 ho5 _)
    obtain ⟨g5, c5, rfl, hg5, hk5⟩ := own_at ho5 (by omega)
    go_wp2
    go_ret
    refine ⟨g5, c5, rfl, hg5, hk5, ?_, hb5⟩
    rw [HT.out]
    exact ho5
  · have hR : Rg 2 w3 lo hi (some ⟨g, o + (k + 1) * 2, none⟩) (32 - k) (secs (xs.drop (k + 1))) := by
      have := h33.part (i := k + 1) (k := 32 - k) (by omega)
      rw [e3, List.take_of_length_le (by rw [secs_length, List.length_drop]; omega)] at this
      exact this
    have hl : k + 1 + (32 - k) = 33 := by omega
    clear hr3 hs3 hg3 h0' h1' h33 e3 e0 hx h1 hcell k0 k1
    go_wp2_with (at_builtin; refine wpList_append_rg _ rfl (.tmp 15) (.tmp 19) _ rfl i0 _ 2 24 Try.underlying22 hi0 hz0 hz1 hz2 rfl (by decide) rfl hb13 ho3 rfl hR (secs_one _) (by unfold maxLen; omega) (by omega) ?_; intro v5 w5 hb5 ho5 _)
    rw [hl] at ho5
    obtain ⟨g5, c5, rfl, hg5, hk5⟩ := own_at ho5 (by omega)
    go_wp2
    go_ret
    refine ⟨g5, c5, rfl, hg5, hk5, ?_, hb5⟩
    rw [HT.out]
    exact ho5
end Go.Proofs.Ytjahhheipeggeaa
