/- What is proved: the contracts of flumeref03's sectors, Same. -/
import Derived.Test.YtjahhheipeggeaaDskF
import Derived.Laws.StructEq
namespace Go.Proofs.Ytjahhheipeggeaa
open Go.RowKit

theorem run_sec_neq (s t : Sec) (w : World) : (binOp .neq 35 (.agg #[.int .i64 s.n, .string s.b]) (.agg #[.int .i64 t.n, .string t.b])).run Try.prog w = .ok (.bool (!secEq s t)) w := by
  rw [run_neq_struct, run_equalIn_agg _ _ _ _ _ (by kernel_rfl) (by kernel_rfl)]
  have hm : ((Try.prog.fieldsOf 35).toList.map fun f => (f.name, f.type, f.offset)) = [("N", 3, 0), ("B", 9, 1)] := by kernel_rfl
  generalize (Try.prog.fieldsOf 35).toList = fs at hm ⊢
  rcases fs with _ | ⟨f1, _ | ⟨f2, _ | ⟨f3, fs⟩⟩⟩
  · simp at hm
  · simp at hm
  · simp only [List.map_cons, List.map_nil, List.cons.injEq, Prod.mk.injEq, and_true] at hm
    obtain ⟨⟨h1, h2, h3⟩, h4, h5, h6⟩ := hm
    simp [Op.eqFields, h1, h2, h3, h4, h5, h6, part, secEq, go_sem]
    by_cases h : s.n = t.n <;> by_cases h' : s.b.toList = t.b.toList <;> simp [h, h']
  · simp at hm
set_option maxHeartbeats 1600000 in
theorem sectors_walk (lo hi : Nat) (a : Option Addr) (l c : Nat) (xs : List Sec) (lo' hi' : Nat) (a' : Option Addr) (l' c' : Nat) (ys : List Sec) (w : World) (h1 : Rg 2 w lo hi a l (secs xs)) (h2 : Rg 2 w lo' hi' a' l' (secs ys)) (hl : l ≤ 9223372036854775807) (hl' : l' ≤ 9223372036854775807) :
    Calls Try.prog 34 #[.slice a l c, .slice a' l' c'] w fun e w' => e = .returned (.bool (sameB xs ys)) ∧ Below w.heap.size w w' := by
  have hx := secs_len h1
  have hy := secs_len h2
  by_cases hne : l = l'
  · subst hne
    have HX := Lib.hid hx
    have HY := Lib.hid hy
    have H1 := Lib.hid h1
    have H2 := Lib.hid h2
    clear hx hy h1 h2
    go_enter Try.func34, Try.ntmps34
    go_wp2
    go_loopw [5] (fun i wr => ∃ k n : Nat, k ≤ l ∧ i = .int .i64 k ∧ ((xs.zip ys).take k).all (fun p => secEq p.1 p.2) = true ∧ wr = w.drewN n) (fun i _ => l - (intOf i).toNat)
    case atStart => exact ⟨0, 0, Nat.zero_le _, rfl, by simp, rfl⟩
    case round =>
      obtain ⟨k, n, hk, rfl, hall, rfl⟩ := hrel
      by_cases hlt : k < l
      · obtain ⟨s, hs⟩ : ∃ s, xs[k]? = some s := ⟨_, List.getElem?_eq_getElem (by rw [HX.out]; exact hlt)⟩
        obtain ⟨t, ht⟩ : ∃ s, ys[k]? = some s := ⟨_, List.getElem?_eq_getElem (by rw [HY.out]; exact hlt)⟩
        obtain ⟨g, o, rfl, _, _, hc⟩ := H1.out.addr (by omega)
        obtain ⟨g', o', rfl, _, _, hc'⟩ := H2.out.addr (by omega)
        obtain ⟨c1, c2⟩ := secs_cell hc hs
        obtain ⟨c3, c4⟩ := secs_cell hc' ht
        have hki : (k : Int) < l := by omega
        have hk0 : (0 : Int) ≤ k := by omega
        clear hc hc'
        rcases hq : secEq s t with _ | _
        · have HN := Lib.hid (sameB_no hs ht hq)
          clear hs ht hall
          have hneq := run_sec_neq s t
          have hgd : Try.prog.eqGuardType Try.prog.depth 35 = false := by kernel_rfl
          go_wp2
          go_quiet (fail)
          go_wp2
          go_ret
          exact ⟨ret_bool HN.out.symm, (below_drewN w n _).trans (below_drewN _ nq _)⟩
        · have HT := Lib.hid (all_succ _ _ k _ (zip_at hs ht) hall hq)
          clear hs ht hall
          have hneq := run_sec_neq s t
          have hgd : Try.prog.eqGuardType Try.prog.depth 35 = false := by kernel_rfl
          go_wp2
          go_quiet (fail)
          go_wp2
          go_roundw
          case rel => exact ⟨k + 1, n + nq, by omega, by go_num, HT.out, rfl⟩
          case measure => simp [intOf]; omega
      · obtain rfl : k = l := by omega
        have HT := Lib.hid (show sameB xs ys = true by
          unfold sameB
          rw [List.take_of_length_le (by rw [List.length_zip, HX.out, HY.out]; omega)] at hall
          rw [hall, HX.out, HY.out]
          simp)
        clear hall
        go_wp2
        go_ret
        exact ⟨ret_bool HT.out.symm, below_drewN _ _ _⟩
  · have HN := Lib.hid (show sameB xs ys = false by unfold sameB; rw [hx, hy, decide_eq_false hne, Bool.false_and])
    clear hx hy h1 h2
    have hn2 : ((l : Int) == (l' : Int)) = false := by simp; omega
    go_enter Try.func34, Try.ntmps34
    go_wp2
    go_ret
    exact ⟨ret_bool HN.out.symm, Below.refl _ _⟩

set_option maxHeartbeats 1600000 in
theorem rsame_walk (lo hi : Nat) (v : Value) (d : Dsk) (lo' hi' : Nat) (v' : Value) (d' : Dsk) (w : World) (hd : Dk w lo hi v d) (hh : hi ≤ w.heap.size) (hd' : Dk w lo' hi' v' d') (hh' : hi' ≤ w.heap.size) :
    Calls Try.prog 14 #[v, v'] w fun e w' => e = .returned (.bool (sameD d d')) ∧ Below w.heap.size w w' := by
  obtain ⟨a, l, c, a', l', c', rfl, h1, h2, hc1, hc2, hm1, hm2⟩ := hd
  obtain ⟨b, m, e, b', m', e', rfl, h3, h4, hc3, hc4, hm3, hm4⟩ := hd'
  have hbA : Below w.heap.size w ((w.alloc (.cells #[.slice a l c, .slice a' l' c'] 24)).alloc (.cells #[.slice b m e, .slice b' m' e'] 24)) := ((Below.refl _ _).alloc (Nat.le_refl _) _).alloc (by simp) _
  obtain ⟨W2, e2, hb1, k0, k1, k3, k4, _, hsz⟩ := two_boxes w 24 24 (.slice a l c) (.slice a' l' c') (.slice b m e) (.slice b' m' e')
  have r1 := sectors_walk lo hi a l c d.now lo' hi' b m e d'.now W2 (h1.far (hb1.mono hh)) (h3.far (hb1.mono hh')) (by unfold maxLen at hm1; omega) (by unfold maxLen at hm3; omega)
  rcases hq : sameB d.now d'.now with _ | _
  · have HN := Lib.hid (show sameD d d' = false by unfold sameD; rw [hq]; rfl)
    rw [hq] at r1
    clear hq h1 h2 h3 h4 hbA
    go_enter Try.func14, Try.ntmps14
    go_wp2_with fail
    refine r1.mono ?_
    rintro e w3 ⟨rfl, hb3⟩
    go_wp2
    go_ret
    exact ⟨ret_bool HN.out.symm, hb1.trans (hb3.mono hb1.size)⟩
  · have HT := Lib.hid (show sameD d d' = sameB d.sure d'.sure by unfold sameD; rw [hq]; rfl)
    rw [hq] at r1
    clear hq hbA
    go_enter Try.func14, Try.ntmps14
    go_wp2_with fail
    refine r1.mono ?_
    rintro e w3 ⟨rfl, hb3⟩
    have hB3 := hb1.trans (hb3.mono hb1.size)
    have q0 := (hb3.cell (p := ⟨w.heap.size, 1, none⟩) (show w.heap.size < _ by omega)).trans k1
    have q1 := (hb3.cell (p := ⟨w.heap.size + 1, 1, none⟩) (show w.heap.size + 1 < _ by omega)).trans k4
    have r2 := sectors_walk lo hi a' l' c' d.sure lo' hi' b' m' e' d'.sure w3 (h2.far (hB3.mono hh)) (h4.far (hB3.mono hh')) (by unfold maxLen at hm2; omega) (by unfold maxLen at hm4; omega)
    clear h1 h2 h3 h4 k0 k1 k3 k4 e2
    go_wp2_with fail
    refine r2.mono ?_
    rintro e w4 ⟨rfl, hb4⟩
    go_wp2
    go_ret
    exact ⟨ret_bool HT.out.symm, hB3.trans (hb4.mono hB3.size)⟩
end Go.Proofs.Ytjahhheipeggeaa
