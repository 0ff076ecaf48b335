/- What is proved: the laws' own example (wakes) returns true, whenever New, Put, Get and Crash answer as the document says. -/
import Derived.Test.YtjahhheipeggeaaDskM
import Derived.Laws.StructEq
namespace Go.Proofs.Ytjahhheipeggeaa
open Go.RowKit

theorem run_sec_eql (s t : Sec) (w : World) : (binOp .eql 35 (.agg #[.int .i64 s.n, .string s.b]) (.agg #[.int .i64 t.n, .string t.b])).run Try.prog w = .ok (.bool (secEq s t)) w := by
  rw [run_eql_struct, run_equalIn_agg _ _ _ _ _ (by kernel_rfl) (by kernel_rfl)]
  have hm : ((Try.prog.fieldsOf 35).toList.map fun f => (f.name, f.type, f.offset)) = [("N", 3, 0), ("B", 9, 1)] := by kernel_rfl
  generalize (Try.prog.fieldsOf 35).toList = fs at hm ⊢
  rcases fs with _ | ⟨f1, _ | ⟨f2, _ | ⟨f3, fs⟩⟩⟩
  · simp at hm
  · simp at hm
  · simp only [List.map_cons, List.map_nil, List.cons.injEq, Prod.mk.injEq, and_true] at hm
    obtain ⟨⟨h1, h2, h3⟩, h4, h5, h6⟩ := hm
    simp [Op.eqFields, h1, h2, h3, h4, h5, h6, part, secEq, go_sem]
    by_cases h : s.n = t.n <;> by_cases h' : s.b.toList = t.b.toList <;> simp [h, h']
  · simp at hm
set_option maxHeartbeats 3200000 in
theorem wakes_walk (hN : NewSpec 28) (hP : PutSpec 12) (hG : GetSpec 19) (hC : CrashSpec 17) (w : World) :
    Calls Try.prog 11 #[] w fun e w' => e = .returned (.bool true) ∧ Below w.heap.size w w' := by
  obtain ⟨f1, f2, f3, f4, f5, f6, f7, f8, f9, f10, f11, f12⟩ := wk_facts
  have n0 := hN w
  go_enter Try.func11, Try.ntmps11
  go_wp2_with fail
  refine n0.mono ?_
  rintro e w1 ⟨v1, rfl, hd1, hb1, _⟩
  have n1 := hP w1.heap.size v1 newD 0 5 strA w1 hd1 (Nat.le_refl _) f1 (by unfold I64; omega) (by unfold I64; omega) (by decide)
  clear n0
  go_wp2_with fail
  refine n1.mono ?_
  rintro e w2 ⟨v2, rfl, hd2, hb2, _⟩
  rw [f2]
  have hB2 := hb1.trans (hb2.mono hb1.size)
  obtain ⟨a, l, c, a', l', c', rfl, _⟩ := id hd2
  have hd2' : Dk w2 0 w2.heap.size (.agg #[.slice a l c, .slice a' l' c']) wk1 := hd2
  obtain ⟨w3, e3, hb3, k30, k31, hz3⟩ := one_box w2 24 (.slice a l c) (.slice a' l' c')
  have hB3 := hB2.trans (hb3.mono hB2.size)
  have n2 := hP w2.heap.size _ wk1 0 4 strB w3 (hd2'.far hb3) (by omega) f3 (by unfold I64; omega) (by unfold I64; omega) (by decide)
  have HD2 := Lib.hid hd2'
  clear n1 hd1 hd2 hd2'
  go_wp2_with fail
  refine n2.mono ?_
  rintro e w4 ⟨v4, rfl, hd4, hb4, _⟩
  rw [f4]
  obtain ⟨b, m, d, b', m', d', rfl, _⟩ := id hd4
  have hd4' : Dk w4 0 w4.heap.size (.agg #[.slice b m d, .slice b' m' d']) wk2 := hd4
  have hz4 := hb4.size
  have hB4 := hB3.trans (hb4.mono hB3.size)
  have k40 := (hb4.cell (p := ⟨w2.heap.size, 0, none⟩) (show w2.heap.size < _ by omega)).trans k30
  have k41 := (hb4.cell (p := ⟨w2.heap.size, 1, none⟩) (show w2.heap.size < _ by omega)).trans k31
  obtain ⟨w5, e5, hb5, k50, k51, hz5⟩ := one_box w4 24 (.slice b m d) (.slice b' m' d')
  have hB5 := hB4.trans (hb5.mono hB4.size)
  have m0 := (hb5.cell (p := ⟨w2.heap.size, 0, none⟩) (show w2.heap.size < _ by omega)).trans k40
  have m1 := (hb5.cell (p := ⟨w2.heap.size, 1, none⟩) (show w2.heap.size < _ by omega)).trans k41
  have n3 := hG w4.heap.size _ wk2 0 w5 (hd4'.far hb5) (by omega) f5 (by unfold I64; omega)
  rw [secEq_iff.1 f6, f7] at n3
  simp only [Sec.val] at n3
  clear n2 hd4 hd4' k30 k31 k40 k41 e3
  go_wp2_with fail
  refine n3.mono ?_
  rintro e w6 ⟨rfl, hb6⟩
  have hz6 := hb6.size
  have hB6 := hB5.trans (hb6.mono hB5.size)
  have p0 := (hb6.cell (p := ⟨w2.heap.size, 0, none⟩) (show w2.heap.size < _ by omega)).trans m0
  have p1 := (hb6.cell (p := ⟨w2.heap.size, 1, none⟩) (show w2.heap.size < _ by omega)).trans m1
  obtain ⟨w7, e7, hb7, k70, k71, hz7⟩ := one_box w6 35 (.int .i64 5) (.string strA)
  have hB7 := hB6.trans (hb7.mono hB6.size)
  have r0 := (hb7.cell (p := ⟨w2.heap.size, 0, none⟩) (show w2.heap.size < _ by omega)).trans p0
  have r1 := (hb7.cell (p := ⟨w2.heap.size, 1, none⟩) (show w2.heap.size < _ by omega)).trans p1
  have hb27 : Below w2.heap.size w2 w7 := ((((hb3.trans (hb4.mono (by omega))).trans (hb5.mono (by omega))).trans (hb6.mono (by omega))).trans (hb7.mono (by omega)))
  have n4 := hC w2.heap.size _ wk1 1 w7 (HD2.out.far hb27) (by omega) f3 (by decide) (by decide)
  clear n3 m0 m1 p0 p1 e5 k50 k51
  go_wp2_with fail
  refine n4.mono ?_
  rintro e w8 ⟨v8, rfl, hd8, hb8, _⟩
  rw [f8]
  obtain ⟨g, h, i, g', h', i', rfl, hx8, _⟩ := id hd8
  have hd8' : Dk w8 0 w8.heap.size (.agg #[.slice g h i, .slice g' h' i']) wk3 := hd8
  have hh : h = 33 := by
    have := secs_len hx8
    rw [← this]
    exact f12
  subst hh
  have hz8 := hb8.size
  have hB8 := hB7.trans (hb8.mono hB7.size)
  have s0 := (hb8.cell (p := ⟨w6.heap.size, 0, none⟩) (show w6.heap.size < _ by omega)).trans k70
  have s1 := (hb8.cell (p := ⟨w6.heap.size, 1, none⟩) (show w6.heap.size < _ by omega)).trans k71
  obtain ⟨w9, e9, hb9, k90, k91, hz9⟩ := one_box w8 24 (.slice g 33 i) (.slice g' h' i')
  have hB9 := hB8.trans (hb9.mono hB8.size)
  have t0 := (hb9.cell (p := ⟨w6.heap.size, 0, none⟩) (show w6.heap.size < _ by omega)).trans s0
  have t1 := (hb9.cell (p := ⟨w6.heap.size, 1, none⟩) (show w6.heap.size < _ by omega)).trans s1
  have n5 := hG w8.heap.size _ wk3 0 w9 (hd8'.far hb9) (by omega) f9 (by unfold I64; omega)
  rw [secEq_iff.1 f10, f11] at n5
  simp only [Sec.val, noSec] at n5
  clear n4 hd8 hd8' k70 k71 s0 s1 e7 hx8
  go_wp2_with fail
  refine n5.mono ?_
  rintro e w10 ⟨rfl, hb10⟩
  have hz10 := hb10.size
  have hB10 := hB9.trans (hb10.mono hB9.size)
  have x0 := (hb10.cell (p := ⟨w6.heap.size, 0, none⟩) (show w6.heap.size < _ by omega)).trans t0
  have x1 := (hb10.cell (p := ⟨w6.heap.size, 1, none⟩) (show w6.heap.size < _ by omega)).trans t1
  have y0 := (hb10.cell (p := ⟨w8.heap.size, 0, none⟩) (show w8.heap.size < _ by omega)).trans k90
  have q1 : ∀ w, (binOp .eql 35 (.agg #[.int .i64 5, .string strA]) (.agg #[.int .i64 5, .string strA])).run Try.prog w = .ok (.bool true) w := fun w => by
    have := run_sec_eql ⟨5, strA⟩ ⟨5, strA⟩ w
    rw [secEq_iff.2 rfl] at this
    exact this
  have q2 : ∀ w, (binOp .eql 35 (.agg #[.int .i64 0, .string ⟨#[]⟩]) (.agg #[.int .i64 0, .string ⟨#[]⟩])).run Try.prog w = .ok (.bool true) w := fun w => by
    have := run_sec_eql noSec noSec w
    rw [secEq_iff.2 rfl] at this
    exact this
  have hA : strA.toList = [97] := by rw [ByteArray.toList_eq]; rfl
  have hgd : Try.prog.eqGuardType Try.prog.depth 35 = false := by kernel_rfl
  have hb11 : Below w10.heap.size w10 (w10.alloc (.cells #[.int .i64 0, .string ⟨#[]⟩] 35)) := (Below.refl _ _).alloc (Nat.le_refl _) _
  have z0 := (hb11.cell (p := ⟨w6.heap.size, 0, none⟩) (show w6.heap.size < _ by omega)).trans x0
  have z1 := (hb11.cell (p := ⟨w6.heap.size, 1, none⟩) (show w6.heap.size < _ by omega)).trans x1
  have z2 := (hb11.cell (p := ⟨w8.heap.size, 0, none⟩) (show w8.heap.size < _ by omega)).trans y0
  have hend := hB10.alloc hB10.size (.cells #[.int .i64 0, .string ⟨#[]⟩] 35)
  clear n5 t0 t1 x0 x1 y0 hb11 k90 k91 e9 r0 r1
  go_wp2
  go_ret
  exact ⟨rfl, hend⟩
end Go.Proofs.Ytjahhheipeggeaa
