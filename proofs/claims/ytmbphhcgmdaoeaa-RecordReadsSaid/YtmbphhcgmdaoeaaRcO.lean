/- What is proved: the statement RecordLong walked over any functions that answer as the specs say. -/
import Derived.Test.YtmbphhcgmdaoeaaRcN
namespace Go.Proofs.Ytmbphhcgmdaoeaa
open Go.RowKit

theorem Rd.new (w : World) (e : TypeId) (xs : List Int) : Rd (w.alloc (.cells (u8s xs).toArray e)) (w.heap.size + 1) (some ⟨w.heap.size, 0, none⟩) xs.length (u8s xs) := by
  refine ⟨u8s_length xs, .inr ⟨w.heap.size, 0, rfl, by omega, fun j u hu => ?_⟩⟩
  rw [cell_of_row _ w.heap.size (0 + j) _ e (0, 0) (heap_alloc_new w _), Nat.zero_add]
  simpa using hu
theorem long_in {xs : List Int} (hx : IsBytes xs) (m : Int) (hm : 0 ≤ m ∧ m ≤ 255) : ¬ (inE xs = 0 ∧ inE (xs ++ [m]) = 0) := by
  have hx' : IsBytes (xs ++ [m]) := isBytes_append hx (by intro b hb; rw [List.mem_singleton] at hb; subst hb; exact hm)
  rintro ⟨h1, h2⟩
  rcases in_cases hx with ⟨r, _, _, h3, h4⟩ | ⟨h3, _⟩
  · rcases in_cases hx' with ⟨r', _, _, h5, h6⟩ | ⟨h5, _⟩
    · have := (rec_prefix h3 h5 (t := [m]) (by rw [h6, h4])).2
      cases this
    · omega
  · omega
theorem long_sin {xs : List Int} (hx : IsBytes xs) (m : Int) (hm : 0 ≤ m ∧ m ≤ 255) : ¬ (sinE xs = 0 ∧ sinE (xs ++ [m]) = 0) := by
  have hx' : IsBytes (xs ++ [m]) := isBytes_append hx (by intro b hb; rw [List.mem_singleton] at hb; subst hb; exact hm)
  rintro ⟨h1, h2⟩
  rcases sin_cases hx with ⟨r, _, _, h3, h4⟩ | ⟨h3, _⟩
  · rcases sin_cases hx' with ⟨r', _, _, h5, h6⟩ | ⟨h5, _⟩
    · have := (st_prefix h3 h5 (t := [m]) (by rw [h6, h4])).2
      cases this
    · omega
  · omega
theorem inE_two (xs : List Int) : inE xs = 0 ∨ inE xs = 50 := by
  unfold inE
  split
  · exact .inl rfl
  · exact .inr rfl
theorem sinE_two (xs : List Int) : sinE xs = 0 ∨ sinE xs = 50 := by
  unfold sinE
  split
  · exact .inl rfl
  · exact .inr rfl
set_option maxRecDepth 100000 in
set_option maxHeartbeats 3200000 in
theorem walkRecordLong (hB : BytesSpec 13) (hR : ReadSpec 27) (hS : StandsSpec 21) (hRS : ReadStateSpec 29)
    (v : Value) (xs : List Int) (m : Int) (w : World) (h : Bt w 0 w.heap.size v xs) (hx : IsBytes xs) (hsz : xs.length ≤ 140737488351232) (hm : 0 ≤ m ∧ m ≤ 255) :
    Calls Try.prog 6 #[v, .int .u8 m] w fun e w' => e = .returned (.bool true) ∧ Below w.heap.size w w' := by
  obtain ⟨a, c, rfl, hnc, hcm, hr⟩ := id h
  by_cases hg : 2000 < (xs.length : Int)
  · have n1 := wakes_any hB hR hS w
    go_enter Try.func6, Try.ntmps6
    go_wp2_with fail
    refine n1.mono ?_
    rintro e w2 ⟨rfl, b2⟩
    go_wp2
    go_ret
    exact ⟨rfl, b2⟩
  · obtain ⟨i0, hi, hz0, hz1, hz2⟩ := info_parts info_u8
    have hrd := Rd_of hr
    have hown := own_empty w 5
    have hb0 : Below w.heap.size w (w.alloc (.cells #[] 5)) := (Below.refl _ _).alloc (Nat.le_refl _) _
    go_enter Try.func6, Try.ntmps6
    go_wp2_with (first
      | (at_builtin; refine wpList_append_src _ rfl (.tmp 14) (.tmp 15) _ rfl i0 (.int .u8 0) 1 Try.underlying34 hi hz0 hz1 hz2 rfl rfl hb0 hown rfl (hrd.far hb0) (u8s_one _) (by unfold maxLen; omega) (by omega) ?_; intro v1 w1 hb1 ho1)
      | (at_builtin; refine wpList_append_src _ rfl (.tmp 16) (.tmp 18) _ rfl i0 (.int .u8 0) 1 Try.underlying34 hi hz0 hz1 hz2 rfl rfl (hb1.alloc hb1.size _) (ho1.alloc _) rfl (Rd.new w1 5 [m]) (u8s_one _) (by unfold maxLen; simp; omega) (by simp; omega) ?_; intro v2 w2 hb2 ho2; obtain ⟨a2, c2, rfl, hc2, hm2, hr2⟩ := Rg.own ho2))
    have hL : Bt w2 w.heap.size w2.heap.size (.slice a2 (xs.length + 1) c2) (xs ++ [m]) := by
      refine ⟨a2, c2, by simp, by simp; omega, hm2, ?_⟩
      rw [List.nil_append, ← u8s_append, Nat.zero_add] at hr2
      simpa using hr2
    have hx' : IsBytes (xs ++ [m]) := isBytes_append hx (by intro b hb; rw [List.mem_singleton] at hb; subst hb; exact hm)
    have hl' : (xs ++ [m]).length ≤ 1000000 := by simp; omega
    have hno := long_in hx m hm
    have hnos := long_sin hx m hm
    have n1 := hR (.slice a xs.length c) xs w2 ((h.far hb2).wide (Nat.le_refl _) hb2.size) hx (by omega)
    clear ho1 ho2 hr2 hrd hown hb0 hb1
    refine n1.mono ?_
    rintro e w3 ⟨r3, rfl, ⟨s3, rfl, x3, y3, rfl, _⟩, b3⟩
    obtain ⟨W3, E3, B3, _, _⟩ := Blk.new w3 24 #[.int .i64 (inR xs).place, .bool (inR xs).yes, .slice x3 (inR xs).ws.length y3]
    have b23 := below_on b3 B3
    have b03 := below_on hb2 b23
    have n2 := hR (.slice a2 (xs.length + 1) c2) (xs ++ [m]) W3 ((hL.far b23).wide (Nat.zero_le _) b23.size) hx' hl'
    clear n1
    go_wp2_with fail
    refine n2.mono ?_
    rintro e w4 ⟨r4, rfl, ⟨s4, rfl, x4, y4, rfl, _⟩, b4⟩
    obtain ⟨W4, E4, B4, _, _⟩ := Blk.new w4 24 #[.int .i64 (inR (xs ++ [m])).place, .bool (inR (xs ++ [m])).yes, .slice x4 (inR (xs ++ [m])).ws.length y4]
    have b34 := below_on b4 B4
    have b04 := below_on b03 b34
    have n3 := hRS (.slice a xs.length c) xs W4 ((h.far b04).wide (Nat.le_refl _) b04.size) hx (by omega)
    clear n2
    rcases inE_two xs with q1 | q1 <;> rcases inE_two (xs ++ [m]) with q2 | q2
    · exact absurd ⟨q1, q2⟩ hno
    all_goals
      rw [q1, q2]
      go_wp2_with fail
      refine n3.mono ?_
      rintro e w5 ⟨r5, rfl, ⟨u0, u1, u2, u3, rfl, ⟨h0, j0, rfl, _⟩, ⟨h1, j1, rfl, _⟩, ⟨h2, j2, rfl, _⟩, ⟨h3, j3, rfl, _⟩⟩, b5⟩
      have b45 := b5
      have b05 := below_on b04 b45
      have b25 := below_on b23 (below_on b34 b45)
      have n4 := hRS (.slice a2 (xs.length + 1) c2) (xs ++ [m]) w5 ((hL.far b25).wide (Nat.zero_le _) b25.size) hx' hl'
      go_wp2_with fail
      refine n4.mono ?_
      rintro e w6 ⟨r6, rfl, ⟨v0, v1, v2, v3, rfl, ⟨k0, l0, rfl, _⟩, ⟨k1, l1, rfl, _⟩, ⟨k2, l2, rfl, _⟩, ⟨k3, l3, rfl, _⟩⟩, b6⟩
      have n5 := wakes_any hB hR hS w6
      clear n3 n4
      rcases sinE_two xs with q3 | q3 <;> rcases sinE_two (xs ++ [m]) with q4 | q4
      · exact absurd ⟨q3, q4⟩ hnos
      all_goals
        rw [q3, q4]
        go_wp2_with fail
        refine n5.mono ?_
        rintro e w7 ⟨rfl, b7⟩
        go_wp2
        go_ret
        exact ⟨rfl, below_on b05 (below_on b6 b7)⟩
end Go.Proofs.Ytmbphhcgmdaoeaa
