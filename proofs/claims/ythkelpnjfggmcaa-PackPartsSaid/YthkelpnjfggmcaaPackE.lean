/- What is proved: the walk of PackParts: it returns true at any six ints, and nothing that was there before the call turns. -/
import Derived.Test.YthkelpnjfggmcaaPackD
namespace Go.Proofs.Ythkelpnjfggmcaa
open Go.RowKit

theorem parts_of (p g s : Int) (h1 : 0 ≤ p) (h2 : p ≤ 1048575) (g1 : 1 ≤ g) (g2 : g ≤ 1023) (s1 : 0 ≤ s) (s2 : s ≤ 255) :
    placeF (p * 1048576 + (g * 256 + s)) = p ∧ genF (p * 1048576 + (g * 256 + s)) = g ∧ slotF (p * 1048576 + (g * 256 + s)) = s ∧ bareF (p * 1048576 + (g * 256 + s)) = g * 256 + s := by
  have hi : inR (p * 1048576 + (g * 256 + s)) = p * 1048576 + (g * 256 + s) := by unfold inR; rw [if_pos (by omega)]
  refine ⟨?_, ?_, ?_, ?_⟩
  · unfold placeF; rw [hi]; omega
  · unfold genF bareF; rw [hi]; omega
  · unfold slotF; rw [hi]; omega
  · unfold bareF; rw [hi]; omega
theorem gw_of (p g s : Int) (g1 : 1 ≤ g) (g2 : g ≤ 1023) (s1 : 0 ≤ s) (s2 : s ≤ 255) : gwB (g * 256 + s) p = true := by unfold gwB; simp; omega

theorem handle_some (g s : Int) (w : World) : Calls Try.prog 16 #[.int .i64 g, .int .i64 s] w fun e w' => ∃ r f : Int, e = .returned (.tuple #[.int .i64 r, .int .i64 f]) ∧ w = w' := by
  by_cases h : 1 ≤ g ∧ g ≤ 1023 ∧ 0 ≤ s ∧ s ≤ 255
  · exact (handle_ok g s w h.1 h.2.1 h.2.2.1 h.2.2.2).mono fun e w' ⟨h1, h2⟩ => ⟨_, _, h1, h2⟩
  · exact (handle_no g s w h).mono fun e w' ⟨h1, h2⟩ => ⟨_, _, h1, h2⟩
theorem word_some (p h : Int) (w : World) : Calls Try.prog 17 #[.int .i64 p, .int .i64 h] w fun e w' => ∃ r f : Int, e = .returned (.tuple #[.int .i64 r, .int .i64 f]) ∧ w = w' := by
  by_cases g : 0 ≤ p ∧ p ≤ 1048575 ∧ gwB h p = true
  · exact (word_ok p h w g.1 g.2.1 g.2.2).mono fun e w' ⟨h1, h2⟩ => ⟨_, _, h1, h2⟩
  · exact (word_no p h w g).mono fun e w' ⟨h1, h2⟩ => ⟨_, _, h1, h2⟩

/-- The tests at the end, in the walk's words. -/
def Tests (x y p q a b g h s t : Int) (b1 b2 b3 b4 b5 b6 b7 : Bool) : Prop :=
  decide (x < y) = b1 ∧ (x == y) = b2 ∧ (p == q) = b3 ∧ decide (p < q) = b4 ∧ decide (a < b) = b5 ∧ (g == h) = b6 ∧ (s == t) = b7
theorem tests_of (x y p q a b g h s t : Int) (hx : x = p * 1048576 + a) (hy : y = q * 1048576 + b) (ha : a = g * 256 + s) (hb : b = h * 256 + t) (g1 : 1 ≤ g) (g2 : g ≤ 1023) (s1 : 0 ≤ s) (s2 : s ≤ 255) (h1 : 1 ≤ h) (h2 : h ≤ 1023) (t1 : 0 ≤ t) (t2 : t ≤ 255) :
    Tests x y p q a b g h s t true false false true (decide (a < b)) (g == h) (s == t) ∨ Tests x y p q a b g h s t false false false false (decide (a < b)) (g == h) (s == t) ∨
    Tests x y p q a b g h s t true false true false true false (s == t) ∨ Tests x y p q a b g h s t true false true false true true false ∨
    Tests x y p q a b g h s t false false true false false false (s == t) ∨ Tests x y p q a b g h s t false false true false false true false ∨
    Tests x y p q a b g h s t false true true false false true true := by
  have T : ∀ {P : Prop} [Decidable P], P → decide P = true := fun h => decide_eq_true h
  have F : ∀ {P : Prop} [Decidable P], ¬ P → decide P = false := fun h => decide_eq_false h
  have N : ∀ {i j : Int}, i ≠ j → (i == j) = false := fun h => beq_eq_false_iff_ne.2 h
  have Y : ∀ {i j : Int}, i = j → (i == j) = true := fun h => beq_iff_eq.2 h
  rcases Int.lt_trichotomy p q with hpq | hpq | hpq
  · exact .inl ⟨T (by omega), N (by omega), N (by omega), T hpq, rfl, rfl, rfl⟩
  · rcases Int.lt_trichotomy a b with hab | hab | hab
    · by_cases hgh : g = h
      · exact .inr (.inr (.inr (.inl ⟨T (by omega), N (by omega), Y hpq, F (by omega), T hab, Y hgh, N (by omega)⟩)))
      · exact .inr (.inr (.inl ⟨T (by omega), N (by omega), Y hpq, F (by omega), T hab, N hgh, rfl⟩))
    · exact .inr (.inr (.inr (.inr (.inr (.inr ⟨F (by omega), Y (by omega), Y hpq, F (by omega), F (by omega), Y (by omega), Y (by omega)⟩)))))
    · by_cases hgh : g = h
      · exact .inr (.inr (.inr (.inr (.inr (.inl ⟨F (by omega), N (by omega), Y hpq, F (by omega), F (by omega), Y hgh, N (by omega)⟩)))))
      · exact .inr (.inr (.inr (.inr (.inl ⟨F (by omega), N (by omega), Y hpq, F (by omega), F (by omega), N hgh, rfl⟩))))
  · exact .inr (.inl ⟨F (by omega), N (by omega), N (by omega), F (by omega), rfl, rfl, rfl⟩)

set_option maxHeartbeats 800000 in
theorem parts_in (p g s q h t : Int) (w : World) (g1 : 1 ≤ g) (g2 : g ≤ 1023) (s1 : 0 ≤ s) (s2 : s ≤ 255) (h1 : 1 ≤ h) (h2 : h ≤ 1023) (t1 : 0 ≤ t) (t2 : t ≤ 255)
    (p1 : 0 ≤ p) (p2 : p ≤ 1048575) (q1 : 0 ≤ q) (q2 : q ≤ 1048575) :
    Calls Try.prog 5 #[.int .i64 p, .int .i64 g, .int .i64 s, .int .i64 q, .int .i64 h, .int .i64 t] w fun e w' => e = .returned (.bool true) ∧ Below w.heap.size w w' := by
  obtain ⟨e1, e2, e3, e4⟩ := parts_of p g s p1 p2 g1 g2 s1 s2
  have a1 := gw_of p g s g1 g2 s1 s2
  have a2 := gw_of q h t h1 h2 t1 t2
  have hT := tests_of _ _ p q _ _ g h s t rfl rfl rfl rfl g1 g2 s1 s2 h1 h2 t1 t2
  generalize hx : p * 1048576 + (g * 256 + s) = x at *
  generalize hy : q * 1048576 + (h * 256 + t) = y at *
  generalize ha : g * 256 + s = a at *
  generalize hb : h * 256 + t = b at *
  have C1 : ∀ w, Calls Try.prog 16 #[.int .i64 g, .int .i64 s] w fun e w' => e = .returned (.tuple #[.int .i64 a, .int .i64 0]) ∧ w = w' := fun w => ha ▸ handle_ok g s w g1 g2 s1 s2
  have C2 : ∀ w, Calls Try.prog 16 #[.int .i64 h, .int .i64 t] w fun e w' => e = .returned (.tuple #[.int .i64 b, .int .i64 0]) ∧ w = w' := fun w => hb ▸ handle_ok h t w h1 h2 t1 t2
  have C3 : ∀ w, Calls Try.prog 17 #[.int .i64 p, .int .i64 a] w fun e w' => e = .returned (.tuple #[.int .i64 x, .int .i64 0]) ∧ w = w' := fun w => hx ▸ word_ok p a w p1 p2 a1
  have C4 : ∀ w, Calls Try.prog 17 #[.int .i64 q, .int .i64 b] w fun e w' => e = .returned (.tuple #[.int .i64 y, .int .i64 0]) ∧ w = w' := fun w => hy ▸ word_ok q b w q1 q2 a2
  have H1 := Lib.hid C1
  have H2 := Lib.hid C2
  have H3 := Lib.hid C3
  have H4 := Lib.hid C4
  have E1 := Lib.hid e1
  have E2 := Lib.hid e2
  have E3 := Lib.hid e3
  have E4 := Lib.hid e4
  clear C1 C2 C3 C4 e1 e2 e3 e4 hx hy ha hb a1 a2
  rcases hT with hT | hT | hT | hT | hT | hT | hT
  all_goals
    unfold Tests at hT
    obtain ⟨u1, u2, u3, u4, u5, u6, u7⟩ := hT
    go_enter Try.func5, Try.ntmps5
    go_wp2_with fail
    refine (H1.out _).mono ?_; rintro e w' ⟨rfl, rfl⟩
    go_wp2_with fail
    refine (H2.out _).mono ?_; rintro e w' ⟨rfl, rfl⟩
    go_wp2_with fail
    refine (H3.out _).mono ?_; rintro e w' ⟨rfl, rfl⟩
    go_wp2_with fail
    refine (H4.out _).mono ?_; rintro e w' ⟨rfl, rfl⟩
    go_wp2_with (first
      | (go_at_call 18; refine (place_any _ _).mono ?_; rintro e w' ⟨rfl, rfl⟩; rw [E1.out])
      | (go_at_call 20; refine (slot_any _ _).mono ?_; rintro e w' ⟨rfl, rfl⟩; rw [E3.out])
      | (go_at_call 19; refine (gen_any _ _).mono ?_; rintro e w' ⟨rfl, rfl⟩; rw [E2.out])
      | (go_at_call 21; refine (bare_any _ _).mono ?_; rintro e w' ⟨rfl, rfl⟩; rw [E4.out])
      | (go_at_call 9; refine (wakes_any _).mono ?_; rintro e w' ⟨rfl, hbel⟩))
    go_ret
    exact ⟨rfl, hbel⟩

theorem walkPackParts (p g s q h t : Int) (w : World) (_ : -9223372036854775808 ≤ p ∧ p ≤ 9223372036854775807) (_ : -9223372036854775808 ≤ g ∧ g ≤ 9223372036854775807) (_ : -9223372036854775808 ≤ s ∧ s ≤ 9223372036854775807) (_ : -9223372036854775808 ≤ q ∧ q ≤ 9223372036854775807) (_ : -9223372036854775808 ≤ h ∧ h ≤ 9223372036854775807) (_ : -9223372036854775808 ≤ t ∧ t ≤ 9223372036854775807) :
    Calls Try.prog 5 #[.int .i64 p, .int .i64 g, .int .i64 s, .int .i64 q, .int .i64 h, .int .i64 t] w fun e w' => e = .returned (.bool true) ∧ Below w.heap.size w w' := by
  by_cases k1 : 1 ≤ g ∧ g ≤ 1023 ∧ 0 ≤ s ∧ s ≤ 255
  · by_cases k2 : 1 ≤ h ∧ h ≤ 1023 ∧ 0 ≤ t ∧ t ≤ 255
    · obtain ⟨g1, g2, s1, s2⟩ := k1
      obtain ⟨h1, h2, t1, t2⟩ := k2
      by_cases k3 : 0 ≤ p ∧ p ≤ 1048575
      · by_cases k4 : 0 ≤ q ∧ q ≤ 1048575
        · exact parts_in p g s q h t w g1 g2 s1 s2 h1 h2 t1 t2 k3.1 k3.2 k4.1 k4.2
        · obtain ⟨p1, p2⟩ := k3
          have a1 := gw_of p g s g1 g2 s1 s2
          have K4 := Lib.hid k4
          clear k4
          go_enter Try.func5, Try.ntmps5
          go_wp2_with fail
          refine (handle_ok g s _ g1 g2 s1 s2).mono ?_; rintro e w' ⟨rfl, rfl⟩
          go_wp2_with fail
          refine (handle_ok h t _ h1 h2 t1 t2).mono ?_; rintro e w' ⟨rfl, rfl⟩
          go_wp2_with fail
          refine (word_ok p _ _ p1 p2 a1).mono ?_; rintro e w' ⟨rfl, rfl⟩
          go_wp2_with fail
          refine (word_no q _ _ (fun h => K4.out ⟨h.1, h.2.1⟩)).mono ?_; rintro e w' ⟨rfl, rfl⟩
          go_wp2_with (go_at_call 9; refine (wakes_any _).mono ?_; rintro e w' ⟨rfl, hbel⟩)
          go_ret
          exact ⟨rfl, hbel⟩
      · have K3 := Lib.hid k3
        clear k3
        go_enter Try.func5, Try.ntmps5
        go_wp2_with fail
        refine (handle_ok g s _ g1 g2 s1 s2).mono ?_; rintro e w' ⟨rfl, rfl⟩
        go_wp2_with fail
        refine (handle_ok h t _ h1 h2 t1 t2).mono ?_; rintro e w' ⟨rfl, rfl⟩
        go_wp2_with fail
        refine (word_no p _ _ (fun h => K3.out ⟨h.1, h.2.1⟩)).mono ?_; rintro e w' ⟨rfl, rfl⟩
        go_wp2_with fail
        refine (word_some q _ _).mono ?_; rintro e w' ⟨r, f, rfl, rfl⟩
        go_wp2_with (go_at_call 9; refine (wakes_any _).mono ?_; rintro e w' ⟨rfl, hbel⟩)
        go_ret
        exact ⟨rfl, hbel⟩
    · obtain ⟨g1, g2, s1, s2⟩ := k1
      have K2 := Lib.hid k2
      clear k2
      go_enter Try.func5, Try.ntmps5
      go_wp2_with fail
      refine (handle_ok g s _ g1 g2 s1 s2).mono ?_; rintro e w' ⟨rfl, rfl⟩
      go_wp2_with fail
      refine (handle_no h t _ K2.out).mono ?_; rintro e w' ⟨rfl, rfl⟩
      go_wp2_with (go_at_call 9; refine (wakes_any _).mono ?_; rintro e w' ⟨rfl, hbel⟩)
      go_ret
      exact ⟨rfl, hbel⟩
  · have K1 := Lib.hid k1
    clear k1
    go_enter Try.func5, Try.ntmps5
    go_wp2_with fail
    refine (handle_no g s _ K1.out).mono ?_; rintro e w' ⟨rfl, rfl⟩
    go_wp2_with fail
    refine (handle_some h t _).mono ?_; rintro e w' ⟨r, f, rfl, rfl⟩
    go_wp2_with (go_at_call 9; refine (wakes_any _).mono ?_; rintro e w' ⟨rfl, hbel⟩)
    go_ret
    exact ⟨rfl, hbel⟩
end Go.Proofs.Ythkelpnjfggmcaa
