/- What is proved: what a disk that comes in as an argument gives to a walk: two slices that read as lists of sectors. -/
import Derived.Test.YtjahhheipeggeaaFrm
import Derived.Test.YtjahhheipeggeaaDskL
import Derived.Lib.SmallJoins
import Derived.Deep.Slices
import Derived.ChangeMaps5
namespace Go.Proofs.Ytjahhheipeggeaa
open Go.ChangeShapes Go.WideShapes Go.ChangeAt Go.RowKit Go.Deep

theorem secs_get {l : List Sec} {j : Nat} {u : Value} (h : (secs l)[j]? = some u) : ∃ s, l[j / 2]? = some s ∧ ((j % 2 = 0 ∧ u = .int .i64 s.n) ∨ (j % 2 = 1 ∧ u = .string s.b)) := by
  have hj := (List.getElem?_eq_some_iff.1 h).1
  rw [secs_length] at hj
  have hk : j / 2 < l.length := by omega
  refine ⟨l[j / 2], List.getElem?_eq_getElem hk, ?_⟩
  by_cases hr : j % 2 = 0
  · refine .inl ⟨hr, ?_⟩
    have := secs_n l (j / 2) hk
    rw [show j / 2 * 2 = j by omega, h] at this
    exact Option.some.inj this
  · refine .inr ⟨by omega, ?_⟩
    have := secs_b l (j / 2) hk
    rw [show j / 2 * 2 + 1 = j by omega, h] at this
    exact Option.some.inj this
theorem cells_sec : Try.prog.cellsOf 35 = 2 := by kernel_rfl
theorem fields_sec : ∃ f0 f1 : Field, Try.prog.underlying 35 = some (.struct #[f0, f1]) ∧ f0.type = 3 ∧ f0.offset = 0 ∧ f1.type = 9 ∧ f1.offset = 1 := ⟨_, _, Try.underlying35, rfl, rfl, rfl, rfl⟩
theorem cells_int : Try.prog.cellsOf 3 = 1 := by kernel_rfl
theorem cells_string : Try.prog.cellsOf 9 = 1 := by kernel_rfl
section
variable {H : Type} {enc : TypeId × Value → H} {w : World} {base : Nat} {spare : Nat → Bool} {held : Bool}
/-- A sector's two cells. -/
theorem open_sec {n : Nat} {cs : List Value} {x : DataW H × List MemPlace} (h : DataW.trod enc Try.prog w base spare held n 35 cs = some x) : ∃ s : Sec, cs = s.cells := by
  obtain ⟨f0, f1, hu, t0, o0, t1, o1⟩ := fields_sec
  obtain ⟨y0, y1, m, _, hl, h0, h1⟩ := trod_struct2 hu h
  rw [t0, o0, cells_int] at h0
  rw [t1, o1, cells_string] at h1
  rw [cells_sec] at hl
  obtain ⟨i, e0, _⟩ := DataW.trod_int Try.underlying3 h0
  obtain ⟨b, e1, _⟩ := DataW.trod_string Try.underlying9 h1
  match cs, hl with
  | [c0, c1], _ =>
    simp at e0 e1
    exact ⟨⟨i, b⟩, by rw [e0, e1]; rfl⟩
theorem open_secs {fuel : Nat} {cs : List Value} {x : DataW H × List MemPlace} (h : DataW.trod enc Try.prog w base spare held fuel 22 cs = some x) (hs : ∀ b, spare b = true) :
    ∃ a n c l, cs = [.slice a n c] ∧ Rg 2 w 0 w.heap.size a n (secs l) ∧ n ≤ c ∧ c ≤ maxLen := by
  rcases open_slice Try.underlying22 h with ⟨rfl, _⟩ | ⟨a, len, cap, m, n, D, Pl, rfl, _, hl, hm, hmm, _, hat⟩
  · exact ⟨none, 0, 0, [], rfl, Rg.nil, Nat.le_refl _, Nat.zero_le _⟩
  · rw [hs, if_pos rfl] at hmm
    rw [cells_sec] at hat
    have key : ∀ i, ∃ s : Sec, i < len → w.cell? (a.add (i * 2)) = some (.int .i64 s.n) ∧ w.cell? (a.add (i * 2 + 1)) = some (.string s.b) := by
      intro i
      by_cases hi : i < len
      · obtain ⟨cs', hc, ht⟩ := hat i (by omega)
        obtain ⟨s, rfl⟩ := open_sec ht
        obtain ⟨_, _, hc⟩ := World.cells?_some hc
        refine ⟨s, fun _ => ⟨?_, ?_⟩⟩
        · have := hc 0 (by decide)
          rw [Go.Deep.add_add] at this
          exact this
        · have := hc 1 (by decide)
          rw [Go.Deep.add_add] at this
          exact this
      · exact ⟨noSec, fun h => absurd h hi⟩
    obtain ⟨f, hf⟩ := Classical.skolem.1 key
    refine ⟨some a, len, cap, (List.range len).map f, rfl, ⟨by rw [secs_length]; simp, ?_⟩, hl, hm⟩
    by_cases h0 : len = 0
    · exact .inl h0
    · obtain ⟨b, o, s⟩ := a
      have hc0 := (hf 0 (by omega)).1
      have hsp : s = none := by simpa [Addr.add] using World.cell?_spot hc0
      subst hsp
      refine .inr ⟨b, o, rfl, Nat.zero_le _, World.block_lt_of_cell? w ⟨b, o, none⟩ (by simpa [Addr.add] using hc0), fun j u hu => ?_⟩
      obtain ⟨s, hs1, hs2⟩ := secs_get hu
      have hj := (List.getElem?_eq_some_iff.1 hs1).1
      simp at hj
      simp [hj] at hs1
      subst hs1
      obtain ⟨g1, g2⟩ := hf (j / 2) hj
      rw [Addr.add_lit] at g1 g2
      rcases hs2 with ⟨hr, rfl⟩ | ⟨hr, rfl⟩
      · rwa [show j / 2 * 2 = j by omega] at g1
      · rwa [show j / 2 * 2 + 1 = j by omega] at g2
theorem fields_disk : ∃ f0 f1 : Field, Try.prog.underlying 24 = some (.struct #[f0, f1]) ∧ f0.type = 22 ∧ f1.type = 22 ∧ oneCellFields Try.prog #[f0, f1] = true := ⟨_, _, Try.underlying24, rfl, rfl, by kernel_rfl⟩
theorem open_disk {r : Reach} {b0 : Nat} {v : Value} {d : DataW H} {p : List MemPlace} (hv : Value.okWide Try.prog w r b0 24 v) (h : DataW.Trod enc Try.prog w base spare held 24 v d p) (hs : ∀ b, spare b = true) : ∃ x : Dsk, Dk w 0 w.heap.size v x := by
  obtain ⟨f0, f1, hu, t0, t1, hone⟩ := fields_disk
  obtain ⟨v0, v1, y0, y1, n, rfl, _, _, h0, h1⟩ := Go.Joins.open_agg2 hu hone (by kernel_rfl) hv h
  rw [t0] at h0
  rw [t1] at h1
  obtain ⟨a, l, c, xs, e0, r0, k0, k1⟩ := open_secs h0 hs
  obtain ⟨a', l', c', ys, e1, r1, k2, k3⟩ := open_secs h1 hs
  cases e0
  cases e1
  exact ⟨⟨xs, ys⟩, a, l, c, a', l', c', rfl, r0, r1, k0, k2, k1, k3⟩
end
end Go.Proofs.Ytjahhheipeggeaa
