/- What is proved: what a slice of acts that comes in as an argument gives to a walk: it reads as a list of acts whose numbers are in range, and is short of 2^47. -/
import Derived.Test.YtjahhheipeggeaaFrmD
import Derived.Test.YtjahhheipeggeaaDskT
namespace Go.Proofs.Ytjahhheipeggeaa
open Go.ChangeShapes Go.WideShapes Go.ChangeAt Go.RowKit Go.Deep

theorem cells_act : Try.prog.cellsOf 47 = 5 := by kernel_rfl
theorem bytes_act : Try.prog.bytesOf 47 = 48 := by kernel_rfl
theorem cells_u64 : Try.prog.cellsOf 25 = 1 := by kernel_rfl
theorem fields_act : ∃ f0 f1 f2 f3 f4 : Field, Try.prog.underlying 47 = some (.struct #[f0, f1, f2, f3, f4]) ∧ f0.type = 3 ∧ f0.offset = 0 ∧ f1.type = 3 ∧ f1.offset = 1 ∧ f2.type = 3 ∧ f2.offset = 2 ∧
    f3.type = 9 ∧ f3.offset = 3 ∧ f4.type = 25 ∧ f4.offset = 4 := ⟨_, _, _, _, _, Try.underlying47, rfl, rfl, rfl, rfl, rfl, rfl, rfl, rfl, rfl, rfl⟩
def noAct : DAct := ⟨0, 0, 0, ⟨#[]⟩, 0⟩
section
variable {H : Type} {enc : TypeId × Value → H} {w : World} {base : Nat} {spare : Nat → Bool} {held : Bool}
/-- An act's five cells. -/
theorem open_act {n : Nat} {cs : List Value} {x : DataW H × List MemPlace} (h : DataW.trod enc Try.prog w base spare held n 47 cs = some x) : ∃ s : DAct, cs = s.cells ∧ s.In := by
  obtain ⟨f0, f1, f2, f3, f4, hu, t0, o0, t1, o1, t2, o2, t3, o3, t4, o4⟩ := fields_act
  obtain ⟨xs, m, _, _, hl, hlen, hf⟩ := DataW.trod_struct hu h
  match xs, hlen with
  | [y0, y1, y2, y3, y4], _ =>
    have h0 := hf 0 f0 rfl
    have h1 := hf 1 f1 rfl
    have h2 := hf 2 f2 rfl
    have h3 := hf 3 f3 rfl
    have h4 := hf 4 f4 rfl
    rw [t0, o0, cells_int] at h0
    rw [t1, o1, cells_int] at h1
    rw [t2, o2, cells_int] at h2
    rw [t3, o3, cells_string] at h3
    rw [t4, o4, cells_u64] at h4
    rw [cells_act] at hl
    obtain ⟨i, e0, _, w0⟩ := DataW.trod_int Try.underlying3 h0
    obtain ⟨j, e1, _, w1⟩ := DataW.trod_int Try.underlying3 h1
    obtain ⟨k, e2, _, w2⟩ := DataW.trod_int Try.underlying3 h2
    obtain ⟨b, e3, _⟩ := DataW.trod_string Try.underlying9 h3
    obtain ⟨u, e4, _, w4⟩ := DataW.trod_int Try.underlying25 h4
    match cs, hl with
    | [c0, c1, c2, c3, c4], _ =>
      simp at e0 e1 e2 e3 e4
      exact ⟨⟨i, j, k, b, u⟩, by rw [e0, e1, e2, e3, e4]; rfl, wf64 w0, wf64 w1, wf64 w2, (wfu64 w4).1, (wfu64 w4).2⟩
theorem acts_get {l : List DAct} {j : Nat} {u : Value} (h : (acts l)[j]? = some u) : ∃ s, l[j / 5]? = some s ∧ s.cells[j % 5]? = some u := by
  have hj := (List.getElem?_eq_some_iff.1 h).1
  rw [acts_length] at hj
  have hk : j / 5 < l.length := by omega
  refine ⟨l[j / 5], List.getElem?_eq_getElem hk, ?_⟩
  have f := flat_at DAct.cells 5 (fun _ => rfl) l (j / 5) (j % 5) hk (Nat.mod_lt _ (by decide))
  rw [show j / 5 * 5 + j % 5 = j by omega] at f
  exact f.symm.trans h
theorem open_acts {fuel : Nat} {cs : List Value} {x : DataW H × List MemPlace} (h : DataW.trod enc Try.prog w base spare held fuel 43 cs = some x) (hs : ∀ b, spare b = true) :
    ∃ a n c l, cs = [.slice a n c] ∧ Rg 5 w 0 w.heap.size a n (acts l) ∧ (∀ (k : Nat) (y : DAct), l[k]? = some y → y.In) ∧ (n = 0 ∨ ∃ xs ys, x.1 = .slice xs ys ∧ xs.length = n) := by
  rcases open_slice Try.underlying43 h with ⟨rfl, _⟩ | ⟨a, len, cap, m, n, D, Pl, rfl, _, hl, hm, hmm, hx, hat⟩
  · exact ⟨none, 0, 0, [], rfl, Rg.nil, fun k y hk => by simp at hk, .inl rfl⟩
  · rw [hs, if_pos rfl] at hmm
    rw [cells_act] at hat
    have key : ∀ i, ∃ s : DAct, i < len → s.In ∧ ∀ q u, s.cells[q]? = some u → w.cell? (a.add (i * 5 + q)) = some u := by
      intro i
      by_cases hi : i < len
      · obtain ⟨cs', hc, ht⟩ := hat i (by omega)
        obtain ⟨s, rfl, hin⟩ := open_act ht
        obtain ⟨_, _, hc⟩ := World.cells?_some hc
        refine ⟨s, fun _ => ⟨hin, fun q u hq => ?_⟩⟩
        have hq5 : q < 5 := (List.getElem?_eq_some_iff.1 hq).1
        have := hc q hq5
        rw [Go.Deep.add_add] at this
        rw [this]
        first | exact hq | (rw [List.getElem?_eq_getElem (show q < s.cells.length from hq5)] at hq; exact hq)
      · exact ⟨noAct, fun h => absurd h hi⟩
    obtain ⟨f, hf⟩ := Classical.skolem.1 key
    refine ⟨some a, len, cap, (List.range len).map f, rfl, ⟨by rw [acts_length]; simp, ?_⟩, ?_, .inr ⟨_, _, by rw [hx], by simp⟩⟩
    · by_cases h0 : len = 0
      · exact .inl h0
      · obtain ⟨b, o, s⟩ := a
        have hc0 := (hf 0 (by omega)).2 0 _ rfl
        have hsp : s = none := by simpa [Addr.add] using World.cell?_spot hc0
        subst hsp
        refine .inr ⟨b, o, rfl, Nat.zero_le _, World.block_lt_of_cell? w ⟨b, o, none⟩ (by simpa [Addr.add] using hc0), fun j u hu => ?_⟩
        obtain ⟨s, hs1, hs2⟩ := acts_get hu
        have hj := (List.getElem?_eq_some_iff.1 hs1).1
        simp at hj
        simp [hj] at hs1
        subst hs1
        have g := (hf (j / 5) hj).2 _ _ hs2
        rwa [Addr.add_lit, show j / 5 * 5 + j % 5 = j by omega] at g
    · intro k y hk
      have hj := (List.getElem?_eq_some_iff.1 hk).1
      simp at hj
      simp [hj] at hk
      subst hk
      exact (hf k hj).1
/-- An act that comes in by value. -/
theorem open_act_arg {r : Reach} {b0 : Nat} {v : Value} {d : DataW H} {p : List MemPlace} (hv : Value.okWide Try.prog w r b0 47 v) (h : DataW.Trod enc Try.prog w base spare held 47 v d p) : ∃ s : DAct, v = s.val ∧ s.In := by
  obtain ⟨_, _, _, _, _, hu, _⟩ := fields_act
  obtain ⟨cs, rfl, _⟩ := okWide_struct hu hv
  obtain ⟨fuel, hf⟩ := h
  obtain ⟨s, hs, hin⟩ := open_act hf
  refine ⟨s, ?_, hin⟩
  have : cs = s.cells.toArray := by
    rw [← hs]
    simp [Value.cells]
  rw [this]
  rfl
end
end Go.Proofs.Ytjahhheipeggeaa
