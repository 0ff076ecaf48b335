/- What is proved: what records, states, writes that come in as arguments give to a walk: slices that read as lists, numbers in range. -/
import Derived.Test.YtmbphhcgmdaoeaaFrm
import Derived.Test.YtmbphhcgmdaoeaaRcS
import Derived.Lib.SmallJoins
import Derived.Deep.Slices
import Derived.ChangeMaps5
import Derived.Laws.IdiomArrays
namespace Go.Proofs.Ytmbphhcgmdaoeaa
open Go.ChangeShapes Go.WideShapes Go.ChangeAt Go.RowKit Go.Deep

def RecIn (w : World) (v : Value) (r : Rc) : Prop := RecV w 0 w.heap.size v r ∧ I64 r.place ∧ ∀ x ∈ r.ws, x.In
def StIn (w : World) (v : Value) (s : St) : Prop := StV w 0 w.heap.size v s ∧ I64 s.place ∧ I64 s.c0 ∧ I64 s.c1 ∧ I64 s.c2 ∧ (∀ x ∈ s.items, x.In) ∧ (∀ x ∈ s.l0, x.In) ∧ (∀ x ∈ s.l1, x.In) ∧ (∀ x ∈ s.l2, x.In)
def WsIn (w : World) (v : Value) (l : List Wr) : Prop := Sl 2 w 0 w.heap.size v l.length (wrC l) ∧ ∀ x ∈ l, x.In
def WrIn (v : Value) (x : Wr) : Prop := v = .agg #[.int .i64 x.key, .int .i64 x.val] ∧ x.In
theorem cells_wr : Try.prog.cellsOf 56 = 2 := by kernel_rfl
theorem cells_it : Try.prog.cellsOf 51 = 3 := by kernel_rfl
theorem cells_ln : Try.prog.cellsOf 53 = 5 := by kernel_rfl
theorem cells_rec : Try.prog.cellsOf 24 = 3 := by kernel_rfl
theorem cells_st : Try.prog.cellsOf 30 = 8 := by kernel_rfl
theorem cells_int : Try.prog.cellsOf 3 = 1 := by kernel_rfl
theorem cells_lns : Try.prog.cellsOf 26 = 1 := by kernel_rfl
theorem cells_its : Try.prog.cellsOf 25 = 1 := by kernel_rfl
theorem cells_arr : Try.prog.cellsOf 27 = 3 := by kernel_rfl
theorem cells_cut : Try.prog.cellsOf 28 = 3 := by kernel_rfl
theorem fields_wr : ∃ f0 f1 : Field, Try.prog.underlying 56 = some (.struct #[f0, f1]) ∧ f0.type = 3 ∧ f0.offset = 0 ∧ f1.type = 3 ∧ f1.offset = 1 := ⟨_, _, Try.underlying56, rfl, rfl, rfl, rfl⟩
theorem fields_it : ∃ f0 f1 f2 : Field, Try.prog.underlying 51 = some (.struct #[f0, f1, f2]) ∧ f0.type = 3 ∧ f0.offset = 0 ∧ f1.type = 3 ∧ f1.offset = 1 ∧ f2.type = 3 ∧ f2.offset = 2 := ⟨_, _, _, Try.underlying51, rfl, rfl, rfl, rfl, rfl, rfl⟩
theorem fields_ln : ∃ f0 f1 f2 f3 f4 : Field, Try.prog.underlying 53 = some (.struct #[f0, f1, f2, f3, f4]) ∧ f0.type = 3 ∧ f0.offset = 0 ∧ f1.type = 3 ∧ f1.offset = 1 ∧ f2.type = 3 ∧ f2.offset = 2 ∧ f3.type = 3 ∧ f3.offset = 3 ∧ f4.type = 3 ∧ f4.offset = 4 := ⟨_, _, _, _, _, Try.underlying53, rfl, rfl, rfl, rfl, rfl, rfl, rfl, rfl, rfl, rfl⟩
theorem fields_rec : ∃ f0 f1 f2 : Field, Try.prog.underlying 24 = some (.struct #[f0, f1, f2]) ∧ f0.type = 3 ∧ f1.type = 4 ∧ f2.type = 22 ∧ oneCellFields Try.prog #[f0, f1, f2] = true := ⟨_, _, _, Try.underlying24, rfl, rfl, rfl, by kernel_rfl⟩
theorem fields_st : ∃ f0 f1 f2 f3 : Field, Try.prog.underlying 30 = some (.struct #[f0, f1, f2, f3]) ∧ f0.type = 3 ∧ f0.offset = 0 ∧ f1.type = 25 ∧ f1.offset = 1 ∧ f2.type = 27 ∧ f2.offset = 2 ∧ f3.type = 28 ∧ f3.offset = 5 := ⟨_, _, _, _, Try.underlying30, rfl, rfl, rfl, rfl, rfl, rfl, rfl, rfl⟩
section
variable {H : Type} {enc : TypeId × Value → H} {w : World} {base : Nat} {spare : Nat → Bool} {held : Bool}
set_option maxRecDepth 100000 in
theorem open_wr {n : Nat} {cs : List Value} {x : DataW H × List MemPlace} (h : DataW.trod enc Try.prog w base spare held n 56 cs = some x) : ∃ s : Wr, cs = s.cells ∧ s.In := by
  obtain ⟨f0, f1, hu, t0, o0, t1, o1⟩ := fields_wr
  obtain ⟨xs, m, _, _, hl, hlen, hf⟩ := DataW.trod_struct hu h
  match xs, hlen with
  | [y0, y1], _ =>
    have h0 := hf 0 f0 rfl
    have h1 := hf 1 f1 rfl
    rw [t0, o0, cells_int] at h0
    rw [t1, o1, cells_int] at h1
    rw [cells_wr] at hl
    obtain ⟨i, e0, _, w0⟩ := DataW.trod_int Try.underlying3 h0
    obtain ⟨j, e1, _, w1⟩ := DataW.trod_int Try.underlying3 h1
    match cs, hl with
    | [c0, c1], _ =>
      simp at e0 e1
      exact ⟨⟨i, j⟩, by rw [e0, e1]; rfl, wf64 w0, wf64 w1⟩
set_option maxRecDepth 100000 in
theorem open_it {n : Nat} {cs : List Value} {x : DataW H × List MemPlace} (h : DataW.trod enc Try.prog w base spare held n 51 cs = some x) : ∃ s : It, cs = s.cells ∧ s.In := by
  obtain ⟨f0, f1, f2, hu, t0, o0, t1, o1, t2, o2⟩ := fields_it
  obtain ⟨xs, m, _, _, hl, hlen, hf⟩ := DataW.trod_struct hu h
  match xs, hlen with
  | [y0, y1, y2], _ =>
    have h0 := hf 0 f0 rfl
    have h1 := hf 1 f1 rfl
    have h2 := hf 2 f2 rfl
    rw [t0, o0, cells_int] at h0
    rw [t1, o1, cells_int] at h1
    rw [t2, o2, cells_int] at h2
    rw [cells_it] at hl
    obtain ⟨i, e0, _, w0⟩ := DataW.trod_int Try.underlying3 h0
    obtain ⟨j, e1, _, w1⟩ := DataW.trod_int Try.underlying3 h1
    obtain ⟨k, e2, _, w2⟩ := DataW.trod_int Try.underlying3 h2
    match cs, hl with
    | [c0, c1, c2], _ =>
      simp at e0 e1 e2
      exact ⟨⟨i, j, k⟩, by rw [e0, e1, e2]; rfl, wf64 w0, wf64 w1, wf64 w2⟩
set_option maxRecDepth 100000 in
theorem open_ln {n : Nat} {cs : List Value} {x : DataW H × List MemPlace} (h : DataW.trod enc Try.prog w base spare held n 53 cs = some x) : ∃ s : Ln, cs = s.cells ∧ s.In := by
  obtain ⟨f0, f1, f2, f3, f4, hu, t0, o0, t1, o1, t2, o2, t3, o3, t4, o4⟩ := fields_ln
  obtain ⟨xs, m, _, _, hl, hlen, hf⟩ := DataW.trod_struct hu h
  match xs, hlen with
  | [y0, y1, y2, y3, y4], _ =>
    have h0 := hf 0 f0 rfl
    have h1 := hf 1 f1 rfl
    have h2 := hf 2 f2 rfl
    have h3 := hf 3 f3 rfl
    have h4 := hf 4 f4 rfl
    rw [t0, o0, cells_int] at h0
    rw [t1, o1, cells_int] at h1
    rw [t2, o2, cells_int] at h2
    rw [t3, o3, cells_int] at h3
    rw [t4, o4, cells_int] at h4
    rw [cells_ln] at hl
    obtain ⟨i, e0, _, w0⟩ := DataW.trod_int Try.underlying3 h0
    obtain ⟨j, e1, _, w1⟩ := DataW.trod_int Try.underlying3 h1
    obtain ⟨k, e2, _, w2⟩ := DataW.trod_int Try.underlying3 h2
    obtain ⟨l, e3, _, w3⟩ := DataW.trod_int Try.underlying3 h3
    obtain ⟨m, e4, _, w4⟩ := DataW.trod_int Try.underlying3 h4
    match cs, hl with
    | [c0, c1, c2, c3, c4], _ =>
      simp at e0 e1 e2 e3 e4
      exact ⟨⟨i, j, k, l, m⟩, by rw [e0, e1, e2, e3, e4]; rfl, wf64 w0, wf64 w1, wf64 w2, wf64 w3, wf64 w4⟩
theorem flat_get {α : Type} {f : α → List Value} {size : Nat} (h0 : 0 < size) (hf : ∀ x, (f x).length = size) {l : List α} {j : Nat} {u : Value} (h : (l.flatMap f)[j]? = some u) : ∃ s, l[j / size]? = some s ∧ (f s)[j % size]? = some u := by
  have hj := (List.getElem?_eq_some_iff.1 h).1
  rw [flat_length f size hf] at hj
  have hk : j / size < l.length := (Nat.div_lt_iff_lt_mul h0).2 hj
  refine ⟨l[j / size], List.getElem?_eq_getElem hk, ?_⟩
  have g := flat_at f size hf l (j / size) (j % size) hk (Nat.mod_lt _ h0)
  rw [show j / size * size + j % size = j by rw [Nat.mul_comm]; exact Nat.div_add_mod j size] at g
  exact g.symm.trans h
set_option maxRecDepth 100000 in
/-- A slice of rows of cells, whatever the elements. -/
theorem open_rows {α : Type} {f : α → List Value} {In : α → Prop} {size : Nat} (h0 : 0 < size) (hf : ∀ x, (f x).length = size) (d : α) {t e : TypeId} (hu : Try.prog.underlying t = some (.slice e)) (hc : Try.prog.cellsOf e = size)
    (ho : ∀ (n : Nat) (cs : List Value) (x : DataW H × List MemPlace), DataW.trod enc Try.prog w base spare held n e cs = some x → ∃ s, cs = f s ∧ In s)
    {fuel : Nat} {cs : List Value} {x : DataW H × List MemPlace} (h : DataW.trod enc Try.prog w base spare held fuel t cs = some x) (hs : ∀ b, spare b = true) :
    ∃ (v : Value) (l : List α), cs = [v] ∧ Sl size w 0 w.heap.size v l.length (l.flatMap f) ∧ ∀ y ∈ l, In y := by
  rcases open_slice hu h with ⟨rfl, _⟩ | ⟨a, len, cap, m, n, D, Pl, rfl, _, hl, hm, hmm, hx, hat⟩
  · exact ⟨_, [], rfl, Sl.nil _ _ _ _, fun y hy => absurd hy (List.not_mem_nil)⟩
  · rw [hs, if_pos rfl] at hmm
    rw [hc] at hat
    have key : ∀ i, ∃ s : α, i < len → In s ∧ ∀ q u, (f s)[q]? = some u → w.cell? (a.add (i * size + q)) = some u := by
      intro i
      by_cases hi : i < len
      · obtain ⟨cs', hc', ht⟩ := hat i (by omega)
        obtain ⟨s, rfl, hin⟩ := ho _ _ _ ht
        obtain ⟨_, _, hc'⟩ := World.cells?_some hc'
        refine ⟨s, fun _ => ⟨hin, fun q u hq => ?_⟩⟩
        have hq5 : q < (f s).length := (List.getElem?_eq_some_iff.1 hq).1
        have := hc' q (by rw [← hf s]; exact hq5)
        rw [Go.Deep.add_add] at this
        rw [this]
        first | exact hq | (rw [List.getElem?_eq_getElem hq5] at hq; exact hq)
      · exact ⟨d, fun h => absurd h hi⟩
    obtain ⟨g, hg⟩ := Classical.skolem.1 key
    have hlen : ((List.range len).map g).length = len := by simp
    refine ⟨_, (List.range len).map g, rfl, ⟨some a, cap, by rw [hlen], by rw [hlen]; exact hl, hm, by rw [flat_length f size hf], ?_⟩, fun y hy => ?_⟩
    · rw [hlen]
      by_cases h0' : len = 0
      · exact .inl h0'
      · obtain ⟨b, o, s⟩ := a
        have hq0 : 0 < (f (g 0)).length := by rw [hf]; exact h0
        have hc0 := (hg 0 (by omega)).2 0 _ (List.getElem?_eq_getElem hq0)
        have hsp : s = none := by simpa [Addr.add] using World.cell?_spot hc0
        subst hsp
        refine .inr ⟨b, o, rfl, Nat.zero_le _, World.block_lt_of_cell? w ⟨b, o, none⟩ (by simpa [Addr.add] using hc0), fun j u hu => ?_⟩
        obtain ⟨s, hs1, hs2⟩ := flat_get h0 hf hu
        have hj := (List.getElem?_eq_some_iff.1 hs1).1
        simp at hj
        simp [hj] at hs1
        subst hs1
        have q := (hg (j / size) hj).2 _ _ hs2
        rwa [Addr.add_lit, show j / size * size + j % size = j by rw [Nat.mul_comm]; exact Nat.div_add_mod j size] at q
    · obtain ⟨i, hi, rfl⟩ := List.mem_map.1 hy
      exact (hg i (List.mem_range.1 hi)).1
set_option maxRecDepth 100000 in
theorem open_wrs {fuel : Nat} {cs : List Value} {x : DataW H × List MemPlace} (h : DataW.trod enc Try.prog w base spare held fuel 22 cs = some x) (hs : ∀ b, spare b = true) :
    ∃ (v : Value) (l : List Wr), cs = [v] ∧ Sl 2 w 0 w.heap.size v l.length (wrC l) ∧ ∀ y ∈ l, y.In := open_rows (f := Wr.cells) (In := Wr.In) (size := 2) (by decide) (fun _ => rfl) wrD Try.underlying22 cells_wr (fun _ _ _ => open_wr) h hs
set_option maxRecDepth 100000 in
theorem open_its {fuel : Nat} {cs : List Value} {x : DataW H × List MemPlace} (h : DataW.trod enc Try.prog w base spare held fuel 25 cs = some x) (hs : ∀ b, spare b = true) :
    ∃ (v : Value) (l : List It), cs = [v] ∧ Sl 3 w 0 w.heap.size v l.length (itC l) ∧ ∀ y ∈ l, y.In := open_rows (f := It.cells) (In := It.In) (size := 3) (by decide) (fun _ => rfl) itD Try.underlying25 cells_it (fun _ _ _ => open_it) h hs
set_option maxRecDepth 100000 in
theorem open_lns {fuel : Nat} {cs : List Value} {x : DataW H × List MemPlace} (h : DataW.trod enc Try.prog w base spare held fuel 26 cs = some x) (hs : ∀ b, spare b = true) :
    ∃ (v : Value) (l : List Ln), cs = [v] ∧ Sl 5 w 0 w.heap.size v l.length (lnC l) ∧ ∀ y ∈ l, y.In := open_rows (f := Ln.cells) (In := Ln.In) (size := 5) (by decide) (fun _ => rfl) lnD Try.underlying26 cells_ln (fun _ _ _ => open_ln) h hs
set_option maxRecDepth 100000 in
theorem open_writes {r : Reach} {b0 : Nat} {v : Value} {d : DataW H} {p : List MemPlace} (_ : Value.okWide Try.prog w r b0 22 v) (h : DataW.Trod enc Try.prog w base spare held 22 v d p) (hs : ∀ b, spare b = true) (hc : v.cells = #[v]) : ∃ l, WsIn w v l := by
  obtain ⟨fuel, hf⟩ := h
  rw [hc] at hf
  obtain ⟨u, l, e, h1, h2⟩ := open_wrs hf hs
  cases e
  exact ⟨l, h1, h2⟩
set_option maxRecDepth 100000 in
theorem open_write {r : Reach} {b0 : Nat} {v : Value} {d : DataW H} {p : List MemPlace} (hv : Value.okWide Try.prog w r b0 56 v) (h : DataW.Trod enc Try.prog w base spare held 56 v d p) : ∃ x, WrIn v x := by
  obtain ⟨_, _, hu, _⟩ := fields_wr
  obtain ⟨cs, rfl, _⟩ := okWide_struct hu hv
  obtain ⟨fuel, hf⟩ := h
  obtain ⟨s, hs, hin⟩ := open_wr hf
  refine ⟨s, ?_, hin⟩
  have : cs = s.cells.toArray := by
    rw [← hs]
    simp [Value.cells]
  rw [this]
  rfl
set_option maxRecDepth 100000 in
theorem open_record {r : Reach} {b0 : Nat} {v : Value} {d : DataW H} {p : List MemPlace} (hv : Value.okWide Try.prog w r b0 24 v) (h : DataW.Trod enc Try.prog w base spare held 24 v d p) (hs : ∀ b, spare b = true) : ∃ x, RecIn w v x := by
  obtain ⟨f0, f1, f2, hu, t0, t1, t2, hone⟩ := fields_rec
  obtain ⟨v0, v1, v2, y0, y1, y2, n, rfl, _, _, h0, h1, h2⟩ := Go.Joins.open_agg3 hu hone cells_rec hv h
  rw [t0] at h0
  rw [t1] at h1
  rw [t2] at h2
  obtain ⟨i, e0, _, w0⟩ := DataW.trod_int Try.underlying3 h0
  obtain ⟨b, e1, _⟩ := DataW.trod_bool Try.underlying4 h1
  obtain ⟨u, l, e2, g1, g2⟩ := open_wrs h2 hs
  cases e0
  cases e1
  cases e2
  exact ⟨⟨i, b, l⟩, ⟨_, rfl, g1⟩, wf64 w0, g2⟩
set_option maxRecDepth 100000 in
theorem open_state {r : Reach} {b0 : Nat} {v : Value} {d : DataW H} {p : List MemPlace} (hv : Value.okWide Try.prog w r b0 30 v) (h : DataW.Trod enc Try.prog w base spare held 30 v d p) (hs : ∀ b, spare b = true) : ∃ x, StIn w v x := by
  obtain ⟨f0, f1, f2, f3, hu, t0, o0, t1, o1, t2, o2, t3, o3⟩ := fields_st
  obtain ⟨cs, rfl, hsz⟩ := okWide_struct hu hv
  rw [cells_st] at hsz
  obtain ⟨fuel, hf⟩ := h
  obtain ⟨xs, m, _, _, hl, hlen, hg⟩ := DataW.trod_struct hu hf
  match xs, hlen with
  | [y0, y1, y2, y3], _ =>
    have h0 := hg 0 f0 rfl
    have h1 := hg 1 f1 rfl
    have h2 := hg 2 f2 rfl
    have h3 := hg 3 f3 rfl
    rw [t0, o0, cells_int] at h0
    rw [t1, o1, cells_its] at h1
    rw [t2, o2, cells_arr] at h2
    rw [t3, o3, cells_cut] at h3
    obtain ⟨cs⟩ := cs
    match cs, hsz with
    | [c0, c1, c2, c3, c4, c5, c6, c7], _ =>
      simp [Value.cells] at h0 h1 h2 h3
      obtain ⟨i, e0, _, w0⟩ := DataW.trod_int Try.underlying3 h0
      obtain ⟨u1, l, e1, g1, g2⟩ := open_its h1 hs
      obtain ⟨a0, a1, a2, n2, _, b0', b1, b2⟩ := trod_array3 Try.underlying27 cells_lns h2
      obtain ⟨a3, a4, a5, n3, _, b3, b4, b5⟩ := trod_array3 Try.underlying28 cells_int h3
      obtain ⟨u2, l2, e2, g3, g4⟩ := open_lns b0' hs
      obtain ⟨u3, l3, e3, g5, g6⟩ := open_lns b1 hs
      obtain ⟨u4, l4, e4, g7, g8⟩ := open_lns b2 hs
      obtain ⟨k0, e5, _, w5⟩ := DataW.trod_int Try.underlying3 b3
      obtain ⟨k1, e6, _, w6⟩ := DataW.trod_int Try.underlying3 b4
      obtain ⟨k2, e7, _, w7⟩ := DataW.trod_int Try.underlying3 b5
      cases e0
      cases e1
      cases e2
      cases e3
      cases e4
      cases e5
      cases e6
      cases e7
      exact ⟨⟨i, l, l2, l3, l4, k0, k1, k2⟩, ⟨_, _, _, _, rfl, g1, g3, g5, g7⟩, wf64 w0, wf64 w5, wf64 w6, wf64 w7, g2, g4, g6, g8⟩
end
end Go.Proofs.Ytmbphhcgmdaoeaa
