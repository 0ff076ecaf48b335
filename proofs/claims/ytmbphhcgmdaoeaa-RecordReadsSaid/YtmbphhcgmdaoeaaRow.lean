/- What is proved: general facts on slices whose elements have several cells: a slice that reads as a list of cells between two block numbers; its parts; append of one onto a row of the call's own. Nothing here speaks of the program's own functions. -/
import Derived.Test.YtmbphhcgmdaoeaaMem
import Derived.Deep.AppendLies
import Derived.RegionTactic
namespace Go.Proofs.Ytmbphhcgmdaoeaa
open Go.RowKit

/-- The slice at address a with n elements of size cells each reads as the cells xs, and lies in a block from lo on, below hi. -/
def Rg (size : Nat) (w : World) (lo hi : Nat) (a : Option Addr) (n : Nat) (xs : List Value) : Prop :=
  xs.length = n * size ∧ (n = 0 ∨ ∃ g o, a = some ⟨g, o, none⟩ ∧ lo ≤ g ∧ g < hi ∧ ∀ j u, xs[j]? = some u → w.cell? ⟨g, o + j, none⟩ = some u)
section
variable {size : Nat} {w w' : World} {lo hi n : Nat} {a : Option Addr} {xs : List Value}
theorem Rg.far (h : Rg size w lo hi a n xs) (hb : Below hi w w') : Rg size w' lo hi a n xs := by
  obtain ⟨h1, h2⟩ := h
  refine ⟨h1, h2.imp id ?_⟩
  rintro ⟨g, o, rfl, hg, hg', hc⟩
  exact ⟨g, o, rfl, hg, hg', fun j u hu => (hb.cell (p := ⟨g, o + j, none⟩) hg').trans (hc j u hu)⟩
theorem Rg.wide {lo' hi' : Nat} (h : Rg size w lo hi a n xs) (hl : lo' ≤ lo) (hh : hi ≤ hi') : Rg size w lo' hi' a n xs := by
  obtain ⟨h1, h2⟩ := h
  refine ⟨h1, h2.imp id ?_⟩
  rintro ⟨g, o, rfl, hg, hg', hc⟩
  exact ⟨g, o, rfl, by omega, by omega, hc⟩
theorem Rg.on (h : Rg size w lo hi a n xs) (hb : Below hi w w') (hh : hi ≤ w'.heap.size) : Rg size w' lo w'.heap.size a n xs := (h.far hb).wide (Nat.le_refl _) hh
theorem Rg.nil : Rg size w lo hi a 0 [] := ⟨by simp, .inl rfl⟩
theorem Rg.drew_ (h : Rg size w lo hi a n xs) : Rg size w.drew lo hi a n xs := h
theorem Rg.drewN_ (h : Rg size w lo hi a n xs) (k : Nat) : Rg size (w.drewN k) lo hi a n xs := h
theorem Rg.alloc_ (h : Rg size w lo hi a n xs) (hh : hi ≤ w.heap.size) (o : Obj) : Rg size (w.alloc o) lo hi a n xs := h.far ((Below.refl _ _).alloc hh o)
theorem Rg.set_low (h : Rg size w lo hi a n xs) {p : Addr} (hp : p.block < lo) (u : Value) : Rg size (w.setCell p u) lo hi a n xs := by
  obtain ⟨h1, h2⟩ := h
  refine ⟨h1, h2.imp id ?_⟩
  rintro ⟨g, o, rfl, hg, hg', hc⟩
  refine ⟨g, o, rfl, hg, hg', fun j v hv => (World.cell?_setCell_other w p ⟨g, o + j, none⟩ u (fun e => ?_)).trans (hc j v hv)⟩
  subst e
  exact absurd hp (Nat.not_lt.2 hg)
/-- A slice that is not empty has an address. -/
theorem Rg.addr (h : Rg size w lo hi a n xs) (hn : 0 < n) : ∃ g o, a = some ⟨g, o, none⟩ ∧ lo ≤ g ∧ g < hi ∧ ∀ j u, xs[j]? = some u → w.cell? ⟨g, o + j, none⟩ = some u := by
  rcases h.2 with h0 | h0
  · omega
  · exact h0
theorem Rg.holds (h : Rg size w lo hi a n xs) : ∀ b, a = some b → ∀ j u, xs[j]? = some u → w.cell? (b.add j) = some u := by
  obtain ⟨h1, h2 | ⟨g, o, rfl, _, _, hc⟩⟩ := h
  · subst h2
    have hn : xs = [] := List.eq_nil_of_length_eq_zero (by simpa using h1)
    subst hn
    intro b _ j u hu
    simp at hu
  · rintro b ⟨⟩ j u hu
    rw [Addr.add_lit]
    exact hc j u hu
theorem Rg.own {base e : Nat} {v : Value} (h : w.ownsRow base e size v n xs) : ∃ a c, v = .slice a n c ∧ n ≤ c ∧ c ≤ maxLen ∧ Rg size w base w.heap.size a n xs := by
  have hl := h.1
  rcases h.2 with ⟨rfl, rfl⟩ | ⟨g, cap, cur, rfl, hb, hg, hn, hm, _⟩
  · exact ⟨none, 0, rfl, Nat.le_refl _, Nat.zero_le _, hl, .inl rfl⟩
  · refine ⟨_, _, rfl, hn, hm, hl, .inr ⟨g, 0, rfl, hb, (Array.getElem?_eq_some_iff.1 hg).1, fun j u hu => ?_⟩⟩
    have := h.cells (g := g) rfl j u hu
    rwa [Addr.add_lit] at this
theorem Rg.part {g o i k : Nat} (h : Rg size w lo hi (some ⟨g, o, none⟩) n xs) (hk : i + k ≤ n) : Rg size w lo hi (some ⟨g, o + i * size, none⟩) k ((xs.drop (i * size)).take (k * size)) := by
  obtain ⟨h1, h2⟩ := h
  have hm : i * size + k * size ≤ n * size := by rw [← Nat.add_mul]; exact Nat.mul_le_mul_right _ hk
  refine ⟨by rw [List.length_take, List.length_drop]; omega, ?_⟩
  by_cases hk0 : k = 0
  · exact .inl hk0
  · rcases h2 with h2 | ⟨g', o', ha, hl, hg, hc⟩
    · omega
    · cases ha
      refine .inr ⟨g, o + i * size, rfl, hl, hg, fun j u hu => ?_⟩
      rw [Nat.add_assoc]
      refine hc (i * size + j) u ?_
      have hj := (List.getElem?_eq_some_iff.1 hu).1
      rw [List.length_take] at hj
      rw [List.getElem?_take_of_lt (by omega), List.getElem?_drop] at hu
      exact hu
theorem Rg.row {g : Nat} {e : TypeId} {cur : Array Value} (hg : w.heap[g]? = some (.cells cur e (0, 0))) (hl : lo ≤ g) (hn : xs.length = n * size) (ht : cur.toList.take (n * size) = xs) : Rg size w lo w.heap.size (some ⟨g, 0, none⟩) n xs := by
  refine ⟨hn, .inr ⟨g, 0, rfl, hl, (Array.getElem?_eq_some_iff.1 hg).1, fun j u hu => ?_⟩⟩
  rw [cell_of_row w g (0 + j) cur e (0, 0) hg, Nat.zero_add]
  rw [← ht] at hu
  have hj := (List.getElem?_eq_some_iff.1 hu).1
  rw [List.length_take] at hj
  rw [List.getElem?_take_of_lt (by omega)] at hu
  simpa using hu
end

theorem Rg.new {size n : Nat} (w : World) (e : TypeId) (cs : Array Value) (hn : cs.size = n * size) : Rg size (w.alloc (.cells cs e)) w.heap.size (w.heap.size + 1) (some ⟨w.heap.size, 0, none⟩) n cs.toList := by
  refine ⟨by simpa using hn, .inr ⟨w.heap.size, 0, rfl, Nat.le_refl _, by omega, fun j u hu => ?_⟩⟩
  rw [cell_of_row _ w.heap.size (0 + j) _ e (0, 0) (heap_alloc_new w _), Nat.zero_add]
  simpa using hu

/-! ### append of a whole slice onto a row of the call's own, whatever the elements' size -/
section
variable {P : Program}
theorem run_append_rg {W : World} {e : TypeId} (t ty : TypeId) (i : TypeInfo) (z : Value) (size bytes : Nat) (ht : P.underlying t = some (.slice e)) (hi : P.info? e = some i) (hz : i.zero = some z)
    (hsize : i.size = size) (hby : i.bytes = bytes) (hzs : z.cells.size = size) (hsz : 0 < size) {w : World} {v : Value} {n : Nat} {xs : List Value} (hbel : Below W.heap.size W w) (hown : w.ownsRow W.heap.size e size v n xs)
    {lo B : Nat} {a : Option Addr} {m : Nat} {news : List Value} (hr : Rg size w lo B a m news) (c : Nat) (h1 : ∀ u ∈ news, u.oneCell' = true)
    (h63 : n + m ≤ maxLen) (hbytes : (n + m) * bytes ≤ 140737488355328) :
    ∃ v' w', (Builtin.append_ #[t, t] ty #[v, .slice a m c]).run P w = .ok v' w' ∧ Below W.heap.size W w' ∧ w'.ownsRow W.heap.size e size v' (n + m) (xs ++ news) ∧ w.grownBy w' v.ownBlock := by
  have hl := hr.1
  rcases a with _ | ad
  · obtain rfl : m = 0 := by
      rcases hr.2 with h0 | ⟨_, _, h0, _⟩
      · exact h0
      · cases h0
    obtain rfl : news = [] := List.eq_nil_of_length_eq_zero (by simpa using hl)
    refine ⟨v, w, ?_, hbel, by simpa using hown, World.grownBy.refl w _⟩
    rcases hown.2 with ⟨rfl, rfl⟩ | ⟨g, cap, cur, rfl, _, _, hnc, _⟩
    · simp [Builtin.append_, run_underlying ht, sizeOf, typeInfo, hi, Builtin.lenOf, Builtin.firstCells]
    · simp [Builtin.append_, run_underlying ht, sizeOf, typeInfo, hi, Builtin.lenOf, Builtin.firstCells, hnc, storeCells]
  · obtain ⟨v', w', hrun, r1, r2, _⟩ := run_append_own (P := P) w W.heap.size t ty e i z size bytes ht hi hz hsize hby hzs hsz v n xs hown ad m c news hl (hr.holds ad rfl) h1 h63 hbytes hbel.size
    exact ⟨v', w', hrun, hbel.grown r2 hbel.size (fun k hk => (hown.lt k hk).1), r1, r2⟩
theorem wpList_append_rg (w : World) {ops : Array Oper} {rest : List Oper} {o : Oper} {a : Act} {Q : Exit → Act → World → Prop} (hgd : o.guard = none) (s x : Operand) (t : TypeId)
    (ho : o.op = .call { callee := .builtin .append, args := #[s, x], argTypes := #[t, t] })
    {W : World} {e : TypeId} (i : TypeInfo) (z : Value) (size bytes : Nat) (ht : P.underlying t = some (.slice e)) (hi : P.info? e = some i) (hz : i.zero = some z)
    (hsize : i.size = size) (hby : i.bytes = bytes) (hzs : z.cells.size = size) (hsz : 0 < size) {v : Value} {n : Nat} {xs : List Value} (hs : a.eval s = v) (hbel : Below W.heap.size W w) (hown : w.ownsRow W.heap.size e size v n xs)
    {lo B : Nat} {A : Option Addr} {m c : Nat} {news : List Value} (hx : a.eval x = .slice A m c) (hr : Rg size w lo B A m news) (h1 : ∀ u ∈ news, u.oneCell' = true)
    (h63 : n + m ≤ maxLen) (hbytes : (n + m) * bytes ≤ 140737488355328)
    (hK : ∀ v' w', Below W.heap.size W w' → w'.ownsRow W.heap.size e size v' (n + m) (xs ++ news) → w.grownBy w' v.ownBlock → wpList P ops Q rest (a.put o.dst v') w') : wpList P ops Q (o :: rest) a w := by
  refine wpList_plain hgd fun K hK' => ?_
  obtain ⟨v', w', hrun, r1, r2, r3⟩ := run_append_rg (P := P) t o.type i z size bytes ht hi hz hsize hby hzs hsz hbel hown hr c h1 h63 hbytes
  unfold Oper.wp
  simp [execOp, ho, resolve, invoke, builtin, hs, hx, hrun, Result.andThen]
  exact hK' _ _ (hK v' w' r1 r2 r3)
end

/-! ### append of a slice that is not empty onto an empty one without room: a new row, whoever owned the empty one -/
section
variable {P : Program}
theorem own_at {w : World} {base : Nat} {e : TypeId} {size : Nat} {v : Value} {n : Nat} {xs : List Value} (h : w.ownsRow base e size v n xs) (hn : 0 < n) : ∃ g c, v = .slice (some ⟨g, 0, none⟩) n c ∧ base ≤ g ∧ g < w.heap.size := by
  rcases h.2 with ⟨_, h0⟩ | ⟨g, c, cur, hv, hb, hg, _⟩
  · omega
  · exact ⟨g, c, hv, hb, (Array.getElem?_eq_some_iff.1 hg).1⟩
theorem own_below {w w' : World} {base : Nat} {e : TypeId} {size : Nat} {v : Value} {n : Nat} {xs : List Value} (h : w.ownsRow base e size v n xs) (hb : Below w.heap.size w w') : w'.ownsRow base e size v n xs := by
  refine ⟨h.1, h.2.imp id ?_⟩
  rintro ⟨g, c, cur, hv, h1, hg, h2⟩
  exact ⟨g, c, cur, hv, h1, (hb.block g (Array.getElem?_eq_some_iff.1 hg).1).trans hg, h2⟩
theorem own_set_far {w : World} {base : Nat} {e : TypeId} {size : Nat} {g n c : Nat} {xs : List Value} (h : w.ownsRow base e size (.slice (some ⟨g, 0, none⟩) n c) n xs) {p : Addr} (hp : g ≠ p.block) (u : Value) : (w.setCell p u).ownsRow base e size (.slice (some ⟨g, 0, none⟩) n c) n xs := by
  refine ⟨h.1, h.2.imp id ?_⟩
  rintro ⟨g', c', cur, hv, h1, hg, h2⟩
  cases hv
  exact ⟨g, c, cur, rfl, h1, (Below.heap_setCell w p u g hp).trans hg, h2⟩
theorem run_append_fresh {W : World} {e : TypeId} (t ty : TypeId) (i : TypeInfo) (z : Value) (size bytes : Nat) (ht : P.underlying t = some (.slice e)) (hi : P.info? e = some i) (hz : i.zero = some z)
    (hsize : i.size = size) (hby : i.bytes = bytes) (hzs : z.cells.size = size) (hsz : 0 < size) {w : World} (hbel : Below W.heap.size W w) (ad : Addr)
    {lo B : Nat} {a : Option Addr} {m : Nat} {news : List Value} (hr : Rg size w lo B a m news) (hm : 0 < m) (c : Nat)
    (h63 : m ≤ maxLen) (hbytes : m * bytes ≤ 140737488355328) :
    ∃ g' c' w', (Builtin.append_ #[t, t] ty #[.slice (some ad) 0 0, .slice a m c]).run P w = .ok (.slice (some ⟨g', 0, none⟩) m c') w' ∧ w.heap.size ≤ g' ∧ g' < w'.heap.size ∧ w'.ownsRow w.heap.size e size (.slice (some ⟨g', 0, none⟩) m c') m news ∧ Below W.heap.size W w' ∧ Below w.heap.size w w' := by
  obtain ⟨g, o, rfl, _, _, _⟩ := hr.addr hm
  obtain ⟨v', w', hrun, r1, r2⟩ := run_append_arg_grows (P := P) w t ty e i z size bytes ht hi hz hsize hby hzs hsz ad 0 0 [] (by simp) (by simp) ⟨g, o, none⟩ m c news hr.1 (hr.holds _ rfl) (by omega) (by omega) (by rw [Nat.zero_add]; exact hbytes)
  simp only [Nat.zero_add, List.nil_append] at hrun r1
  obtain ⟨g', c', rfl, h3, h4⟩ := own_at r1 hm
  exact ⟨g', c', w', hrun, h3, h4, r1, hbel.grown r2 hbel.size (by simp), (Below.refl _ _).grown r2 (Nat.le_refl _) (by simp)⟩
theorem wp_append_fresh {w : World} {o : Oper} {a : Act} {K : Act → World → Prop} {Q : Exit → Act → World → Prop} (s x : Operand) (t : TypeId)
    (ho : o.op = .call { callee := .builtin .append, args := #[s, x], argTypes := #[t, t] })
    (W : World) (e : TypeId) (i : TypeInfo) (z : Value) (size bytes : Nat) (ht : P.underlying t = some (.slice e)) (hi : P.info? e = some i) (hz : i.zero = some z)
    (hsize : i.size = size) (hby : i.bytes = bytes) (hzs : z.cells.size = size) (hsz : 0 < size) (ad : Addr) (hs : a.eval s = .slice (some ad) 0 0)
    (lo B : Nat) (A : Option Addr) (m c : Nat) (news : List Value) (hx : a.eval x = .slice A m c) (hbel : Below W.heap.size W w) (hr : Rg size w lo B A m news) (hm : 0 < m)
    (h63 : m ≤ maxLen) (hbytes : m * bytes ≤ 140737488355328)
    (h : ∀ g' c' w', w.heap.size ≤ g' → g' < w'.heap.size → w'.ownsRow w.heap.size e size (.slice (some ⟨g', 0, none⟩) m c') m news → Below W.heap.size W w' → Below w.heap.size w w' → K (a.put o.dst (.slice (some ⟨g', 0, none⟩) m c')) w') : o.wp P a w K Q := by
  obtain ⟨g', c', w', hrun, r1, r2, r3, r4, r5⟩ := run_append_fresh (P := P) t o.type i z size bytes ht hi hz hsize hby hzs hsz hbel ad hr hm c h63 hbytes
  unfold Oper.wp execOp
  simp only [ho, resolve, invoke, builtin, Sem.run_bind, Sem.run_pure, Result.andThen_ok, List.map_toArray, List.map_cons, List.map_nil, hs, hx, hrun]
  exact h g' c' w' r1 r2 r3 r4 r5
theorem wpList_append_fresh {w : World} {ops : Array Oper} {rest : List Oper} {o : Oper} {a : Act} {Q : Exit → Act → World → Prop} (hgd : o.guard = none) (s x : Operand) (t : TypeId)
    (ho : o.op = .call { callee := .builtin .append, args := #[s, x], argTypes := #[t, t] })
    (W : World) (e : TypeId) (i : TypeInfo) (z : Value) (size bytes : Nat) (ht : P.underlying t = some (.slice e)) (hi : P.info? e = some i) (hz : i.zero = some z)
    (hsize : i.size = size) (hby : i.bytes = bytes) (hzs : z.cells.size = size) (hsz : 0 < size) (ad : Addr) (hs : a.eval s = .slice (some ad) 0 0)
    (lo B : Nat) (A : Option Addr) (m c : Nat) (news : List Value) (hx : a.eval x = .slice A m c) (hbel : Below W.heap.size W w) (hr : Rg size w lo B A m news) (hm : 0 < m)
    (h63 : m ≤ maxLen) (hbytes : m * bytes ≤ 140737488355328)
    (h : ∀ g' c' w', w.heap.size ≤ g' → g' < w'.heap.size → w'.ownsRow w.heap.size e size (.slice (some ⟨g', 0, none⟩) m c') m news → Below W.heap.size W w' → Below w.heap.size w w' → wpList P ops Q rest (a.put o.dst (.slice (some ⟨g', 0, none⟩) m c')) w') : wpList P ops Q (o :: rest) a w :=
  wpList_plain hgd fun _ hK => wp_append_fresh s x t ho W e i z size bytes ht hi hz hsize hby hzs hsz ad hs lo B A m c news hx hbel hr hm h63 hbytes fun g' c' w' h1 h2 h3 h4 h5 => hK _ _ (h g' c' w' h1 h2 h3 h4 h5)
theorem step_append_fresh {w : World} {ops : Array Oper} {o : Oper} {a : Act} {K : Act → World → Prop} {Q : Exit → Act → World → Prop} {E : Prop} (hgd : o.guard = none) (s x : Operand) (t : TypeId)
    (ho : o.op = .call { callee := .builtin .append, args := #[s, x], argTypes := #[t, t] })
    (W : World) (e : TypeId) (i : TypeInfo) (z : Value) (size bytes : Nat) (ht : P.underlying t = some (.slice e)) (hi : P.info? e = some i) (hz : i.zero = some z)
    (hsize : i.size = size) (hby : i.bytes = bytes) (hzs : z.cells.size = size) (hsz : 0 < size) (ad : Addr) (hs : a.eval s = .slice (some ad) 0 0)
    (lo B : Nat) (A : Option Addr) (m c : Nat) (news : List Value) (hx : a.eval x = .slice A m c) (hbel : Below W.heap.size W w) (hr : Rg size w lo B A m news) (hm : 0 < m)
    (h63 : m ≤ maxLen) (hbytes : m * bytes ≤ 140737488355328)
    (h : ∀ g' c' w', w.heap.size ≤ g' → g' < w'.heap.size → w'.ownsRow w.heap.size e size (.slice (some ⟨g', 0, none⟩) m c') m news → Below W.heap.size W w' → Below w.heap.size w w' → K (a.put o.dst (.slice (some ⟨g', 0, none⟩) m c')) w') :
    if Region.wanted o (yielded ops a.tmps) = true then Oper.wp P o a w K Q else E := by
  have hw : Region.wanted o (yielded ops a.tmps) = true := by simp [Region.wanted, hgd]
  rw [if_pos hw]
  exact wp_append_fresh s x t ho W e i z size bytes ht hi hz hsize hby hzs hsz ad hs lo B A m c news hx hbel hr hm h63 hbytes h
end

/-! ### lists of elements as lists of cells -/
theorem flat_length {α : Type} (f : α → List Value) (size : Nat) (hf : ∀ x, (f x).length = size) (xs : List α) : (xs.flatMap f).length = xs.length * size := by
  induction xs with
  | nil => simp
  | cons x xs ih => rw [List.flatMap_cons, List.length_append, hf, ih, List.length_cons, Nat.add_mul]; omega
theorem flat_at {α : Type} (f : α → List Value) (size : Nat) (hf : ∀ x, (f x).length = size) (xs : List α) (k j : Nat) (hk : k < xs.length) (hj : j < size) : (xs.flatMap f)[k * size + j]? = (f xs[k])[j]? := by
  induction xs generalizing k with
  | nil => simp at hk
  | cons x xs ih =>
    rw [List.flatMap_cons]
    rcases k with _ | k
    · rw [Nat.zero_mul, Nat.zero_add, List.getElem?_append_left (by rw [hf]; exact hj)]
      rfl
    · rw [List.getElem?_append_right (by rw [hf, Nat.add_mul]; omega), hf, show (k + 1) * size + j - size = k * size + j by rw [Nat.add_mul]; omega]
      exact ih k (by simpa using hk)
theorem flat_take {α : Type} (f : α → List Value) (size : Nat) (hf : ∀ x, (f x).length = size) (xs : List α) (k : Nat) : (xs.flatMap f).take (k * size) = (xs.take k).flatMap f := by
  induction xs generalizing k with
  | nil => simp
  | cons x xs ih =>
    rcases k with _ | k
    · simp
    · rw [List.flatMap_cons, List.take_succ_cons, List.flatMap_cons, Nat.add_mul, Nat.one_mul, Nat.add_comm, ← hf x, List.take_length_add_append, hf, ih]
theorem flat_drop {α : Type} (f : α → List Value) (size : Nat) (hf : ∀ x, (f x).length = size) (xs : List α) (k : Nat) : (xs.flatMap f).drop (k * size) = (xs.drop k).flatMap f := by
  induction xs generalizing k with
  | nil => simp
  | cons x xs ih =>
    rcases k with _ | k
    · simp
    · rw [List.flatMap_cons, List.drop_succ_cons, Nat.add_mul, Nat.one_mul, Nat.add_comm, ← hf x, List.drop_length_add_append, hf, ih]
end Go.Proofs.Ytmbphhcgmdaoeaa
