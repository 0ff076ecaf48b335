/- What is proved: append onto a row of the call's own as one step of a region that draws; what a grown row leaves alone. Nothing here speaks of the program's own functions. -/
import Derived.Test.YtmbphhcgmdaoeaaRcW
import Derived.Deep.RegionLaw
namespace Go.Proofs.Ytmbphhcgmdaoeaa
open Go.RowKit

theorem info_wr : (Try.prog.info? 56).map (fun i => (i.zero, i.size, i.bytes)) = some (some (.agg #[.int .i64 0, .int .i64 0]), 2, 16) := by kernel_rfl
theorem own_made (w : World) (e : TypeId) (size : Nat) : (w.alloc (.cells #[] e)).ownsRow w.heap.size e size (.slice (some ⟨w.heap.size, 0, none⟩) 0 0) 0 [] := by
  refine ⟨by simp, .inr ⟨w.heap.size, 0, #[], rfl, Nat.le_refl _, heap_alloc_new w _, Nat.le_refl _, Nat.zero_le _, by simp, by simp⟩⟩
theorem wrC_one (l : List Wr) : ∀ u ∈ wrC l, u.oneCell' = true := by
  intro u hu
  obtain ⟨x, _, hx⟩ := List.mem_flatMap.1 hu
  simp [Wr.cells] at hx
  rcases hx with rfl | rfl <;> rfl
section
variable {P : Program}
theorem wp_append_own {w : World} {o : Oper} {a : Act} {K : Act → World → Prop} {Q : Exit → Act → World → Prop} (s x : Operand) (t : TypeId)
    (ho : o.op = .call { callee := .builtin .append, args := #[s, x], argTypes := #[t, t] })
    (W : World) (e : TypeId) (i : TypeInfo) (z : Value) (size bytes : Nat) (ht : P.underlying t = some (.slice e)) (hi : P.info? e = some i) (hz : i.zero = some z)
    (hsize : i.size = size) (hby : i.bytes = bytes) (hzs : z.cells.size = size) (hsz : 0 < size) (v : Value) (n : Nat) (xs : List Value) (hs : a.eval s = v) (hbel : Below W.heap.size W w) (hown : w.ownsRow W.heap.size e size v n xs)
    (lo B : Nat) (A : Option Addr) (m c : Nat) (news : List Value) (hx : a.eval x = .slice A m c) (hr : Rg size w lo B A m news) (h1 : ∀ u ∈ news, u.oneCell' = true)
    (h63 : n + m ≤ maxLen) (hbytes : (n + m) * bytes ≤ 140737488355328)
    (h : ∀ v' w', Below W.heap.size W w' → w'.ownsRow W.heap.size e size v' (n + m) (xs ++ news) → w.grownBy w' v.ownBlock → K (a.put o.dst v') w') : o.wp P a w K Q := by
  obtain ⟨v', w', hrun, r1, r2, r3⟩ := run_append_rg (P := P) t o.type i z size bytes ht hi hz hsize hby hzs hsz hbel hown hr c h1 h63 hbytes
  unfold Oper.wp execOp
  simp only [ho, resolve, invoke, builtin, Sem.run_bind, Sem.run_pure, Result.andThen_ok, List.map_toArray, List.map_cons, List.map_nil, hs, hx, hrun]
  exact h v' w' r1 r2 r3
theorem step_append_own {w : World} {ops : Array Oper} {o : Oper} {a : Act} {K : Act → World → Prop} {Q : Exit → Act → World → Prop} {E : Prop} (hgd : o.guard = none) (s x : Operand) (t : TypeId)
    (ho : o.op = .call { callee := .builtin .append, args := #[s, x], argTypes := #[t, t] })
    (W : World) (e : TypeId) (i : TypeInfo) (z : Value) (size bytes : Nat) (ht : P.underlying t = some (.slice e)) (hi : P.info? e = some i) (hz : i.zero = some z)
    (hsize : i.size = size) (hby : i.bytes = bytes) (hzs : z.cells.size = size) (hsz : 0 < size) (v : Value) (n : Nat) (xs : List Value) (hs : a.eval s = v) (hbel : Below W.heap.size W w) (hown : w.ownsRow W.heap.size e size v n xs)
    (lo B : Nat) (A : Option Addr) (m c : Nat) (news : List Value) (hx : a.eval x = .slice A m c) (hr : Rg size w lo B A m news) (h1 : ∀ u ∈ news, u.oneCell' = true)
    (h63 : n + m ≤ maxLen) (hbytes : (n + m) * bytes ≤ 140737488355328)
    (h : ∀ v' w', Below W.heap.size W w' → w'.ownsRow W.heap.size e size v' (n + m) (xs ++ news) → w.grownBy w' v.ownBlock → K (a.put o.dst v') w') :
    if Region.wanted o (yielded ops a.tmps) = true then Oper.wp P o a w K Q else E := by
  have hw : Region.wanted o (yielded ops a.tmps) = true := by simp [Region.wanted, hgd]
  rw [if_pos hw]
  exact wp_append_own s x t ho W e i z size bytes ht hi hz hsize hby hzs hsz v n xs hs hbel hown lo B A m c news hx hr h1 h63 hbytes h
end
theorem Rg.grown {size : Nat} {w w' : World} {lo hi g o n : Nat} {xs : List Value} {r : Option Nat} (h : Rg size w lo hi (some ⟨g, o, none⟩) n xs) (hg : w.grownBy w' r) (hne : r ≠ some g) (hhi : hi ≤ w.heap.size) : Rg size w' lo hi (some ⟨g, o, none⟩) n xs := by
  obtain ⟨h1, h2⟩ := h
  refine ⟨h1, h2.imp id ?_⟩
  rintro ⟨g', o', e, hl, hh, hc⟩
  cases e
  exact ⟨g, o, rfl, hl, hh, fun j u hu => (World.cell?_of_block (hg.block g (by omega) (fun e => hne e.symm))).trans (hc j u hu)⟩
end Go.Proofs.Ytmbphhcgmdaoeaa
