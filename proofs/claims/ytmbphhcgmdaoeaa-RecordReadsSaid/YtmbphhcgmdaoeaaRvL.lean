/- What is proved: record's row makes writes one behind the other. -/
import Derived.Test.YtmbphhcgmdaoeaaRvK
namespace Go.Proofs.Ytmbphhcgmdaoeaa
open Go.RowKit

theorem own_grown {w w' : World} {base n : Nat} {e : TypeId} {size : Nat} {v : Value} {xs : List Value} {Q : Nat} (h : w.ownsRow base e size v n xs) (hg : w.grownBy w' (some Q)) (hQ : Q < base) : w'.ownsRow base e size v n xs := by
  refine ⟨h.1, h.2.imp id ?_⟩
  rintro ⟨g, c, cur, rfl, h1, h2, h3⟩
  exact ⟨g, c, cur, rfl, h1, (hg.block g (Array.getElem?_eq_some_iff.1 h2).1 (fun e => by cases e; omega)).trans h2, h3⟩
theorem rdr_grown {w w' : World} {Q B : Nat} {ys : List Int} {r : Option Nat} (h : Rdr w Q B ys) (hg : w.grownBy w' r) (h1 : r ≠ some Q) (h2 : ∀ k, some k = r → B ≤ k) : Rdr w' Q B ys := by
  obtain ⟨a, n, c, hb, h3, h4, h5, h6⟩ := h
  refine ⟨a, n, c, hb.same (hg.block Q hb.lt (fun e => h1 e.symm)), h3, h4, h5, h6.imp id ?_⟩
  rintro ⟨g, o, rfl, hgB, hc⟩
  refine ⟨g, o, rfl, hgB, fun j u hu => ?_⟩
  have hcu := hc j u hu
  refine (World.cell?_of_block (hg.block g ?_ (fun e => by have := h2 g e; omega))).trans hcu
  rcases Nat.lt_or_ge g w.heap.size with q | q
  · exact q
  · simp [World.cell?, Array.getElem?_eq_none q] at hcu
theorem info_wr' : (Try.prog.info? 56).map (fun i => (i.zero, i.size, i.bytes)) = some (some (.agg #[.int .i64 0, .int .i64 0]), 2, 16) := by kernel_rfl
set_option maxRecDepth 100000 in
set_option maxHeartbeats 6400000 in
theorem rowW_walk (f : FuncId) (caps : Array Value) (step : Nat → List Int → Wr × List Int) (n : Nat) (Q B : Nat) (ys : List Int) (w : World) (hR : Rdr w Q B ys) (hB : B ≤ Q) (hn : n ≤ 255) (hx : IsBytes ys) (hl : ys.length ≤ 1000000)
    (hb : ∀ i ys, IsBytes ys → IsBytes (step i ys).2) (hs : ∀ i ys, (step i ys).2.length ≤ ys.length) (hgo : ∀ args W, (callFunc f args).run Try.prog W = .ok (.enter f args) W)
    (hask : ∀ (k : Nat) (W : World) (zs : List Int), k < n → Rdr W Q B zs → IsBytes zs → zs.length ≤ 1000000 → w.grownBy W (some Q) → Calls Try.prog f (#[.int .i64 k] ++ caps) W fun e W' => e = .returned (step k zs).1.val_ ∧ Rdr W' Q B (step k zs).2 ∧ W.grownBy W' (some Q)) :
    Calls Try.prog 52 #[.int .i64 n, .func (.func f) #[] caps] w fun e w' => ∃ v, e = .returned v ∧ w'.ownsRow w.heap.size 56 2 v n (wrC (rowF step n ys).1) ∧ Rdr w' Q B (rowF step n ys).2 ∧ w.grownBy w' (some Q) := by
  obtain ⟨i0, hi, hz0, hz1, hz2⟩ := info_parts info_wr'
  have HK := Lib.hid hask
  clear hask
  go_enter Try.func52, Try.ntmps52
  go_wp2
  go_loopw [5, 8] (fun v i wr => ∃ k : Nat, k ≤ n ∧ i = .int .i64 k ∧ Rdr wr Q B (rowF step k ys).2 ∧ wr.ownsRow w.heap.size 56 2 v k (wrC (rowF step k ys).1) ∧ w.grownBy wr (some Q)) (fun _ i _ => n - (intOf i).toNat)
  case atStart => exact ⟨0, Nat.zero_le _, rfl, hR, World.ownsRow_nil _ _ _ 2, grown_refl _ _⟩
  case round =>
    obtain ⟨k, hk, rfl, hr, hor, hg⟩ := hrel
    by_cases hlt : k < n
    · have hki : (k : Int) < n := by omega
      have r1 := HK.out k wr (rowF step k ys).2 hlt hr (rowF_bytes hb k hx) (Nat.le_trans (rowF_len hs k ys) hl) hg
      have HS := Lib.hid (show (rowF step (k + 1) ys).1 = (rowF step k ys).1 ++ [(step k (rowF step k ys).2).1] ∧ (rowF step (k + 1) ys).2 = (step k (rowF step k ys).2).2 from ⟨rfl, rfl⟩)
      generalize hx1 : (step k (rowF step k ys).2).1 = x at *
      simp only [Wr.val_] at r1
      have HO := Lib.hid hor
      have HG := Lib.hid hg
      have hQ := hr.lt
      clear hr hor hg hx1
      go_wp2_with fail
      refine r1.mono ?_
      rintro e w3 ⟨rfl, hr3, hg3⟩
      have o3 : w3.ownsRow w.heap.size 56 2 u5 k (wrC (rowF step k ys).1) := own_grown HO.out hg3 (by have := HG.out.size; have := hR.lt; omega)
      have hgg := grown_trans HG.out hg3 (fun k hk => .inl (by cases hk; rfl))
      have hz := hgg.size
      clear r1
      go_wp2_with (at_builtin; refine wpList_append_base _ rfl (.tmp 11) (.tmp 15) _ rfl w.heap.size i0 _ 2 16 Try.underlying22 hi hz0 hz1 hz2 rfl (by decide) rfl (o3.alloc _) rfl (news := Wr.cells x) (m := 1) rfl (fun j u hu => by rw [Addr.add_lit, Nat.zero_add]; exact (cell_of_row _ _ j _ _ _ (heap_alloc_new w3 _)).trans (by simpa [Wr.cells] using hu)) (by simp [Wr.cells, Value.oneCell']) (by unfold maxLen; omega) (by omega) (by simp; omega) ?_; intro v5 w5 ho5 hg5 _)
      have b35 := grown_trans hgg (grown_below ((Below.refl w3.heap.size w3).alloc (Nat.le_refl _) (.cells (Wr.cells x).toArray 56)) (Nat.le_refl _) none) (by simp)
      have b5 := grown_trans b35 hg5 (fun k hk => .inr (by have := o3.lt k hk; omega))
      have hr5 : Rdr w5 Q B (step k (rowF step k ys).2).2 := rdr_grown (rdr_grown hr3 (grown_below ((Below.refl w3.heap.size w3).alloc (Nat.le_refl _) (.cells (Wr.cells x).toArray 56)) (Nat.le_refl _) none) (by simp) (by simp)) hg5 (fun e => by have := o3.lt Q e; have := hR.lt; omega) (fun k hk => by have := o3.lt k hk.symm; have := hR.lt; omega)
      have hR5 : w5.ownsRow w.heap.size 56 2 v5 (k + 1) (wrC (rowF step (k + 1) ys).1) := by
        rw [HS.out.1, show wrC ((rowF step k ys).1 ++ [x]) = wrC (rowF step k ys).1 ++ Wr.cells x by simp [wrC]]
        exact ho5
      rw [← HS.out.2] at hr5
      clear ho5 b35 hg5 hr3 hg3 o3
      go_wp2
      go_roundw
      case rel => exact ⟨k + 1, by omega, by go_num, hr5, hR5, b5⟩
      case measure => simp [intOf]; omega
    · obtain rfl : k = n := by omega
      go_wp2
      go_ret
      exact ⟨_, rfl, hor, hr, hg⟩
end Go.Proofs.Ytmbphhcgmdaoeaa
