/- What is proved: record's row makes lines one behind the other. -/
import Derived.Test.YtmbphhcgmdaoeaaRvL
namespace Go.Proofs.Ytmbphhcgmdaoeaa
open Go.RowKit

theorem info_ln' : (Try.prog.info? 53).map (fun i => (i.zero, i.size, i.bytes)) = some (some (.agg #[.int .i64 0, .int .i64 0, .int .i64 0, .int .i64 0, .int .i64 0]), 5, 40) := by kernel_rfl
set_option maxRecDepth 100000 in
set_option maxHeartbeats 6400000 in
theorem rowL_walk (f : FuncId) (caps : Array Value) (step : Nat → List Int → Ln × List Int) (n : Nat) (Q B : Nat) (ys : List Int) (w : World) (hR : Rdr w Q B ys) (hB : B ≤ Q) (hn : n ≤ 255) (hx : IsBytes ys) (hl : ys.length ≤ 1000000)
    (hb : ∀ i ys, IsBytes ys → IsBytes (step i ys).2) (hs : ∀ i ys, (step i ys).2.length ≤ ys.length) (hgo : ∀ args W, (callFunc f args).run Try.prog W = .ok (.enter f args) W)
    (hask : ∀ (k : Nat) (W : World) (zs : List Int), k < n → Rdr W Q B zs → IsBytes zs → zs.length ≤ 1000000 → w.grownBy W (some Q) → Calls Try.prog f (#[.int .i64 k] ++ caps) W fun e W' => e = .returned (step k zs).1.val_ ∧ Rdr W' Q B (step k zs).2 ∧ W.grownBy W' (some Q)) :
    Calls Try.prog 71 #[.int .i64 n, .func (.func f) #[] caps] w fun e w' => ∃ v, e = .returned v ∧ w'.ownsRow w.heap.size 53 5 v n (lnC (rowF step n ys).1) ∧ Rdr w' Q B (rowF step n ys).2 ∧ w.grownBy w' (some Q) := by
  obtain ⟨i0, hi, hz0, hz1, hz2⟩ := info_parts info_ln'
  have HK := Lib.hid hask
  clear hask
  go_enter Try.func71, Try.ntmps71
  go_wp2
  go_loopw [5, 8] (fun v i wr => ∃ k : Nat, k ≤ n ∧ i = .int .i64 k ∧ Rdr wr Q B (rowF step k ys).2 ∧ wr.ownsRow w.heap.size 53 5 v k (lnC (rowF step k ys).1) ∧ w.grownBy wr (some Q)) (fun _ i _ => n - (intOf i).toNat)
  case atStart => exact ⟨0, Nat.zero_le _, rfl, hR, World.ownsRow_nil _ _ _ 5, grown_refl _ _⟩
  case round =>
    obtain ⟨k, hk, rfl, hr, hor, hg⟩ := hrel
    by_cases hlt : k < n
    · have hki : (k : Int) < n := by omega
      have r1 := HK.out k wr (rowF step k ys).2 hlt hr (rowF_bytes hb k hx) (Nat.le_trans (rowF_len hs k ys) hl) hg
      have HS := Lib.hid (show (rowF step (k + 1) ys).1 = (rowF step k ys).1 ++ [(step k (rowF step k ys).2).1] ∧ (rowF step (k + 1) ys).2 = (step k (rowF step k ys).2).2 from ⟨rfl, rfl⟩)
      generalize hx1 : (step k (rowF step k ys).2).1 = x at *
      simp only [Ln.val_] at r1
      have HO := Lib.hid hor
      have HG := Lib.hid hg
      have hQ := hr.lt
      clear hr hor hg hx1
      go_wp2_with fail
      refine r1.mono ?_
      rintro e w3 ⟨rfl, hr3, hg3⟩
      have o3 : w3.ownsRow w.heap.size 53 5 u5 k (lnC (rowF step k ys).1) := own_grown HO.out hg3 (by have := HG.out.size; have := hR.lt; omega)
      have hgg := grown_trans HG.out hg3 (fun k hk => .inl (by cases hk; rfl))
      have hz := hgg.size
      clear r1
      go_wp2_with (at_builtin; refine wpList_append_base _ rfl (.tmp 11) (.tmp 15) _ rfl w.heap.size i0 _ 5 40 Try.underlying26 hi hz0 hz1 hz2 rfl (by decide) rfl (o3.alloc _) rfl (news := Ln.cells x) (m := 1) rfl (fun j u hu => by rw [Addr.add_lit, Nat.zero_add]; exact (cell_of_row _ _ j _ _ _ (heap_alloc_new w3 _)).trans (by simpa [Ln.cells] using hu)) (by simp [Ln.cells, Value.oneCell']) (by unfold maxLen; omega) (by omega) (by simp; omega) ?_; intro v5 w5 ho5 hg5 _)
      have b35 := grown_trans hgg (grown_below ((Below.refl w3.heap.size w3).alloc (Nat.le_refl _) (.cells (Ln.cells x).toArray 53)) (Nat.le_refl _) none) (by simp)
      have b5 := grown_trans b35 hg5 (fun k hk => .inr (by have := o3.lt k hk; omega))
      have hr5 : Rdr w5 Q B (step k (rowF step k ys).2).2 := rdr_grown (rdr_grown hr3 (grown_below ((Below.refl w3.heap.size w3).alloc (Nat.le_refl _) (.cells (Ln.cells x).toArray 53)) (Nat.le_refl _) none) (by simp) (by simp)) hg5 (fun e => by have := o3.lt Q e; have := hR.lt; omega) (fun k hk => by have := o3.lt k hk.symm; have := hR.lt; omega)
      have hR5 : w5.ownsRow w.heap.size 53 5 v5 (k + 1) (lnC (rowF step (k + 1) ys).1) := by
        rw [HS.out.1, show lnC ((rowF step k ys).1 ++ [x]) = lnC (rowF step k ys).1 ++ Ln.cells x by simp [lnC]]
        exact ho5
      rw [← HS.out.2] at hr5
      clear ho5 b35 hg5 hr3 hg3 o3
      go_wp2
      go_roundw
      case rel => exact ⟨k + 1, by omega, by go_num, hr5, hR5, b5⟩
      case measure => simp [intOf]; omega
    · obtain rfl : k = n := by omega
      go_wp2
      go_ret
      exact ⟨_, rfl, hor, hr, hg⟩
end Go.Proofs.Ytmbphhcgmdaoeaa
