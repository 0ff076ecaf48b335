/- What is proved: the contract of disk's New; so all of disk's functions answer as the document says. -/
import Derived.Test.YtjahhheipeggeaaDvF
namespace Go.Proofs.Ytjahhheipeggeaa
open Go.RowKit

theorem made_run : ∃ Z : Array Value, Z.toList = secs (List.replicate 33 noSec) ∧ ∀ w : World, (Instr.makeSlice 22 (.int .i64 33) (.int .i64 33)).run Try.prog w = .ok (.slice (some ⟨w.heap.size, 0, none⟩) 33 33) (w.alloc (.cells Z 35)) := by
  obtain ⟨i0, hi0, hz0, hz1, hz2⟩ := info_parts info_sec
  refine ⟨madeCells #[.int .i64 0, .string ⟨#[]⟩] 66, by kernel_rfl, fun w => ?_⟩
  have h := run_makeSlice (P := Try.prog) (w := w) 22 35 i0 _ Try.underlying22 hi0 hz0 .i64 .i64 33 33 (by decide) (by decide) (by rw [hz1]; decide) (by rw [hz2]; decide) (by decide)
  rw [hz1] at h
  exact h
theorem two_rows (U : World) (e : TypeId) (Z : Array Value) (hZ : Z.toList = secs (List.replicate 33 noSec)) (u0 u1 : Value) (B : Nat) (hB : U.heap.size = B + 1) :
    Rg 2 ((((U.setCell ⟨B, 0, none⟩ u0).setCell ⟨B, 1, none⟩ u1).alloc (.cells Z e)).alloc (.cells Z e)).drew 0 ((((U.setCell ⟨B, 0, none⟩ u0).setCell ⟨B, 1, none⟩ u1).alloc (.cells Z e)).alloc (.cells Z e)).drew.heap.size (some ⟨B + 1, 0, none⟩) 33 (secs (List.replicate 33 noSec)) ∧
    Rg 2 ((((U.setCell ⟨B, 0, none⟩ u0).setCell ⟨B, 1, none⟩ u1).alloc (.cells Z e)).alloc (.cells Z e)).drew 0 ((((U.setCell ⟨B, 0, none⟩ u0).setCell ⟨B, 1, none⟩ u1).alloc (.cells Z e)).alloc (.cells Z e)).drew.heap.size (some ⟨B + 1 + 1, 0, none⟩) 33 (secs (List.replicate 33 noSec)) := by
  have hV : ((U.setCell ⟨B, 0, none⟩ u0).setCell ⟨B, 1, none⟩ u1).heap.size = B + 1 := by simpa using hB
  generalize (U.setCell ⟨B, 0, none⟩ u0).setCell ⟨B, 1, none⟩ u1 = V at *
  have a1 := heap_alloc_new V (.cells Z e)
  have a2 := heap_alloc_new (V.alloc (.cells Z e)) (.cells Z e)
  have a3 := (Below.heap_alloc (V.alloc (.cells Z e)) (.cells Z e) V.heap.size (by simp)).trans a1
  have hl : (secs (List.replicate 33 noSec)).length = 33 * 2 := by rw [secs_length, List.length_replicate]
  have ht : Z.toList.take (33 * 2) = secs (List.replicate 33 noSec) := by rw [hZ, List.take_of_length_le (by omega)]
  have s1 : (V.alloc (.cells Z e)).heap.size = B + 1 + 1 := by simp [hV]
  rw [hV] at a3
  rw [s1] at a2
  exact ⟨Rg.row (w := ((V.alloc (.cells Z e)).alloc (.cells Z e)).drew) a3 (Nat.zero_le _) hl ht, Rg.row (w := ((V.alloc (.cells Z e)).alloc (.cells Z e)).drew) a2 (Nat.zero_le _) hl ht⟩
theorem new_cells (U : World) (e : TypeId) (Z : Array Value) (u0 u1 x y : Value) (B : Nat) (hB : U.heap.size = B + 1) (h0 : U.cell? ⟨B, 0, none⟩ = some x) (h1 : U.cell? ⟨B, 1, none⟩ = some y) :
    ((((U.setCell ⟨B, 0, none⟩ u0).setCell ⟨B, 1, none⟩ u1).alloc (.cells Z e)).alloc (.cells Z e)).drew.cell? ⟨B, 0, none⟩ = some u0 ∧ ((((U.setCell ⟨B, 0, none⟩ u0).setCell ⟨B, 1, none⟩ u1).alloc (.cells Z e)).alloc (.cells Z e)).drew.cell? ⟨B, 1, none⟩ = some u1 := by
  constructor
  · show ((((U.setCell ⟨B, 0, none⟩ u0).setCell ⟨B, 1, none⟩ u1).alloc (.cells Z e)).alloc (.cells Z e)).cell? ⟨B, 0, none⟩ = some u0
    rw [World.cell?_alloc_lt _ _ _ (by simp; omega), World.cell?_alloc_lt _ _ _ (by simp; omega)]
    rw [World.cell?_setCell_other _ _ _ _ (fun e => by have := congrArg Addr.off e; simp at this)]
    exact World.cell?_setCell_same _ _ _ h0
  · show ((((U.setCell ⟨B, 0, none⟩ u0).setCell ⟨B, 1, none⟩ u1).alloc (.cells Z e)).alloc (.cells Z e)).cell? ⟨B, 1, none⟩ = some u1
    rw [World.cell?_alloc_lt _ _ _ (by simp; omega), World.cell?_alloc_lt _ _ _ (by simp; omega)]
    exact World.cell?_setCell_same _ _ _ ((World.cell?_setCell_other _ _ _ _ (fun e => by have := congrArg Addr.off e; simp at this)).trans h1)
theorem avo_two {Q g g' : Nat} (h : Q ≠ g) (h' : Q ≠ g') : Avo Q (.agg #[.slice (some ⟨g, 0, none⟩) 33 33, .slice (some ⟨g', 0, none⟩) 33 33]) := by
  intro a l c a' l' c' e
  cases e
  exact ⟨fun x hx => by cases hx; exact fun e => h e.symm, fun x hx => by cases hx; exact fun e => h' e.symm⟩
set_option maxHeartbeats 3200000 in
theorem dnew_spec : NewSpec 28 := by
  intro w
  obtain ⟨Z, hZ, hmk⟩ := made_run
  have hsz : Z.size = 66 := by rw [← Array.length_toList, hZ, secs_length]; rfl
  have HZ := Lib.hid hZ
  have HS := Lib.hid hsz
  obtain ⟨W1, e1, hb1, k0, k1, hs1⟩ := one_box w 24 (.slice none 0 0) (.slice none 0 0)
  have hs1' : W1.heap.size = w.heap.size + 1 := by rw [← e1]; simp
  have f0 : W1.frozen? ⟨w.heap.size, 0, none⟩ = false := by rw [← e1]; exact blk_frozen (heap_alloc_new w _) 0
  have f1 : W1.frozen? ⟨w.heap.size, 1, none⟩ = false := by rw [← e1]; exact blk_frozen (heap_alloc_new w _) 1
  clear hZ hsz
  go_enter Try.func28, Try.ntmps28
  go_wp2
  try rw [e1]
  clear e1
  go_region
  · obtain ⟨z0, z1⟩ := new_cells W1 35 Z (.slice (some ⟨w.heap.size + 1, 0, none⟩) 33 33) (.slice (some ⟨w.heap.size + 1 + 1, 0, none⟩) 33 33) _ _ w.heap.size hs1' k0 k1
    obtain ⟨x1, x2⟩ := two_rows W1 35 Z HZ.out (.slice (some ⟨w.heap.size + 1, 0, none⟩) 33 33) (.slice (some ⟨w.heap.size + 1 + 1, 0, none⟩) 33 33) w.heap.size hs1'
    have hend : Below w.heap.size w ((((W1.setCell ⟨w.heap.size, 0, none⟩ (.slice (some ⟨w.heap.size + 1, 0, none⟩) 33 33)).setCell ⟨w.heap.size, 1, none⟩ (.slice (some ⟨w.heap.size + 1 + 1, 0, none⟩) 33 33)).alloc (.cells Z 35)).alloc (.cells Z 35)).drew :=
      (((((hb1.setCell (Nat.le_refl _) _).setCell (Nat.le_refl _) _).alloc (by simp; omega) _).alloc (by simp; omega) _)).drew
    have HH := Lib.hid (And.intro x1 x2)
    clear x1 x2 hmk
    go_wp2
    refine bodyPost_ret (v := .agg #[.slice (some ⟨w.heap.size + 1, 0, none⟩) 33 33, .slice (some ⟨w.heap.size + 1 + 1, 0, none⟩) 33 33]) (by simp [results, Try.results28, go_sem, z0, z1]) rfl ⟨_, rfl, ⟨_, _, _, _, _, _, rfl, HH.out.1, HH.out.2, by decide, by decide, by decide, by decide⟩, hend, fun Q hQ => avo_two (by omega) (by omega)⟩
  · obtain ⟨z0, z1⟩ := new_cells W1 35 Z (.slice (some ⟨w.heap.size + 1 + 1, 0, none⟩) 33 33) (.slice (some ⟨w.heap.size + 1, 0, none⟩) 33 33) _ _ w.heap.size hs1' k0 k1
    obtain ⟨x1, x2⟩ := two_rows W1 35 Z HZ.out (.slice (some ⟨w.heap.size + 1 + 1, 0, none⟩) 33 33) (.slice (some ⟨w.heap.size + 1, 0, none⟩) 33 33) w.heap.size hs1'
    have hend : Below w.heap.size w ((((W1.setCell ⟨w.heap.size, 0, none⟩ (.slice (some ⟨w.heap.size + 1 + 1, 0, none⟩) 33 33)).setCell ⟨w.heap.size, 1, none⟩ (.slice (some ⟨w.heap.size + 1, 0, none⟩) 33 33)).alloc (.cells Z 35)).alloc (.cells Z 35)).drew :=
      (((((hb1.setCell (Nat.le_refl _) _).setCell (Nat.le_refl _) _).alloc (by simp; omega) _).alloc (by simp; omega) _)).drew
    have HH := Lib.hid (And.intro x2 x1)
    clear x1 x2 hmk
    go_wp2
    refine bodyPost_ret (v := .agg #[.slice (some ⟨w.heap.size + 1 + 1, 0, none⟩) 33 33, .slice (some ⟨w.heap.size + 1, 0, none⟩) 33 33]) (by simp [results, Try.results28, go_sem, z0, z1]) rfl ⟨_, rfl, ⟨_, _, _, _, _, _, rfl, HH.out.1, HH.out.2, by decide, by decide, by decide, by decide⟩, hend, fun Q hQ => avo_two (by omega) (by omega)⟩
end Go.Proofs.Ytjahhheipeggeaa
