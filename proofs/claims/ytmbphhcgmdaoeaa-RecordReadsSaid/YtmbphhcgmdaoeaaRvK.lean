/- What is proved: record's reader cuts numbers from the front: cut, wide, narrow, and the closures that read a write, an item, a line. -/
import Derived.Test.YtmbphhcgmdaoeaaRvG
import Derived.Test.YtmbphhcgmdaoeaaRvJ
namespace Go.Proofs.Ytmbphhcgmdaoeaa
open Go.RowKit

/-- The reader in block Q: the bytes ys are not read yet; they stand below block B. -/
def Rdr (w : World) (Q B : Nat) (ys : List Int) : Prop := ∃ a n c, Blk w Q #[.slice a n c] ∧ n ≤ c ∧ c ≤ maxLen ∧ Rd w B a n (u8s ys)
theorem grown_trans {w w1 w2 : World} {Q : Nat} {r : Option Nat} (h : w.grownBy w1 (some Q)) (h' : w1.grownBy w2 r) (hr : ∀ k, r = some k → k = Q ∨ w.heap.size ≤ k) : w.grownBy w2 (some Q) := by
  refine ⟨h'.os.trans h.os, h'.tape.trans h.tape, h'.output.trans h.output, Nat.le_trans h.size h'.size, fun k hk hne => ?_⟩
  refine (h'.block k (Nat.lt_of_lt_of_le hk h.size) (fun e => ?_)).trans (h.block k hk hne)
  rcases hr k e.symm with rfl | h3
  · exact hne rfl
  · omega
theorem grown_refl (w : World) (r : Option Nat) : w.grownBy w r := World.grownBy.refl w r
theorem grown_below {w w1 : World} {B : Nat} (hb : Below B w w1) (hB : w.heap.size ≤ B) (r : Option Nat) : w.grownBy w1 r := ⟨hb.os, hb.tape, hb.output, hb.size, fun k hk _ => hb.block k (by omega)⟩
theorem grown_set (w : World) (Q : Nat) (v : Value) : w.grownBy (w.setCell ⟨Q, 0, none⟩ v) (some Q) :=
  ⟨rfl, rfl, rfl, by simp, fun k _ hne => Below.heap_setCell w ⟨Q, 0, none⟩ v k (fun e => hne (by rw [e]))⟩
theorem Rdr.lt {w : World} {Q B : Nat} {ys : List Int} (h : Rdr w Q B ys) : Q < w.heap.size := by obtain ⟨_, _, _, h, _⟩ := h; exact h.lt
theorem Rdr.far {w w' : World} {Q B : Nat} {ys : List Int} (h : Rdr w Q B ys) {C : Nat} (hb : Below C w w') (hQ : Q < C) (hB : B ≤ C) : Rdr w' Q B ys := by
  obtain ⟨a, n, c, h1, h2, h3, h4⟩ := h
  exact ⟨a, n, c, h1.far hb hQ, h2, h3, h4.far (hb.mono hB)⟩
theorem rd_drop {w : World} {B g o n m : Nat} {ys : List Int} (h : Rd w B (some ⟨g, o, none⟩) n (u8s ys)) (hm : m ≤ n) : Rd w B (some ⟨g, o + m, none⟩) (n - m) (u8s (ys.drop m)) := by
  obtain ⟨h1, h2⟩ := h
  have hl : (u8s ys).length = n := h1
  refine ⟨by rw [u8s_length] at hl ⊢; rw [List.length_drop, hl], ?_⟩
  rcases h2 with h0 | ⟨g', o', e, hg, hc⟩
  · exact .inl (by omega)
  · cases e
    refine .inr ⟨g, o + m, rfl, hg, fun j u hu => ?_⟩
    rw [Nat.add_assoc]
    refine hc (m + j) u ?_
    simpa [u8s] using hu
set_option maxRecDepth 100000 in
set_option maxHeartbeats 3200000 in
theorem cut_reads (w : World) (Q B : Nat) (ys : List Int) (m : Nat) (hR : Rdr w Q B ys) (hB : B ≤ Q) (hm1 : 1 ≤ m) (hm6 : m ≤ 6) (hx : IsBytes ys) (hl : ys.length ≤ 1000000) :
    Calls Try.prog 70 #[.pointer (some ⟨Q, 0, none⟩), .int .i64 m] w fun e w' => e = .returned (.int .i64 (cutN m ys).1) ∧ Rdr w' Q B (cutN m ys).2 ∧ w.grownBy w' (some Q) := by
  obtain ⟨a, n, c, hb, hnc, hcm, hr⟩ := hR
  have hn : ys.length = n := by rw [← hr.1]; exact (u8s_length ys).symm
  have q0 : w.cell? ⟨Q, 0, none⟩ = some (.slice a n c) := hb.cell 0
  have q1 : w.frozen? ⟨Q, 0, none⟩ = false := hb.free 0
  have hlt := hb.lt
  have hrw : Rd w w.heap.size a n (u8s ys) := ⟨hr.1, hr.2.imp id fun ⟨g, o, e, hg, hc⟩ => ⟨g, o, e, by omega, hc⟩⟩
  by_cases hmn : m ≤ n
  · have n1 := get_ok a n c ys 0 m w hm1 hm6 hrw hx hnc (by omega) (by omega)
    rw [List.drop_zero] at n1
    have hc0 : cutN m ys = (num (ys.take m), ys.drop m) := by unfold cutN; rw [if_pos (by omega)]
    rw [hc0]
    obtain ⟨g, o, rfl⟩ : ∃ g o, a = some ⟨g, o, none⟩ := by
      rcases hr.2 with h0 | ⟨g, o, e, _, _⟩
      · omega
      · exact ⟨g, o, e⟩
    by_cases hce : m = c
    · have hnm : n = m := by omega
      subst hce
      subst hnm
      have hd : ys.drop n = [] := List.drop_eq_nil_of_le (by omega)
      rw [hd]
      have f0 := hb.set 0 (.slice (some ⟨g, o, none⟩) 0 0)
      have f1 := grown_set w Q (.slice (some ⟨g, o, none⟩) 0 0)
      have f2 : Rd (w.setCell ⟨Q, 0, none⟩ (.slice (some ⟨g, o, none⟩) 0 0)) B (some ⟨g, o, none⟩) 0 (u8s []) := ⟨rfl, .inl rfl⟩
      clear hr hrw hd
      go_enter Try.func70, Try.ntmps70
      go_wp2_with fail
      refine n1.mono ?_
      rintro e w' ⟨rfl, rfl⟩
      go_wp2
      go_ret
      exact ⟨rfl, ⟨_, _, _, f0, Nat.le_refl _, Nat.zero_le _, f2⟩, f1⟩
    have hce0 : ((c : Int) - (m : Int) = 0) = False := eq_false (by omega)
    have hce1 : (c - m = 0) = False := eq_false (by omega)
    have hce2 : 0 < c - m := by omega
    have hr2 := rd_drop hr hmn
    have f0 := hb.set 0 (.slice (some ⟨g, o + m, none⟩) (n - m) (c - m))
    have f1 := grown_set w Q (.slice (some ⟨g, o + m, none⟩) (n - m) (c - m))
    have f2 : Rd (w.setCell ⟨Q, 0, none⟩ (.slice (some ⟨g, o + m, none⟩) (n - m) (c - m))) B (some ⟨g, o + m, none⟩) (n - m) (u8s (ys.drop m)) := hr2.far ((Below.refl B w).setCell hB _)
    have hmn' : (m : Int) ≤ (n : Int) := by omega
    have hmc' : (n : Int) ≤ (c : Int) := by omega
    have hm0 : (0 : Int) ≤ (m : Int) := by omega
    have ht1 : ((n : Int) - (m : Int)).toNat = n - m := by omega
    have ht2 : ((c : Int) - (m : Int)).toNat = c - m := by omega
    clear hr hrw hr2
    go_enter Try.func70, Try.ntmps70
    go_wp2_with fail
    refine n1.mono ?_
    rintro e w' ⟨rfl, rfl⟩
    go_wp2
    go_ret
    exact ⟨rfl, ⟨_, _, _, f0, by omega, by omega, f2⟩, f1⟩
  · have n1 := get_code a n c 0 m w (by unfold isW; exact decide_eq_true ⟨by omega, by omega⟩) (by omega) (.inr (by omega))
    have hc0 : cutN m ys = (0, []) := by unfold cutN; rw [if_neg (by omega)]
    rw [hc0]
    have f0 := hb.set 0 (.slice none 0 0)
    have f1 := grown_set w Q (.slice none 0 0)
    clear hr hrw
    go_enter Try.func70, Try.ntmps70
    go_wp2_with fail
    refine n1.mono ?_
    rintro e w' ⟨rfl, rfl⟩
    go_wp2
    go_ret
    exact ⟨rfl, ⟨_, _, _, f0, Nat.le_refl _, Nat.zero_le _, Rd.nil _ _ _⟩, f1⟩
end Go.Proofs.Ytmbphhcgmdaoeaa
