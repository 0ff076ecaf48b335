/- What is proved: the walk of DiskOwn: it returns true at every input. -/
import Derived.Test.YtjahhheipeggeaaDwC
import Derived.Deep.DeepCutAuto
import Derived.Deep.RegionLaw
namespace Go.Proofs.Ytjahhheipeggeaa
open Go.RowKit

theorem wakes_own (w : World) : Calls Try.prog 11 #[] w fun e w' => e = .returned (.bool true) ∧ Below w.heap.size w w' := wakes_walk dnew_spec dput_spec dget_spec dcrash_spec w
/-- A row of the call's own, of 33 sectors. -/
def OwnR (B : Nat) (w : World) (g c : Nat) (l : List Sec) : Prop := B ≤ g ∧ g < w.heap.size ∧ w.ownsRow B 35 2 (.slice (some ⟨g, 0, none⟩) 33 c) 33 (secs l)
theorem OwnR.far {B : Nat} {w w' : World} {g c : Nat} {l : List Sec} (h : OwnR B w g c l) (hb : Below w.heap.size w w') : OwnR B w' g c l := ⟨h.1, Nat.lt_of_lt_of_le h.2.1 hb.size, own_below h.2.2 hb⟩

theorem OwnR.other {B : Nat} {w : World} {g c : Nat} {l : List Sec} (h : OwnR B w g c l) {p : Addr} (hp : g ≠ p.block) (u : Value) : OwnR B (w.setCell p u) g c l := ⟨h.1, by simpa using h.2.1, own_set_far h.2.2 hp u⟩
theorem OwnR.rg {B : Nat} {w : World} {g c : Nat} {l : List Sec} (h : OwnR B w g c l) : Rg 2 w B w.heap.size (some ⟨g, 0, none⟩) 33 (secs l) := by
  obtain ⟨_, _, e, _, _, r⟩ := Rg.own h.2.2
  cases e
  exact r
theorem OwnR.caps {B : Nat} {w : World} {g c : Nat} {l : List Sec} (h : OwnR B w g c l) : 33 ≤ c ∧ c ≤ maxLen := by
  obtain ⟨_, _, e, h1, h2, _⟩ := Rg.own h.2.2
  cases e
  exact ⟨h1, h2⟩
theorem own_dk {B : Nat} {w : World} {g c g' c' : Nat} {l m : List Sec} (h : OwnR B w g c l) (h' : OwnR B w g' c' m) : Dk w 0 w.heap.size (.agg #[.slice (some ⟨g, 0, none⟩) 33 c, .slice (some ⟨g', 0, none⟩) 33 c']) ⟨l, m⟩ :=
  ⟨_, _, _, _, _, _, rfl, h.rg.wide (Nat.zero_le _) (Nat.le_refl _), h'.rg.wide (Nat.zero_le _) (Nat.le_refl _), h.caps.1, h'.caps.1, h.caps.2, h'.caps.2⟩
/-- A new box that holds a copy of a disk, in new rows. -/
def KeptC (W : World) (l m : List Sec) (p : Value) (wx : World) : Prop :=
  ∃ P g3 c3 g4 c4 : Nat, p = .pointer (some ⟨P, 0, none⟩) ∧ Box wx P (.slice (some ⟨g3, 0, none⟩) 33 c3) (.slice (some ⟨g4, 0, none⟩) 33 c4) ∧ g3 ≠ g4 ∧ OwnR W.heap.size wx g3 c3 l ∧ OwnR W.heap.size wx g4 c4 m ∧ Below W.heap.size W wx
theorem boxHere {W : World} {u v : Value} {e : TypeId} : Box (W.alloc (.cells #[u, v] e)) W.heap.size u v := by
  obtain ⟨W', e1, _, hB, _⟩ := box_new W e u v
  rw [e1]
  exact hB
theorem boxUnder {W : World} {g : Nat} {u v : Value} {o : Obj} (h : Box W g u v) : Box (W.alloc o) g u v := h.far ((Below.refl _ _).alloc (Nat.le_refl _) _)
theorem boxDrew {W : World} {g : Nat} {u v : Value} (h : Box W g u v) : Box W.drew g u v := h.far ((Below.refl _ _).drew)
theorem pat_K {W w' : World} {u v : Value} {e : TypeId} (h : Below (((W).alloc (.cells #[u, v] e))).heap.size (((W).alloc (.cells #[u, v] e))) w') : Box w' (W.heap.size) u v := by
  refine Box.far ?_ h
  have hh := boxHere (W := W) (u := u) (v := v) (e := e)
  exact hh
theorem pat_Kd {W w' : World} {u v : Value} {e : TypeId} (h : Below (((W).alloc (.cells #[u, v] e)).drew).heap.size (((W).alloc (.cells #[u, v] e)).drew) w') : Box w' (W.heap.size) u v := by
  refine Box.far ?_ h
  refine boxDrew ?_
  have hh := boxHere (W := W) (u := u) (v := v) (e := e)
  exact hh
theorem pat_EK {W w' : World} {u v : Value} {e : TypeId} {o1 : Obj} (h : Below ((((W).alloc o1).alloc (.cells #[u, v] e))).heap.size ((((W).alloc o1).alloc (.cells #[u, v] e))) w') : Box w' (W.heap.size + 1) u v := by
  refine Box.far ?_ h
  have hh := boxHere (W := (W).alloc o1) (u := u) (v := v) (e := e)
  rw [show ((W).alloc o1).heap.size = W.heap.size + 1 by simp] at hh
  exact hh
theorem pat_EKd {W w' : World} {u v : Value} {e : TypeId} {o1 : Obj} (h : Below ((((W).alloc o1).alloc (.cells #[u, v] e)).drew).heap.size ((((W).alloc o1).alloc (.cells #[u, v] e)).drew) w') : Box w' (W.heap.size + 1) u v := by
  refine Box.far ?_ h
  refine boxDrew ?_
  have hh := boxHere (W := (W).alloc o1) (u := u) (v := v) (e := e)
  rw [show ((W).alloc o1).heap.size = W.heap.size + 1 by simp] at hh
  exact hh
theorem pat_KE {W w' : World} {u v : Value} {e : TypeId} {o1 : Obj} (h : Below ((((W).alloc (.cells #[u, v] e)).alloc o1)).heap.size ((((W).alloc (.cells #[u, v] e)).alloc o1)) w') : Box w' (W.heap.size) u v := by
  refine Box.far ?_ h
  refine boxUnder ?_
  have hh := boxHere (W := W) (u := u) (v := v) (e := e)
  exact hh
theorem pat_KEd {W w' : World} {u v : Value} {e : TypeId} {o1 : Obj} (h : Below ((((W).alloc (.cells #[u, v] e)).alloc o1).drew).heap.size ((((W).alloc (.cells #[u, v] e)).alloc o1).drew) w') : Box w' (W.heap.size) u v := by
  refine Box.far ?_ h
  refine boxDrew ?_
  refine boxUnder ?_
  have hh := boxHere (W := W) (u := u) (v := v) (e := e)
  exact hh
theorem pat_EEK {W w' : World} {u v : Value} {e : TypeId} {o1 o2 : Obj} (h : Below (((((W).alloc o1).alloc o2).alloc (.cells #[u, v] e))).heap.size (((((W).alloc o1).alloc o2).alloc (.cells #[u, v] e))) w') : Box w' (W.heap.size + 1 + 1) u v := by
  refine Box.far ?_ h
  have hh := boxHere (W := ((W).alloc o1).alloc o2) (u := u) (v := v) (e := e)
  rw [show (((W).alloc o1).alloc o2).heap.size = W.heap.size + 1 + 1 by simp] at hh
  exact hh
theorem pat_EEKd {W w' : World} {u v : Value} {e : TypeId} {o1 o2 : Obj} (h : Below (((((W).alloc o1).alloc o2).alloc (.cells #[u, v] e)).drew).heap.size (((((W).alloc o1).alloc o2).alloc (.cells #[u, v] e)).drew) w') : Box w' (W.heap.size + 1 + 1) u v := by
  refine Box.far ?_ h
  refine boxDrew ?_
  have hh := boxHere (W := ((W).alloc o1).alloc o2) (u := u) (v := v) (e := e)
  rw [show (((W).alloc o1).alloc o2).heap.size = W.heap.size + 1 + 1 by simp] at hh
  exact hh
theorem pat_EKE {W w' : World} {u v : Value} {e : TypeId} {o1 o2 : Obj} (h : Below (((((W).alloc o1).alloc (.cells #[u, v] e)).alloc o2)).heap.size (((((W).alloc o1).alloc (.cells #[u, v] e)).alloc o2)) w') : Box w' (W.heap.size + 1) u v := by
  refine Box.far ?_ h
  refine boxUnder ?_
  have hh := boxHere (W := (W).alloc o1) (u := u) (v := v) (e := e)
  rw [show ((W).alloc o1).heap.size = W.heap.size + 1 by simp] at hh
  exact hh
theorem pat_EKEd {W w' : World} {u v : Value} {e : TypeId} {o1 o2 : Obj} (h : Below (((((W).alloc o1).alloc (.cells #[u, v] e)).alloc o2).drew).heap.size (((((W).alloc o1).alloc (.cells #[u, v] e)).alloc o2).drew) w') : Box w' (W.heap.size + 1) u v := by
  refine Box.far ?_ h
  refine boxDrew ?_
  refine boxUnder ?_
  have hh := boxHere (W := (W).alloc o1) (u := u) (v := v) (e := e)
  rw [show ((W).alloc o1).heap.size = W.heap.size + 1 by simp] at hh
  exact hh
theorem pat_KEE {W w' : World} {u v : Value} {e : TypeId} {o1 o2 : Obj} (h : Below (((((W).alloc (.cells #[u, v] e)).alloc o1).alloc o2)).heap.size (((((W).alloc (.cells #[u, v] e)).alloc o1).alloc o2)) w') : Box w' (W.heap.size) u v := by
  refine Box.far ?_ h
  refine boxUnder ?_
  refine boxUnder ?_
  have hh := boxHere (W := W) (u := u) (v := v) (e := e)
  exact hh
theorem pat_KEEd {W w' : World} {u v : Value} {e : TypeId} {o1 o2 : Obj} (h : Below (((((W).alloc (.cells #[u, v] e)).alloc o1).alloc o2).drew).heap.size (((((W).alloc (.cells #[u, v] e)).alloc o1).alloc o2).drew) w') : Box w' (W.heap.size) u v := by
  refine Box.far ?_ h
  refine boxDrew ?_
  refine boxUnder ?_
  refine boxUnder ?_
  have hh := boxHere (W := W) (u := u) (v := v) (e := e)
  exact hh
theorem kept_end1 {W w4 : World} {g3 g4 c3 c4 : Nat} {l m : List Sec} {e : TypeId} (hb4 : Below W.heap.size W w4) (n34 : g3 ≠ g4) (o3 : OwnR W.heap.size w4 g3 c3 l) (o4 : OwnR W.heap.size w4 g4 c4 m) :
    KeptC W l m (.pointer (some ⟨w4.heap.size, 0, none⟩)) (w4.alloc (.cells #[.slice (some ⟨g3, 0, none⟩) 33 c3, .slice (some ⟨g4, 0, none⟩) 33 c4] e)) := by
  have hb : Below w4.heap.size w4 (w4.alloc (.cells #[.slice (some ⟨g3, 0, none⟩) 33 c3, .slice (some ⟨g4, 0, none⟩) 33 c4] e)) := (Below.refl _ _).alloc (Nat.le_refl _) _
  exact ⟨_, g3, c3, g4, c4, rfl, boxHere, n34, o3.far hb, o4.far hb, hb4.trans (hb.mono hb4.size)⟩
theorem kept_end2 {W w4 : World} {g g3 g4 c3 c4 : Nat} {u v : Value} {l m : List Sec} (hu : IsSl u) (hv : IsSl v) (F : Box w4 g u v) (hg : W.heap.size ≤ g) (n3 : g3 ≠ g) (n4 : g4 ≠ g) (hb4 : Below W.heap.size W w4) (n34 : g3 ≠ g4) (o3 : OwnR W.heap.size w4 g3 c3 l) (o4 : OwnR W.heap.size w4 g4 c4 m) :
    KeptC W l m (.pointer (some ⟨g, 0, none⟩)) ((w4.setCell ⟨g, 0, none⟩ (.slice (some ⟨g3, 0, none⟩) 33 c3)).setCell ⟨g, 1, none⟩ (.slice (some ⟨g4, 0, none⟩) 33 c4)) := by
  obtain ⟨WW, e, hB, hs, ho, hk, hw⟩ := F.put hu hv (.slice (some ⟨g3, 0, none⟩) 33 c3) (.slice (some ⟨g4, 0, none⟩) 33 c4)
  have x3 := (o3.other (p := ⟨g, 0, none⟩) n3 (.slice (some ⟨g3, 0, none⟩) 33 c3)).other (p := ⟨g, 1, none⟩) n3 (.slice (some ⟨g4, 0, none⟩) 33 c4)
  have x4 := (o4.other (p := ⟨g, 0, none⟩) n4 (.slice (some ⟨g3, 0, none⟩) 33 c3)).other (p := ⟨g, 1, none⟩) n4 (.slice (some ⟨g4, 0, none⟩) 33 c4)
  rw [e] at x3 x4
  rw [e]
  exact ⟨g, g3, c3, g4, c4, rfl, hB, n34, x3, x4, hw W hg hb4⟩
def fillTo (l : List Sec) (s : Sec) : Nat → List Sec
  | 0 => l
  | k + 1 => (fillTo l s k).set k s
theorem fillTo_len (l : List Sec) (s : Sec) (k : Nat) : (fillTo l s k).length = l.length := by
  induction k with
  | zero => rfl
  | succ k ih => unfold fillTo; rw [List.length_set]; exact ih
theorem OwnR.set {B : Nat} {w : World} {g c : Nat} {l : List Sec} (h : OwnR B w g c l) {k : Nat} (hk : k < l.length) (s : Sec) : OwnR B ((w.setCell ⟨g, k * 2, none⟩ (.int .i64 s.n)).setCell ⟨g, k * 2 + 1, none⟩ (.string s.b)) g c (l.set k s) := by
  refine ⟨h.1, by simpa using h.2.1, ?_⟩
  rw [← secs_set _ _ _ hk]
  exact ((h.2.2.stored (k * 2) _).1.stored (k * 2 + 1) _).1
theorem OwnR.at {B : Nat} {w : World} {g c : Nat} {l : List Sec} (h : OwnR B w g c l) {k : Nat} (hk : k < l.length) (h33 : l.length = 33) :
    w.cell? ⟨g, k * 2, none⟩ = some (.int .i64 l[k].n) ∧ w.cell? ⟨g, k * 2 + 1, none⟩ = some (.string l[k].b) ∧ w.frozen? ⟨g, k * 2, none⟩ = false ∧ w.frozen? ⟨g, k * 2 + 1, none⟩ = false :=
  ⟨by rw [h.2.2.cellAt (k * 2) (by omega), secs_n _ k hk], by rw [h.2.2.cellAt (k * 2 + 1) (by omega), secs_b _ k hk], h.2.2.frozenAt _, h.2.2.frozenAt _⟩
def LoopI (W : World) (N P1 P6 P7 g1 c1 g2 c2 : Nat) (u1 u2 q1 q2 : Value) (Do : World → Prop) (vp : Value) (dp : Dsk) (L1 L2 : List Sec) (wr : World) : Prop :=
  Below W.heap.size W wr ∧ Box wr P1 (.slice (some ⟨g1, 0, none⟩) 33 c1) (.slice (some ⟨g2, 0, none⟩) 33 c2) ∧ Box wr P6 u1 u2 ∧ Box wr P7 q1 q2 ∧ OwnR N wr g1 c1 L1 ∧ OwnR N wr g2 c2 L2 ∧ Do wr ∧ Dk wr 0 wr.heap.size vp dp
section
variable {W wr : World} {N P1 P6 P7 g1 c1 g2 c2 : Nat} {u1 u2 q1 q2 : Value} {Do : World → Prop} {vp : Value} {dp : Dsk} {L1 L2 : List Sec}
theorem LoopI.put1 (h : LoopI W N P1 P6 P7 g1 c1 g2 c2 u1 u2 q1 q2 Do vp dp L1 L2 wr) (hW : W.heap.size ≤ g1) (n1 : g1 ≠ P1) (n6 : g1 ≠ P6) (n7 : g1 ≠ P7) (n12 : g1 ≠ g2) (hDo : ∀ (wr : World) (o : Nat) (u : Value), Do wr → Do (wr.setCell ⟨g1, o, none⟩ u)) (ap : Avo g1 vp)
    {k : Nat} (hk : k < L1.length) (s : Sec) : ∃ Wz, (wr.setCell ⟨g1, k * 2, none⟩ (.int .i64 s.n)).setCell ⟨g1, k * 2 + 1, none⟩ (.string s.b) = Wz ∧ LoopI W N P1 P6 P7 g1 c1 g2 c2 u1 u2 q1 q2 Do vp dp (L1.set k s) L2 Wz := by
  obtain ⟨h1, h2, h3, h4, h5, h6, h7, h8⟩ := h
  exact ⟨_, rfl, (h1.setCell hW _).setCell hW _, (h2.other n1 _ _).other n1 _ _, (h3.other n6 _ _).other n6 _ _, (h4.other n7 _ _).other n7 _ _, h5.set hk s, (h6.other (p := ⟨g1, k * 2, none⟩) (Ne.symm n12) _).other (p := ⟨g1, k * 2 + 1, none⟩) (Ne.symm n12) _, hDo _ _ _ (hDo _ _ _ h7),
    ((h8.avo_set ap _ _).avo_set ap _ _).wide (Nat.le_refl _) (by simp)⟩
theorem LoopI.put2 (h : LoopI W N P1 P6 P7 g1 c1 g2 c2 u1 u2 q1 q2 Do vp dp L1 L2 wr) (hW : W.heap.size ≤ g2) (n1 : g2 ≠ P1) (n6 : g2 ≠ P6) (n7 : g2 ≠ P7) (n12 : g1 ≠ g2) (hDo : ∀ (wr : World) (o : Nat) (u : Value), Do wr → Do (wr.setCell ⟨g2, o, none⟩ u)) (ap : Avo g2 vp)
    {k : Nat} (hk : k < L2.length) (s : Sec) : ∃ Wz, (wr.setCell ⟨g2, k * 2, none⟩ (.int .i64 s.n)).setCell ⟨g2, k * 2 + 1, none⟩ (.string s.b) = Wz ∧ LoopI W N P1 P6 P7 g1 c1 g2 c2 u1 u2 q1 q2 Do vp dp L1 (L2.set k s) Wz := by
  obtain ⟨h1, h2, h3, h4, h5, h6, h7, h8⟩ := h
  exact ⟨_, rfl, (h1.setCell hW _).setCell hW _, (h2.other n1 _ _).other n1 _ _, (h3.other n6 _ _).other n6 _ _, (h4.other n7 _ _).other n7 _ _, (h5.other (p := ⟨g2, k * 2, none⟩) n12 _).other (p := ⟨g2, k * 2 + 1, none⟩) n12 _, h6.set hk s, hDo _ _ _ (hDo _ _ _ h7),
    ((h8.avo_set ap _ _).avo_set ap _ _).wide (Nat.le_refl _) (by simp)⟩
end
theorem avo_pair {Q g g' c c' : Nat} (h : Q ≠ g) (h' : Q ≠ g') : Avo Q (.agg #[.slice (some ⟨g, 0, none⟩) 33 c, .slice (some ⟨g', 0, none⟩) 33 c']) := by
  intro a l k a' l' k' e
  cases e
  exact ⟨fun x hx => by cases hx; exact fun e => h e.symm, fun x hx => by cases hx; exact fun e => h' e.symm⟩
/-- What a box of a disk, two new rows and a box of an act are behind the copying. -/
def Copied (W B : World) (g gx : Nat) (u0 u1 u2 u3 u4 : Value) (l m : List Sec) (wx : World) : Prop :=
  ∃ g1 c1 g2 c2 : Nat, Below W.heap.size W wx ∧ Box wx g (.slice (some ⟨g1, 0, none⟩) 33 c1) (.slice (some ⟨g2, 0, none⟩) 33 c2) ∧ Box5 wx gx u0 u1 u2 u3 u4 ∧ g1 ≠ g2 ∧ OwnR B.heap.size wx g1 c1 l ∧ OwnR B.heap.size wx g2 c2 m
theorem copied_end {W B w4 : World} {g gx g3 g4 c3 c4 : Nat} {u v u0 u1 u2 u3 u4 : Value} {l m : List Sec} (hu : IsSl u) (hv : IsSl v) (HB : Below W.heap.size W B) (hW : W.heap.size ≤ g) (Bx : Box B g u v) (Bx5 : Box5 B gx u0 u1 u2 u3 u4) (ne : g ≠ gx) (hb4 : Below B.heap.size B w4)
    (n34 : g3 ≠ g4) (o3 : OwnR B.heap.size w4 g3 c3 l) (o4 : OwnR B.heap.size w4 g4 c4 m) :
    Copied W B g gx u0 u1 u2 u3 u4 l m ((w4.setCell ⟨g, 0, none⟩ (.slice (some ⟨g3, 0, none⟩) 33 c3)).setCell ⟨g, 1, none⟩ (.slice (some ⟨g4, 0, none⟩) 33 c4)) := by
  have hg := Bx.1
  obtain ⟨WW, e, hB, hs, ho, hk, hw⟩ := (Bx.far hb4).put hu hv (.slice (some ⟨g3, 0, none⟩) 33 c3) (.slice (some ⟨g4, 0, none⟩) 33 c4)
  have x5 := ((Bx5.far hb4).other ne 0 (.slice (some ⟨g3, 0, none⟩) 33 c3)).other ne 1 (.slice (some ⟨g4, 0, none⟩) 33 c4)
  have h3 := o3.1
  have h4 := o4.1
  have x3 := (o3.other (p := ⟨g, 0, none⟩) (show g3 ≠ g by omega) (.slice (some ⟨g3, 0, none⟩) 33 c3)).other (p := ⟨g, 1, none⟩) (show g3 ≠ g by omega) (.slice (some ⟨g4, 0, none⟩) 33 c4)
  have x4 := (o4.other (p := ⟨g, 0, none⟩) (show g4 ≠ g by omega) (.slice (some ⟨g3, 0, none⟩) 33 c3)).other (p := ⟨g, 1, none⟩) (show g4 ≠ g by omega) (.slice (some ⟨g4, 0, none⟩) 33 c4)
  rw [e] at x5 x3 x4
  rw [e]
  exact ⟨g3, c3, g4, c4, hw W hW (HB.trans (hb4.mono HB.size)), hB, x5, n34, x3, x4⟩
set_option maxRecDepth 100000 in
set_option maxHeartbeats 16000000 in
theorem own_in (a : Option Addr) (l c : Nat) (a' : Option Addr) (l' c' : Nat) (d : Dsk) (x : DAct) (w : World)
    (Dd : Dk w 0 w.heap.size (.agg #[.slice a l c, .slice a' l' c']) d) (hk : chkB d = true) (hx : x.In) (hxb : x.b.size ≤ 1000) :
    Calls Try.prog 8 #[.agg #[.slice a l c, .slice a' l' c'], x.val] w fun e w' => e = .returned (.bool true) ∧ Below w.heap.size w w' := by
  obtain ⟨i0, hi0, hz0, hz1, hz2⟩ := info_parts info_sec
  have HB := Below.refl w.heap.size w
  have D0 := Lib.hid Dd
  have HK := Lib.hid hk
  have SD := Lib.hid (chk_small hk)
  have CK := Lib.hid (chk_yes hk)
  have IX := Lib.hid hx
  have SX := Lib.hid (show x.b.size ≤ 3000 from Nat.le_trans hxb (by decide))
  have sx : ((1000 : Int) < (x.b.size : Int)) = False := by simp; omega
  clear hk hx hxb
  simp only [DAct.val]
  obtain ⟨w1, ee, hbx, Bx1, hzz⟩ := box_new w 24 (.slice a l c) (.slice a' l' c')
  have ne12 : w.heap.size ≠ w1.heap.size := Nat.ne_of_lt Bx1.1
  replace hzz := Lib.hid hzz
  replace HB := HB.trans (hbx.mono HB.size)
  clear hbx hzz
  obtain ⟨w2, ee2, hbx, Bx2⟩ := box5_new w1 47 (.int .i64 x.k) (.int .i64 x.s) (.int .i64 x.n) (.string x.b) (.int .u64 x.lost)
  replace Bx1 := Bx1.far hbx
  have l_x2 := HB.size
  replace HB := HB.trans (hbx.mono HB.size)
  clear hbx Dd
  go_enter Try.func8, Try.ntmps8
  have Dd := (D0.out.far HB).wide (Nat.le_refl 0) HB.size
  have nn := great_walk 0 w2.heap.size _ d w2 Dd (Nat.le_refl _)
  obtain ⟨_, x1_0, x1_1, x1_2, x1_3⟩ := id Bx1
  obtain ⟨_, x2_0, x2_1, x2_2, x2_3, x2_4⟩ := id Bx2
  go_wp2_with fail
  refine nn.mono ?_
  rintro e w4 ⟨rfl, hbx⟩
  clear x1_0 x1_1 x1_2 x1_3 x2_0 x2_1 x2_2 x2_3 x2_4 nn
  replace Bx1 := Bx1.far hbx
  replace Bx2 := Bx2.far hbx
  replace HB := HB.trans (hbx.mono HB.size)
  clear hbx
  rw [SD.out]
  replace Dd := (D0.out.far HB).wide (Nat.le_refl 0) HB.size
  have nn := rcheck_spec w4.heap.size _ d w4 Dd (Nat.le_refl _) SD.out
  obtain ⟨_, x1_0, x1_1, x1_2, x1_3⟩ := id Bx1
  obtain ⟨_, x2_0, x2_1, x2_2, x2_3, x2_4⟩ := id Bx2
  go_wp2_with fail
  refine nn.mono ?_
  rintro e w5 ⟨rfl, hbx⟩
  clear x1_0 x1_1 x1_2 x1_3 x2_0 x2_1 x2_2 x2_3 x2_4 nn
  replace Bx1 := Bx1.far hbx
  replace Bx2 := Bx2.far hbx
  replace HB := HB.trans (hbx.mono HB.size)
  clear hbx
  rw [CK.out]
  obtain ⟨p1, p2, _⟩ := chkB_parts HK.out
  have HL := Lib.hid (And.intro (rowB_length p1) (rowB_length p2))
  clear p1 p2 Dd
  obtain ⟨_, _, _, _, _, _, e1, r1, r2, _⟩ := D0.out.far HB
  cases e1
  obtain rfl : l = 33 := by rw [← secs_len r1]; exact HL.out.1
  obtain rfl : l' = 33 := by rw [← secs_len r2]; exact HL.out.2
  have R1 := Lib.hid r1
  have R2 := Lib.hid r2
  clear r1 r2
  go_wp2_with fail
  have hh5 : w.heap.size ≤ w5.heap.size := HB.size
  have HB5 := HB
  have Hx := Lib.hid (And.intro Bx1 Bx2)
  go_cut [] (fun wx => Copied w w5 w.heap.size w1.heap.size (.int .i64 x.k) (.int .i64 x.s) (.int .i64 x.n) (.string x.b) (.int .u64 x.lost) d.now d.sure wx)
  case first =>
    obtain ⟨x1_h, x1_0, x1_1, x1_2, x1_3⟩ := id Bx1
    have r1 := R1.out
    have r2 := R2.out
    go_region_law (first
      | (refine step_append_fresh (by rfl) (.tmp 23) (.tmp 25) _ (by rfl) w5 _ i0 _ 2 24 Try.underlying22 hi0 hz0 hz1 hz2 rfl (by decide) _ (by rfl) 0 w.heap.size a 33 c (secs d.now) (by rfl) (by repeat (first | with_reducible assumption | with_reducible exact Below.refl _ _ | with_reducible apply Below.drew | with_reducible apply below_made)) (Rg.far r1 (Below.mono (by repeat (first | with_reducible assumption | with_reducible exact Below.refl _ _ | with_reducible apply Below.drew | with_reducible apply below_made)) hh5)) (by decide) (by decide) (by decide) ?_; intro g3 c3 w3 hg3 hk3 hr3 hb3 hs3; obtain ⟨_, _, _, _, _⟩ := Box.far Bx1 hb3; have o3 : OwnR w5.heap.size w3 g3 c3 d.now := ⟨Nat.le_trans (Below.size (show Below w5.heap.size w5 _ from (by repeat (first | with_reducible assumption | with_reducible exact Below.refl _ _ | with_reducible apply Below.drew | with_reducible apply below_made)))) hg3, hk3, own_base hr3 (Below.size (show Below w5.heap.size w5 _ from (by repeat (first | with_reducible assumption | with_reducible exact Below.refl _ _ | with_reducible apply Below.drew | with_reducible apply below_made))))⟩; clear hg3 hr3)
      | (refine step_append_fresh (by rfl) (.tmp 27) (.tmp 29) _ (by rfl) w5 _ i0 _ 2 24 Try.underlying22 hi0 hz0 hz1 hz2 rfl (by decide) _ (by rfl) 0 w.heap.size a' 33 c' (secs d.sure) (by rfl) (by repeat (first | with_reducible assumption | with_reducible exact Below.refl _ _ | with_reducible apply Below.drew | with_reducible apply below_made)) (Rg.far r2 (Below.mono (by repeat (first | with_reducible assumption | with_reducible exact Below.refl _ _ | with_reducible apply Below.drew | with_reducible apply below_made)) hh5)) (by decide) (by decide) (by decide) ?_; intro g4 c4 w4' hg4 hk4 hr4 hb4 hs4; obtain ⟨_, _, _, _, _⟩ := Box.far Bx1 hb4; have o4 : OwnR w5.heap.size w4' g4 c4 d.sure := ⟨Nat.le_trans (Below.size (show Below w5.heap.size w5 _ from (by repeat (first | with_reducible assumption | with_reducible exact Below.refl _ _ | with_reducible apply Below.drew | with_reducible apply below_made)))) hg4, hk4, own_base hr4 (Below.size (show Below w5.heap.size w5 _ from (by repeat (first | with_reducible assumption | with_reducible exact Below.refl _ _ | with_reducible apply Below.drew | with_reducible apply below_made))))⟩; have tt := (fun h : Below w3.heap.size w3 _ => And.intro (h.trans (hs4.mono h.size)) (Nat.ne_of_lt (Nat.lt_of_lt_of_le hk3 (Nat.le_trans h.size hg4)))) (by repeat (first | with_reducible assumption | with_reducible exact Below.refl _ _ | with_reducible apply Below.drew | with_reducible apply below_made)); have o3' := o3.far tt.1; have nn34 := tt.2; clear hg4 hr4 o3))
    all_goals
      go_wp2_with fail
      go_meet
      with_reducible exact copied_end (isSl _ _ _) (isSl _ _ _) HB5 (Nat.le_refl _) Bx1 Bx2 ne12 hb4 nn34 o3' o4
  case rest =>
  obtain ⟨g1, c1, g2, c2, HC, BxA, BxX, ng12, O1, O2⟩ := hcut
  have hw5 : w.heap.size < w5.heap.size := Bx1.1
  have hh6 : w5.heap.size ≤ wc.heap.size := Nat.le_of_lt (Nat.lt_of_le_of_lt O1.1 O1.2.1)
  clear Hx Bx1 Bx2 HB HB5 R1 R2 D0 sx
  obtain ⟨_, _, e1, _, _, r1⟩ := Rg.own O1.2.2
  cases e1
  obtain ⟨_, _, e2, _, _, r2⟩ := Rg.own O2.2.2
  cases e2
  go_wp2_with fail
  have kW := Lib.hid (show ∀ w' : World, Below wc.heap.size wc w' → w'.cell? ⟨w.heap.size, 0, none⟩ = some (.slice (some ⟨g1, 0, none⟩) 33 c1) ∧ w'.cell? ⟨w.heap.size, 1, none⟩ = some (.slice (some ⟨g2, 0, none⟩) 33 c2) from fun w' h => by
    obtain ⟨_, a0, a1, _⟩ := BxA.far h
    exact ⟨a0, a1⟩)
  go_cut [5] (fun p wx => KeptC wc d.now d.sure p wx)
  case first =>
    have HQ : Below wc.heap.size wc wc := Below.refl _ _
    obtain ⟨_, xA_0, xA_1, _⟩ := id BxA
    go_region_held3 (fun w' => w'.cell? ⟨w.heap.size, 0, none⟩ = some (.slice (some ⟨g1, 0, none⟩) 33 c1) ∧ w'.cell? ⟨w.heap.size, 1, none⟩ = some (.slice (some ⟨g2, 0, none⟩) 33 c2))
      (first | with_reducible exact kW.out _ HQ | (with_reducible refine kW.out _ ?_; repeat' (first | with_reducible exact HQ | with_reducible refine below_made ?_ _ | with_reducible refine Below.setCell ?_ ?_ _ | with_reducible refine Below.drew ?_ | with_reducible assumption | (dsimp only; omega) | (simp; done) | (simp; omega))))
      (first
        | (refine step_append_fresh (by rfl) (.tmp 32) (.tmp 34) _ (by rfl) wc _ i0 _ 2 24 Try.underlying22 hi0 hz0 hz1 hz2 rfl (by decide) _ (by rfl) w5.heap.size wc.heap.size (some ⟨g1, 0, none⟩) 33 c1 (secs d.now) (by rfl) (by repeat (first | with_reducible assumption | with_reducible exact Below.refl _ _ | with_reducible apply Below.drew | with_reducible apply below_made)) (Rg.far r1 (by repeat (first | with_reducible assumption | with_reducible exact Below.refl _ _ | with_reducible apply Below.drew | with_reducible apply below_made))) (by decide) (by decide) (by decide) ?_; intro gg3 cc3 ww3 hg3 hk3 hr3 hb3 hs3; have o3 : OwnR wc.heap.size ww3 gg3 cc3 d.now := ⟨Nat.le_trans (Below.size (show Below wc.heap.size wc _ from (by repeat (first | with_reducible assumption | with_reducible exact Below.refl _ _ | with_reducible apply Below.drew | with_reducible apply below_made)))) hg3, hk3, own_base hr3 (Below.size (show Below wc.heap.size wc _ from (by repeat (first | with_reducible assumption | with_reducible exact Below.refl _ _ | with_reducible apply Below.drew | with_reducible apply below_made))))⟩; have sz3 := hb3.size; (first | (with_reducible have Fk := pat_EEKd hs3) | (with_reducible have Fk := pat_EKEd hs3) | (with_reducible have Fk := pat_KEEd hs3) | (with_reducible have Fk := pat_EKd hs3) | (with_reducible have Fk := pat_KEd hs3) | skip); (try simp at hg3); replace HQ := hb3; clear hr3)
        | (refine step_append_fresh (by rfl) (.tmp 36) (.tmp 38) _ (by rfl) wc _ i0 _ 2 24 Try.underlying22 hi0 hz0 hz1 hz2 rfl (by decide) _ (by rfl) w5.heap.size wc.heap.size (some ⟨g2, 0, none⟩) 33 c2 (secs d.sure) (by rfl) (by repeat (first | with_reducible assumption | with_reducible exact Below.refl _ _ | with_reducible apply Below.drew | with_reducible apply below_made)) (Rg.far r2 (by repeat (first | with_reducible assumption | with_reducible exact Below.refl _ _ | with_reducible apply Below.drew | with_reducible apply below_made))) (by decide) (by decide) (by decide) ?_; intro gg4 cc4 ww4 hg4 hk4 hr4 hb4 hs4; have o4 : OwnR wc.heap.size ww4 gg4 cc4 d.sure := ⟨Nat.le_trans (Below.size (show Below wc.heap.size wc _ from (by repeat (first | with_reducible assumption | with_reducible exact Below.refl _ _ | with_reducible apply Below.drew | with_reducible apply below_made)))) hg4, hk4, own_base hr4 (Below.size (show Below wc.heap.size wc _ from (by repeat (first | with_reducible assumption | with_reducible exact Below.refl _ _ | with_reducible apply Below.drew | with_reducible apply below_made))))⟩; have sz4 := hs4.size; have tt := (fun h : Below ww3.heap.size ww3 _ => And.intro (h.trans (hs4.mono h.size)) (Nat.ne_of_lt (Nat.lt_of_lt_of_le hk3 (Nat.le_trans h.size hg4)))) (by repeat (first | with_reducible assumption | with_reducible exact Below.refl _ _ | with_reducible apply Below.drew | with_reducible apply below_made)); have o3' := o3.far tt.1; have nn34 := tt.2; have tl := (fun h : Below ww3.heap.size ww3 _ => Nat.le_trans h.size hg4) (by repeat (first | with_reducible assumption | with_reducible exact Below.refl _ _ | with_reducible apply Below.drew | with_reducible apply below_made)); (first | (have fk1 := Fk.1; have Fj := Fk.far tt.1) | (with_reducible have Fj := pat_EK hs4) | (with_reducible have Fj := pat_KE hs4) | (with_reducible have Fj := pat_K hs4) | skip); (try simp at hg4); (try (have hun := Fj; obtain ⟨_, _, _, _, _⟩ := hun)); replace HQ := hb4; clear hr4 o3))
    all_goals
      go_wp2_with fail
      go_meet
      first
        | with_reducible exact kept_end1 hb4 nn34 o3' o4
        | (with_reducible refine kept_end2 (isSl _ _ _) (isSl _ _ _) Fj ?_ ?_ ?_ hb4 nn34 o3' o4 <;> first | assumption | omega | (simp; omega))
  case rest =>
  clear kW r1 r2
  obtain ⟨P5, g3, c3, g4, c4, rfl, BxK, ng34, O3, O4, hb6⟩ := hcut
  have l13 : g1 < g3 := Nat.lt_of_lt_of_le O1.2.1 O3.1
  have l14 : g1 < g4 := Nat.lt_of_lt_of_le O1.2.1 O4.1
  have l23 : g2 < g3 := Nat.lt_of_lt_of_le O2.2.1 O3.1
  have l24 : g2 < g4 := Nat.lt_of_lt_of_le O2.2.1 O4.1
  replace BxA := BxA.far hb6
  replace BxX := BxX.far hb6
  replace O1 := O1.far hb6
  replace O2 := O2.far hb6
  replace HC := HC.trans (hb6.mono HC.size)
  have lg1 := O1.2.1
  have lg2 := O2.2.1
  clear hb6 hh6
  have D1 := own_dk O1 O2
  have nn := fo_walk dput_fr dsync_fr dcrash_fr _ ⟨d.now, d.sure⟩ x wc D1 SD.out IX.out SX.out
  simp only [DAct.val] at nn
  obtain ⟨_, xA_0, xA_1, _⟩ := id BxA
  obtain ⟨_, x2_0, x2_1, x2_2, x2_3, x2_4⟩ := id BxX
  go_wp2_with fail
  refine nn.mono ?_
  rintro e wo ⟨vo, rfl, Dv, hbo, hor⟩
  clear nn xA_0 xA_1 x2_0 x2_1 x2_2 x2_3 x2_4
  rcases hor with rfl | hfr
  · skip
    clear D1
    replace BxA := BxA.far hbo
    replace BxX := BxX.far hbo
    replace BxK := BxK.far hbo
    replace O1 := O1.far hbo
    replace O2 := O2.far hbo
    replace O3 := O3.far hbo
    replace O4 := O4.far hbo
    replace HC := HC.trans (hbo.mono HC.size)
    obtain ⟨w7, e7, hb7, Bx6, _⟩ := box_new wo 24 (.slice (some ⟨g1, 0, none⟩) 33 c1) (.slice (some ⟨g2, 0, none⟩) 33 c2)
    have n16 : g1 ≠ wo.heap.size := Nat.ne_of_lt O1.2.1
    have n26 : g2 ≠ wo.heap.size := Nat.ne_of_lt O2.2.1
    replace BxA := BxA.far hb7
    replace BxX := BxX.far hb7
    replace BxK := BxK.far hb7
    replace Dv := Dv.on hb7
    replace O1 := O1.far hb7
    replace O2 := O2.far hb7
    replace O3 := O3.far hb7
    replace O4 := O4.far hb7
    replace HC := HC.trans (hb7.mono HC.size)
    clear hb7 hbo
    have nn := fo_walk dput_fr dsync_fr dcrash_fr _ ⟨d.now, d.sure⟩ x w7 (own_dk O3 O4) SD.out IX.out SX.out
    simp only [DAct.val] at nn
    obtain ⟨_, xK_0, xK_1, _⟩ := id BxK
    obtain ⟨_, x2_0, x2_1, x2_2, x2_3, x2_4⟩ := id BxX
    go_wp2_with fail
    refine nn.mono ?_
    rintro e wp ⟨vp, rfl, Dp, hbp, hpr⟩
    clear nn xK_0 xK_1 x2_0 x2_1 x2_2 x2_3 x2_4 e7
    have ap1 : Avo g1 vp := by
      rcases hpr with rfl | h
      · exact avo_pair (Nat.ne_of_lt l13) (Nat.ne_of_lt l14)
      · exact h g1 O1.2.1
    have ap2 : Avo g2 vp := by
      rcases hpr with rfl | h
      · exact avo_pair (Nat.ne_of_lt l23) (Nat.ne_of_lt l24)
      · exact h g2 O2.2.1
    clear hpr
    obtain ⟨pa, pl, pc, pa', pl', pc', rfl, _⟩ := id Dp
    replace BxA := BxA.far hbp
    replace BxX := BxX.far hbp
    replace BxK := BxK.far hbp
    replace Bx6 := Bx6.far hbp
    replace Dv := Dv.on hbp
    replace O1 := O1.far hbp
    replace O2 := O2.far hbp
    replace O3 := O3.far hbp
    replace O4 := O4.far hbp
    replace HC := HC.trans (hbp.mono HC.size)
    obtain ⟨w8, e8, hb8, Bx7, _⟩ := box_new wp 24 (.slice pa pl pc) (.slice pa' pl' pc')
    have n17 : g1 ≠ wp.heap.size := Nat.ne_of_lt O1.2.1
    have n27 : g2 ≠ wp.heap.size := Nat.ne_of_lt O2.2.1
    replace BxA := BxA.far hb8
    replace BxX := BxX.far hb8
    replace BxK := BxK.far hb8
    replace Bx6 := Bx6.far hb8
    replace Dv := Dv.on hb8
    replace Dp := Dp.on hb8
    replace O1 := O1.far hb8
    replace O2 := O2.far hb8
    replace O3 := O3.far hb8
    replace O4 := O4.far hb8
    replace HC := HC.trans (hb8.mono HC.size)
    clear hb8 hbp
    have nn := rsame_walk 0 w8.heap.size _ _ 0 w8.heap.size _ _ w8 (own_dk O1 O2) (Nat.le_refl _) (own_dk O3 O4) (Nat.le_refl _)
    rw [show sameD (⟨d.now, d.sure⟩ : Dsk) ⟨d.now, d.sure⟩ = true from sameD_iff.2 rfl] at nn
    obtain ⟨_, xK_0, xK_1, _⟩ := id BxK
    obtain ⟨_, xA_0, xA_1, _⟩ := id BxA
    go_wp2_with fail
    refine nn.mono ?_
    rintro e w9 ⟨rfl, hb9⟩
    clear nn xK_0 xK_1 xA_0 xA_1 e8
    replace BxA := BxA.far hb9
    replace BxX := BxX.far hb9
    replace Bx6 := Bx6.far hb9
    replace Bx7 := Bx7.far hb9
    replace Dv := Dv.on hb9
    replace Dp := Dp.on hb9
    replace O1 := O1.far hb9
    replace O2 := O2.far hb9
    replace HC := HC.trans (hb9.mono HC.size)
    clear hb9 O3 O4 BxK
    obtain ⟨_, x2_0, x2_1, x2_2, x2_3, x2_4⟩ := id BxX
    rcases (show x.k < 0 ∨ (0 ≤ x.k ∧ 2 < x.k) ∨ (0 ≤ x.k ∧ x.k ≤ 2) by omega) with hk | ⟨hk, hk'⟩ | ⟨hk, hk'⟩
    · clear O1 O2
      have nn := rsame_walk 0 w9.heap.size _ _ 0 w9.heap.size _ _ w9 Dv (Nat.le_refl _) Dp (Nat.le_refl _)
      rw [show sameD (doD ⟨d.now, d.sure⟩ x) (doD ⟨d.now, d.sure⟩ x) = true from sameD_iff.2 rfl] at nn
      obtain ⟨_, y6_0, y6_1, _⟩ := id Bx6
      obtain ⟨_, y7_0, y7_1, _⟩ := id Bx7
      go_wp2_with fail
      refine nn.mono ?_
      rintro e wq ⟨rfl, hbq⟩
      have n2 := wakes_own wq
      go_wp2_with fail
      refine n2.mono ?_
      rintro e wt ⟨rfl, hbt⟩
      go_wp2
      go_ret
      exact ⟨rfl, (HC.trans (hbq.mono HC.size)).trans (hbt.mono (HC.trans (hbq.mono HC.size)).size)⟩
    · clear O1 O2
      have nn := rsame_walk 0 w9.heap.size _ _ 0 w9.heap.size _ _ w9 Dv (Nat.le_refl _) Dp (Nat.le_refl _)
      rw [show sameD (doD ⟨d.now, d.sure⟩ x) (doD ⟨d.now, d.sure⟩ x) = true from sameD_iff.2 rfl] at nn
      obtain ⟨_, y6_0, y6_1, _⟩ := id Bx6
      obtain ⟨_, y7_0, y7_1, _⟩ := id Bx7
      go_wp2_with fail
      refine nn.mono ?_
      rintro e wq ⟨rfl, hbq⟩
      have n2 := wakes_own wq
      go_wp2_with fail
      refine n2.mono ?_
      rintro e wt ⟨rfl, hbt⟩
      go_wp2
      go_ret
      exact ⟨rfl, (HC.trans (hbq.mono HC.size)).trans (hbt.mono (HC.trans (hbq.mono HC.size)).size)⟩
    · have HLN := HL.out
      have lw1 : w.heap.size ≤ g1 := Nat.le_trans (Nat.le_of_lt hw5) O1.1
      have lw2 : w.heap.size ≤ g2 := Nat.le_trans (Nat.le_of_lt hw5) O2.1
      have nA1 : g1 ≠ w.heap.size := Nat.ne_of_gt (Nat.lt_of_lt_of_le hw5 O1.1)
      have nA2 : g2 ≠ w.heap.size := Nat.ne_of_gt (Nat.lt_of_lt_of_le hw5 O2.1)
      have hDo1 : ∀ (wr : World) (o : Nat) (u : Value), (fun _ : World => True) wr → (fun _ : World => True) (wr.setCell ⟨g1, o, none⟩ u) := fun _ _ _ _ => trivial
      have hDo2 : ∀ (wr : World) (o : Nat) (u : Value), (fun _ : World => True) wr → (fun _ : World => True) (wr.setCell ⟨g2, o, none⟩ u) := fun _ _ _ _ => trivial
      have HI := Lib.hid (show LoopI w w5.heap.size w.heap.size wo.heap.size wp.heap.size g1 c1 g2 c2 (.slice (some ⟨g1, 0, none⟩) 33 c1) (.slice (some ⟨g2, 0, none⟩) 33 c2) (.slice pa pl pc) (.slice pa' pl' pc') (fun _ => True) (.agg #[.slice pa pl pc, .slice pa' pl' pc']) (doD ⟨d.now, d.sure⟩ x) (fillTo d.now ⟨1, ⟨#[120]⟩⟩ 0) (fillTo d.sure noSec 0) w9 from ⟨HC, BxA, Bx6, Bx7, O1, O2, trivial, Dp⟩)
      have HDo := Lib.hid (And.intro hDo1 hDo2)
      have HAp := Lib.hid (And.intro ap1 ap2)
      obtain ⟨_, xA_0, xA_1, _⟩ := id BxA
      clear hDo1 hDo2 ap1 ap2 O1 O2 BxX Bx6 Bx7 Dv Dp HC
      go_wp2
      clear x2_0 x2_1 x2_2 x2_3 x2_4 xA_0 xA_1 BxA
      go_loopw [62] (fun i wr => ∃ k : Nat, k ≤ 33 ∧ i = .int .i64 k ∧ LoopI w w5.heap.size w.heap.size wo.heap.size wp.heap.size g1 c1 g2 c2 (.slice (some ⟨g1, 0, none⟩) 33 c1) (.slice (some ⟨g2, 0, none⟩) 33 c2) (.slice pa pl pc) (.slice pa' pl' pc') (fun _ => True) (.agg #[.slice pa pl pc, .slice pa' pl' pc']) (doD ⟨d.now, d.sure⟩ x) (fillTo d.now ⟨1, ⟨#[120]⟩⟩ k) (fillTo d.sure noSec k) wr) (fun i _ => 33 - (intOf i).toNat)
      case atStart => exact ⟨0, Nat.zero_le _, rfl, HI.out⟩
      case round =>
        obtain ⟨k, hkk, rfl, LIk⟩ := hrel
        clear HI
        by_cases hlt : k < 33
        · have t1 : (fillTo d.now ⟨1, ⟨#[120]⟩⟩ k).length = 33 := by rw [fillTo_len]; exact HL.out.1
          have t2 : (fillTo d.sure noSec k).length = 33 := by rw [fillTo_len]; exact HL.out.2
          obtain ⟨wq, eq1, L1⟩ := LIk.put1 lw1 nA1 n16 n17 ng12 HDo.out.1 HAp.out.1 (k := k) (by omega) ⟨1, ⟨#[120]⟩⟩
          obtain ⟨wz, eq2, L2⟩ := L1.put2 lw2 nA2 n26 n27 ng12 HDo.out.2 HAp.out.2 (k := k) (by omega) noSec
          obtain ⟨c1a, c1b, f1a, f1b⟩ := OwnR.at LIk.2.2.2.2.1 (k := k) (by omega) t1
          obtain ⟨c2a, c2b, f2a, f2b⟩ := OwnR.at L1.2.2.2.2.2.1 (k := k) (by omega) t2
          obtain ⟨_, bA_0, bA_1, _⟩ := LIk.2.1
          obtain ⟨_, dA_0, dA_1, _⟩ := L1.2.1
          have HZ := Lib.hid (show LoopI w w5.heap.size w.heap.size wo.heap.size wp.heap.size g1 c1 g2 c2 (.slice (some ⟨g1, 0, none⟩) 33 c1) (.slice (some ⟨g2, 0, none⟩) 33 c2) (.slice pa pl pc) (.slice pa' pl' pc') (fun _ => True) (.agg #[.slice pa pl pc, .slice pa' pl' pc']) (doD ⟨d.now, d.sure⟩ x) (fillTo d.now ⟨1, ⟨#[120]⟩⟩ (k + 1)) (fillTo d.sure noSec (k + 1)) wz from L2)
          generalize (fillTo d.now ⟨1, ⟨#[120]⟩⟩ k)[k] = sa at *
          generalize (fillTo d.sure noSec k)[k] = sb at *
          have hki : (k : Int) < 33 := by omega
          have hk0 : (0 : Int) ≤ k := by omega
          simp only [noSec] at eq2
          clear L1 L2 LIk t1 t2
          go_wp2
          go_roundw
          case rel => exact ⟨k + 1, by omega, by go_num, HZ.out⟩
          case measure => simp [intOf]; omega
        · obtain rfl : k = 33 := by omega
          obtain ⟨HC, BxA, Bx6, Bx7, O1, O2, Do, Dp⟩ := LIk
          obtain ⟨_, y6_0, y6_1, _⟩ := id Bx6
          obtain ⟨_, y7_0, y7_1, _⟩ := id Bx7
          have DX := own_dk O1 O2
          have nn := rsame_walk 0 wr.heap.size _ _ 0 wr.heap.size _ _ wr DX (Nat.le_refl _) Dp (Nat.le_refl _)
          rcases hb : sameD (⟨fillTo d.now ⟨1, ⟨#[120]⟩⟩ 33, fillTo d.sure noSec 33⟩ : Dsk) (doD ⟨d.now, d.sure⟩ x) with _ | _
          · rw [hb] at nn
            clear hb
            go_wp2_with fail
            refine nn.mono ?_
            rintro e wq ⟨rfl, hbq⟩
            replace DX := DX.on hbq
            replace BxA := BxA.far hbq
            replace Bx6 := Bx6.far hbq
            have n3 := rsame_walk 0 wq.heap.size _ _ 0 wq.heap.size _ _ wq DX (Nat.le_refl _) DX (Nat.le_refl _)
            rw [show sameD (⟨fillTo d.now ⟨1, ⟨#[120]⟩⟩ 33, fillTo d.sure noSec 33⟩ : Dsk) ⟨fillTo d.now ⟨1, ⟨#[120]⟩⟩ 33, fillTo d.sure noSec 33⟩ = true from sameD_iff.2 rfl] at n3
            clear y6_0 y6_1 y7_0 y7_1
            obtain ⟨_, y6_0, y6_1, _⟩ := id Bx6
            obtain ⟨_, yA_0, yA_1, _⟩ := id BxA
            go_wp2_with fail
            refine n3.mono ?_
            rintro e wy ⟨rfl, hby⟩
            have n2 := wakes_own wy
            go_wp2_with fail
            refine n2.mono ?_
            rintro e wt ⟨rfl, hbt⟩
            go_wp2
            go_ret
            exact ⟨rfl, ((HC.trans (hbq.mono HC.size)).trans (hby.mono (HC.trans (hbq.mono HC.size)).size)).trans (hbt.mono ((HC.trans (hbq.mono HC.size)).trans (hby.mono (HC.trans (hbq.mono HC.size)).size)).size)⟩
          · rw [hb] at nn
            clear hb
            go_wp2_with fail
            refine nn.mono ?_
            rintro e wq ⟨rfl, hbq⟩
            have n2 := wakes_own wq
            go_wp2_with fail
            refine n2.mono ?_
            rintro e wt ⟨rfl, hbt⟩
            go_wp2
            go_ret
            exact ⟨rfl, (HC.trans (hbq.mono HC.size)).trans (hbt.mono (HC.trans (hbq.mono HC.size)).size)⟩
  · skip
    clear D1
    obtain ⟨oa, ol, oc, oa', ol', oc', rfl, _⟩ := id Dv
    have ao1 := Lib.hid (hfr g1 lg1)
    have ao2 := Lib.hid (hfr g2 lg2)
    clear hfr
    replace BxA := BxA.far hbo
    replace BxX := BxX.far hbo
    replace BxK := BxK.far hbo
    replace O1 := O1.far hbo
    replace O2 := O2.far hbo
    replace O3 := O3.far hbo
    replace O4 := O4.far hbo
    replace HC := HC.trans (hbo.mono HC.size)
    obtain ⟨w7, e7, hb7, Bx6, _⟩ := box_new wo 24 (.slice oa ol oc) (.slice oa' ol' oc')
    have n16 : g1 ≠ wo.heap.size := Nat.ne_of_lt O1.2.1
    have n26 : g2 ≠ wo.heap.size := Nat.ne_of_lt O2.2.1
    replace BxA := BxA.far hb7
    replace BxX := BxX.far hb7
    replace BxK := BxK.far hb7
    replace Dv := Dv.on hb7
    replace O1 := O1.far hb7
    replace O2 := O2.far hb7
    replace O3 := O3.far hb7
    replace O4 := O4.far hb7
    replace HC := HC.trans (hb7.mono HC.size)
    clear hb7 hbo
    have nn := fo_walk dput_fr dsync_fr dcrash_fr _ ⟨d.now, d.sure⟩ x w7 (own_dk O3 O4) SD.out IX.out SX.out
    simp only [DAct.val] at nn
    obtain ⟨_, xK_0, xK_1, _⟩ := id BxK
    obtain ⟨_, x2_0, x2_1, x2_2, x2_3, x2_4⟩ := id BxX
    go_wp2_with fail
    refine nn.mono ?_
    rintro e wp ⟨vp, rfl, Dp, hbp, hpr⟩
    clear nn xK_0 xK_1 x2_0 x2_1 x2_2 x2_3 x2_4 e7
    have ap1 : Avo g1 vp := by
      rcases hpr with rfl | h
      · exact avo_pair (Nat.ne_of_lt l13) (Nat.ne_of_lt l14)
      · exact h g1 O1.2.1
    have ap2 : Avo g2 vp := by
      rcases hpr with rfl | h
      · exact avo_pair (Nat.ne_of_lt l23) (Nat.ne_of_lt l24)
      · exact h g2 O2.2.1
    clear hpr
    obtain ⟨pa, pl, pc, pa', pl', pc', rfl, _⟩ := id Dp
    replace BxA := BxA.far hbp
    replace BxX := BxX.far hbp
    replace BxK := BxK.far hbp
    replace Bx6 := Bx6.far hbp
    replace Dv := Dv.on hbp
    replace O1 := O1.far hbp
    replace O2 := O2.far hbp
    replace O3 := O3.far hbp
    replace O4 := O4.far hbp
    replace HC := HC.trans (hbp.mono HC.size)
    obtain ⟨w8, e8, hb8, Bx7, _⟩ := box_new wp 24 (.slice pa pl pc) (.slice pa' pl' pc')
    have n17 : g1 ≠ wp.heap.size := Nat.ne_of_lt O1.2.1
    have n27 : g2 ≠ wp.heap.size := Nat.ne_of_lt O2.2.1
    replace BxA := BxA.far hb8
    replace BxX := BxX.far hb8
    replace BxK := BxK.far hb8
    replace Bx6 := Bx6.far hb8
    replace Dv := Dv.on hb8
    replace Dp := Dp.on hb8
    replace O1 := O1.far hb8
    replace O2 := O2.far hb8
    replace O3 := O3.far hb8
    replace O4 := O4.far hb8
    replace HC := HC.trans (hb8.mono HC.size)
    clear hb8 hbp
    have nn := rsame_walk 0 w8.heap.size _ _ 0 w8.heap.size _ _ w8 (own_dk O1 O2) (Nat.le_refl _) (own_dk O3 O4) (Nat.le_refl _)
    rw [show sameD (⟨d.now, d.sure⟩ : Dsk) ⟨d.now, d.sure⟩ = true from sameD_iff.2 rfl] at nn
    obtain ⟨_, xK_0, xK_1, _⟩ := id BxK
    obtain ⟨_, xA_0, xA_1, _⟩ := id BxA
    go_wp2_with fail
    refine nn.mono ?_
    rintro e w9 ⟨rfl, hb9⟩
    clear nn xK_0 xK_1 xA_0 xA_1 e8
    replace BxA := BxA.far hb9
    replace BxX := BxX.far hb9
    replace Bx6 := Bx6.far hb9
    replace Bx7 := Bx7.far hb9
    replace Dv := Dv.on hb9
    replace Dp := Dp.on hb9
    replace O1 := O1.far hb9
    replace O2 := O2.far hb9
    replace HC := HC.trans (hb9.mono HC.size)
    clear hb9 O3 O4 BxK
    obtain ⟨_, x2_0, x2_1, x2_2, x2_3, x2_4⟩ := id BxX
    rcases (show x.k < 0 ∨ (0 ≤ x.k ∧ 2 < x.k) ∨ (0 ≤ x.k ∧ x.k ≤ 2) by omega) with hk | ⟨hk, hk'⟩ | ⟨hk, hk'⟩
    · clear O1 O2
      have nn := rsame_walk 0 w9.heap.size _ _ 0 w9.heap.size _ _ w9 Dv (Nat.le_refl _) Dp (Nat.le_refl _)
      rw [show sameD (doD ⟨d.now, d.sure⟩ x) (doD ⟨d.now, d.sure⟩ x) = true from sameD_iff.2 rfl] at nn
      obtain ⟨_, y6_0, y6_1, _⟩ := id Bx6
      obtain ⟨_, y7_0, y7_1, _⟩ := id Bx7
      go_wp2_with fail
      refine nn.mono ?_
      rintro e wq ⟨rfl, hbq⟩
      have n2 := wakes_own wq
      go_wp2_with fail
      refine n2.mono ?_
      rintro e wt ⟨rfl, hbt⟩
      go_wp2
      go_ret
      exact ⟨rfl, (HC.trans (hbq.mono HC.size)).trans (hbt.mono (HC.trans (hbq.mono HC.size)).size)⟩
    · clear O1 O2
      have nn := rsame_walk 0 w9.heap.size _ _ 0 w9.heap.size _ _ w9 Dv (Nat.le_refl _) Dp (Nat.le_refl _)
      rw [show sameD (doD ⟨d.now, d.sure⟩ x) (doD ⟨d.now, d.sure⟩ x) = true from sameD_iff.2 rfl] at nn
      obtain ⟨_, y6_0, y6_1, _⟩ := id Bx6
      obtain ⟨_, y7_0, y7_1, _⟩ := id Bx7
      go_wp2_with fail
      refine nn.mono ?_
      rintro e wq ⟨rfl, hbq⟩
      have n2 := wakes_own wq
      go_wp2_with fail
      refine n2.mono ?_
      rintro e wt ⟨rfl, hbt⟩
      go_wp2
      go_ret
      exact ⟨rfl, (HC.trans (hbq.mono HC.size)).trans (hbt.mono (HC.trans (hbq.mono HC.size)).size)⟩
    · have HLN := HL.out
      have lw1 : w.heap.size ≤ g1 := Nat.le_trans (Nat.le_of_lt hw5) O1.1
      have lw2 : w.heap.size ≤ g2 := Nat.le_trans (Nat.le_of_lt hw5) O2.1
      have nA1 : g1 ≠ w.heap.size := Nat.ne_of_gt (Nat.lt_of_lt_of_le hw5 O1.1)
      have nA2 : g2 ≠ w.heap.size := Nat.ne_of_gt (Nat.lt_of_lt_of_le hw5 O2.1)
      have hDo1 : ∀ (wr : World) (o : Nat) (u : Value), (fun wr => Dk wr 0 wr.heap.size (.agg #[.slice oa ol oc, .slice oa' ol' oc']) (doD ⟨d.now, d.sure⟩ x)) wr → (fun wr => Dk wr 0 wr.heap.size (.agg #[.slice oa ol oc, .slice oa' ol' oc']) (doD ⟨d.now, d.sure⟩ x)) (wr.setCell ⟨g1, o, none⟩ u) := fun wr o u h => (Dk.avo_set h ao1.out o u).wide (Nat.le_refl _) (by simp)
      have hDo2 : ∀ (wr : World) (o : Nat) (u : Value), (fun wr => Dk wr 0 wr.heap.size (.agg #[.slice oa ol oc, .slice oa' ol' oc']) (doD ⟨d.now, d.sure⟩ x)) wr → (fun wr => Dk wr 0 wr.heap.size (.agg #[.slice oa ol oc, .slice oa' ol' oc']) (doD ⟨d.now, d.sure⟩ x)) (wr.setCell ⟨g2, o, none⟩ u) := fun wr o u h => (Dk.avo_set h ao2.out o u).wide (Nat.le_refl _) (by simp)
      have HI := Lib.hid (show LoopI w w5.heap.size w.heap.size wo.heap.size wp.heap.size g1 c1 g2 c2 (.slice oa ol oc) (.slice oa' ol' oc') (.slice pa pl pc) (.slice pa' pl' pc') (fun wr => Dk wr 0 wr.heap.size (.agg #[.slice oa ol oc, .slice oa' ol' oc']) (doD ⟨d.now, d.sure⟩ x)) (.agg #[.slice pa pl pc, .slice pa' pl' pc']) (doD ⟨d.now, d.sure⟩ x) (fillTo d.now ⟨1, ⟨#[120]⟩⟩ 0) (fillTo d.sure noSec 0) w9 from ⟨HC, BxA, Bx6, Bx7, O1, O2, Dv, Dp⟩)
      have HDo := Lib.hid (And.intro hDo1 hDo2)
      have HAp := Lib.hid (And.intro ap1 ap2)
      obtain ⟨_, xA_0, xA_1, _⟩ := id BxA
      clear hDo1 hDo2 ap1 ap2 O1 O2 BxX Bx6 Bx7 Dv Dp HC
      go_wp2
      clear x2_0 x2_1 x2_2 x2_3 x2_4 xA_0 xA_1 BxA
      go_loopw [62] (fun i wr => ∃ k : Nat, k ≤ 33 ∧ i = .int .i64 k ∧ LoopI w w5.heap.size w.heap.size wo.heap.size wp.heap.size g1 c1 g2 c2 (.slice oa ol oc) (.slice oa' ol' oc') (.slice pa pl pc) (.slice pa' pl' pc') (fun wr => Dk wr 0 wr.heap.size (.agg #[.slice oa ol oc, .slice oa' ol' oc']) (doD ⟨d.now, d.sure⟩ x)) (.agg #[.slice pa pl pc, .slice pa' pl' pc']) (doD ⟨d.now, d.sure⟩ x) (fillTo d.now ⟨1, ⟨#[120]⟩⟩ k) (fillTo d.sure noSec k) wr) (fun i _ => 33 - (intOf i).toNat)
      case atStart => exact ⟨0, Nat.zero_le _, rfl, HI.out⟩
      case round =>
        obtain ⟨k, hkk, rfl, LIk⟩ := hrel
        clear HI
        by_cases hlt : k < 33
        · have t1 : (fillTo d.now ⟨1, ⟨#[120]⟩⟩ k).length = 33 := by rw [fillTo_len]; exact HL.out.1
          have t2 : (fillTo d.sure noSec k).length = 33 := by rw [fillTo_len]; exact HL.out.2
          obtain ⟨wq, eq1, L1⟩ := LIk.put1 lw1 nA1 n16 n17 ng12 HDo.out.1 HAp.out.1 (k := k) (by omega) ⟨1, ⟨#[120]⟩⟩
          obtain ⟨wz, eq2, L2⟩ := L1.put2 lw2 nA2 n26 n27 ng12 HDo.out.2 HAp.out.2 (k := k) (by omega) noSec
          obtain ⟨c1a, c1b, f1a, f1b⟩ := OwnR.at LIk.2.2.2.2.1 (k := k) (by omega) t1
          obtain ⟨c2a, c2b, f2a, f2b⟩ := OwnR.at L1.2.2.2.2.2.1 (k := k) (by omega) t2
          obtain ⟨_, bA_0, bA_1, _⟩ := LIk.2.1
          obtain ⟨_, dA_0, dA_1, _⟩ := L1.2.1
          have HZ := Lib.hid (show LoopI w w5.heap.size w.heap.size wo.heap.size wp.heap.size g1 c1 g2 c2 (.slice oa ol oc) (.slice oa' ol' oc') (.slice pa pl pc) (.slice pa' pl' pc') (fun wr => Dk wr 0 wr.heap.size (.agg #[.slice oa ol oc, .slice oa' ol' oc']) (doD ⟨d.now, d.sure⟩ x)) (.agg #[.slice pa pl pc, .slice pa' pl' pc']) (doD ⟨d.now, d.sure⟩ x) (fillTo d.now ⟨1, ⟨#[120]⟩⟩ (k + 1)) (fillTo d.sure noSec (k + 1)) wz from L2)
          generalize (fillTo d.now ⟨1, ⟨#[120]⟩⟩ k)[k] = sa at *
          generalize (fillTo d.sure noSec k)[k] = sb at *
          have hki : (k : Int) < 33 := by omega
          have hk0 : (0 : Int) ≤ k := by omega
          simp only [noSec] at eq2
          clear L1 L2 LIk t1 t2
          go_wp2
          go_roundw
          case rel => exact ⟨k + 1, by omega, by go_num, HZ.out⟩
          case measure => simp [intOf]; omega
        · obtain rfl : k = 33 := by omega
          obtain ⟨HC, BxA, Bx6, Bx7, O1, O2, Do, Dp⟩ := LIk
          obtain ⟨_, y6_0, y6_1, _⟩ := id Bx6
          obtain ⟨_, y7_0, y7_1, _⟩ := id Bx7
          have nn := rsame_walk 0 wr.heap.size _ _ 0 wr.heap.size _ _ wr Do (Nat.le_refl _) Dp (Nat.le_refl _)
          rw [show sameD (doD ⟨d.now, d.sure⟩ x) (doD ⟨d.now, d.sure⟩ x) = true from sameD_iff.2 rfl] at nn
          go_wp2_with fail
          refine nn.mono ?_
          rintro e wq ⟨rfl, hbq⟩
          have n2 := wakes_own wq
          go_wp2_with fail
          refine n2.mono ?_
          rintro e wt ⟨rfl, hbt⟩
          go_wp2
          go_ret
          exact ⟨rfl, (HC.trans (hbq.mono HC.size)).trans (hbt.mono (HC.trans (hbq.mono HC.size)).size)⟩
end Go.Proofs.Ytjahhheipeggeaa
