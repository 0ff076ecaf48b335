/- What is proved: how flumeref05's reader of a state goes on, number by number, and what its end says. Nothing here speaks of the program. What is proved: where flumeref05's ReadState stands between two calls of number. What is proved: where flumeref05's ReadState stands between two parts, and what its end says. -/
import Derived.Test.YtmbphhcgmdaoeaaReO
import Derived.Test.YtmbphhcgmdaoeaaRvX
import Derived.Test.YtmbphhcgmdaoeaaRvV
import Derived.Test.YtmbphhcgmdaoeaaReQ
import Derived.Test.YtmbphhcgmdaoeaaReN
namespace Go.Proofs.Ytmbphhcgmdaoeaa
open Go.RowKit

/-- What a call of number brings: the value z, and where the reader stands then. -/
def Nx (xs : List Int) (m at_ : Nat) (sh : Bool) (z : Int) (at' : Nat) (sh' : Bool) : Prop :=
  at' ≤ xs.length ∧ (0 ≤ z ∧ z < 256 ^ m) ∧ (sh = false → m ≤ (xs.drop at_).length → sh' = false) ∧
    (sh' = false → sh = false ∧ m ≤ (xs.drop at_).length ∧ z = (cutN m (xs.drop at_)).1 ∧ xs.drop at' = (cutN m (xs.drop at_)).2)
theorem nx_yes {xs : List Int} {m at_ : Nat} {sh : Bool} (hx : IsBytes xs) (h : at_ + m ≤ xs.length) : Nx xs m at_ sh (num ((xs.drop at_).take m)) (at_ + m) sh := by
  have hm : m ≤ (xs.drop at_).length := by rw [List.length_drop]; omega
  have hb := cutN_bd (m := m) (isBytes_drop hx at_)
  unfold cutN at hb
  rw [if_pos hm] at hb
  refine ⟨h, hb, fun h _ => h, fun h => ⟨h, hm, ?_, ?_⟩⟩
  · unfold cutN; rw [if_pos hm]
  · unfold cutN; rw [if_pos hm]; simp [List.drop_drop]
theorem nx_no {xs : List Int} {m at_ : Nat} {sh : Bool} (h0 : at_ ≤ xs.length) (h : xs.length < at_ + m) : Nx xs m at_ sh 0 at_ true := by
  refine ⟨h0, ⟨Int.le_refl _, Int.pow_pos (by decide)⟩, fun _ hm => ?_, fun h => by cases h⟩
  rw [List.length_drop] at hm
  omega
/-- The bytes are a state's. -/
def Hs (xs : List Int) : Prop := stands (lenS xs) = true ∧ stE (lenS xs) = xs
def nI (xs : List Int) : Int := (cutN 1 (cutN 3 xs).2).1
def zI (xs : List Int) : List Int := (cutN 1 (cutN 3 xs).2).2
def nL (ys : List Int) : Int := (cutN 1 (cutN 3 ys).2).1
def fL (ys : List Int) : Int := (cutN 3 (cutN 1 (cutN 3 ys).2).2).1
def zL (ys : List Int) : List Int := (cutN 3 (cutN 1 (cutN 3 ys).2).2).2
def PartH (ys : List Int) : Prop := 7 + 5 * (nL ys).toNat ≤ ys.length ∧ ((nL ys).toNat = 0 → fL ys = 0)
theorem partH_of {l : List Ln} {pl c : Int} (h : lnsB l pl c = true) (hp : pl ≤ 1048575) (t : List Int) : PartH (partE l c ++ t) := by
  obtain ⟨h1, _, _, h4⟩ := lnsB_parts h
  have hfo : 0 ≤ firstOff l ∧ firstOff l < 16777216 := by
    match l, h4 with
    | [], _ => exact ⟨Int.le_refl _, by decide⟩
    | x :: l, h4 => have := h4 0 x rfl; exact ⟨by simp only [firstOff]; omega, by simp only [firstOff]; omega⟩
  have e1 := partL_of h hp t
  have e2 : nL (partE l c ++ t) = l.length := by unfold nL; rw [e1]; simp only; rw [cutN_le 1 (l.length : Int) _ (by omega) (by omega)]
  have e3 : fL (partE l c ++ t) = firstOff l := by
    unfold fL; rw [e1]; simp only; rw [cutN_le 1 (l.length : Int) _ (by omega) (by omega)]
    simp only; rw [cutN_le 3 (firstOff l) _ hfo.1 hfo.2]
  refine ⟨?_, fun h0 => ?_⟩
  · rw [e2, List.length_append, partE_len, Int.toNat_natCast]; omega
  · rw [e2, Int.toNat_natCast] at h0
    rw [e3, List.length_eq_zero_iff.1 h0]
    rfl
theorem hs_facts {xs : List Int} (h : Hs xs) : 4 + 5 * (nI xs).toNat ≤ xs.length ∧ PartH (lenI xs).2 ∧ PartH (tl0 xs) ∧ PartH (tl1 xs) ∧ remS xs 3 = [] := by
  obtain ⟨h1, h2⟩ := h
  generalize lenS xs = s at *
  subst h2
  obtain ⟨p1, p2, p3, p4, p5, p6⟩ := stands_parts h1
  have e0 : stE s = le s.place 3 ++ (le (s.items.length : Int) 1 ++ (s.items.flatMap itE ++ (partE s.l0 s.c0 ++ (partE s.l1 s.c1 ++ (partE s.l2 s.c2 ++ []))))) := by simp [stE]
  obtain ⟨e1, e2⟩ := lenI_of h1 (partE s.l0 s.c0 ++ (partE s.l1 s.c1 ++ (partE s.l2 s.c2 ++ [])))
  have i0 := itsB_len p3
  have en : nI (stE s) = s.items.length := by unfold nI; rw [e0, e1]; simp only; rw [cutN_le 1 (s.items.length : Int) _ (by omega) (by omega)]
  have ei : (lenI (stE s)).2 = partE s.l0 s.c0 ++ (partE s.l1 s.c1 ++ (partE s.l2 s.c2 ++ [])) := by rw [e0, e2]
  have e3 : tl0 (stE s) = partE s.l1 s.c1 ++ (partE s.l2 s.c2 ++ []) := by unfold tl0; rw [ei, partL_of p4 p2]; simp only; rw [lenL_of p4 p2]
  have e4 : tl1 (stE s) = partE s.l2 s.c2 ++ [] := by unfold tl1; rw [e3, partL_of p5 p2]; simp only; rw [lenL_of p5 p2]
  refine ⟨?_, ?_, ?_, ?_, ?_⟩
  · rw [en, Int.toNat_natCast, e0]
    have := flatMap_len itE 5 itE_len s.items
    simp only [List.length_append, le_length, this]
    omega
  · rw [ei]; exact partH_of p4 p2 _
  · rw [e3]; exact partH_of p5 p2 _
  · rw [e4]; exact partH_of p6 p2 _
  · rw [remS_3, e4, partL_of p6 p2]; simp only; rw [lenL_of p6 p2]
theorem cut_len {m : Nat} {ys : List Int} (h : m ≤ ys.length) : (cutN m ys).2.length + m = ys.length := by
  unfold cutN; rw [if_pos h]; simp only [List.length_drop]; omega
/-- An item's three numbers. -/
theorem it_three {xs ys : List Int} {k a0 a1 a2 a3 : Nat} {s1 s2 s3 : Bool} {z1 z2 z3 : Int} (hd : xs.drop a0 = ys) (h1 : Nx xs 1 a0 false z1 a1 s1) (h2 : Nx xs 3 a1 s1 z2 a2 s2) (h3 : Nx xs 1 a2 s2 z3 a3 s3) :
    (s3 = false → 5 ≤ ys.length ∧ itStep k ys = (⟨z1, z2, z3⟩, xs.drop a3)) ∧ (5 ≤ ys.length → s3 = false) := by
  obtain ⟨_, _, f1, g1⟩ := h1
  obtain ⟨_, _, f2, g2⟩ := h2
  obtain ⟨_, _, f3, g3⟩ := h3
  subst hd
  constructor
  · intro e3
    obtain ⟨e2, l3, rfl, d3⟩ := g3 e3
    obtain ⟨e1, l2, rfl, d2⟩ := g2 e2
    obtain ⟨_, l1, rfl, d1⟩ := g1 e1
    rw [d2] at l3 d3 ⊢
    rw [d1] at l2 l3 d3 ⊢
    have c1 := cut_len l1
    have c2 := cut_len l2
    exact ⟨by omega, by unfold itStep; rw [d3]⟩
  · intro h5
    have e1 := f1 rfl (by omega)
    obtain ⟨_, l1, _, d1⟩ := g1 e1
    have c1 := cut_len l1
    have e2 := f2 e1 (by rw [d1]; omega)
    obtain ⟨_, l2, _, d2⟩ := g2 e2
    rw [d1] at l2 d2
    have c2 := cut_len l2
    exact f3 e2 (by rw [d2]; omega)
/-- A line's three numbers. -/
theorem ln_three {xs ys : List Int} {f : Int} {k a0 a1 a2 a3 : Nat} {s1 s2 s3 : Bool} {z1 z2 z3 : Int} (hd : xs.drop a0 = ys) (h1 : Nx xs 3 a0 false z1 a1 s1) (h2 : Nx xs 1 a1 s1 z2 a2 s2) (h3 : Nx xs 1 a2 s2 z3 a3 s3) :
    (s3 = false → 5 ≤ ys.length ∧ lnStep f k ys = (⟨f + k, z1, z2 % 16, z2 / 16, z3⟩, xs.drop a3)) ∧ (5 ≤ ys.length → s3 = false) := by
  obtain ⟨_, _, f1, g1⟩ := h1
  obtain ⟨_, _, f2, g2⟩ := h2
  obtain ⟨_, _, f3, g3⟩ := h3
  subst hd
  constructor
  · intro e3
    obtain ⟨e2, l3, rfl, d3⟩ := g3 e3
    obtain ⟨e1, l2, rfl, d2⟩ := g2 e2
    obtain ⟨_, l1, rfl, d1⟩ := g1 e1
    rw [d2] at l3 d3 ⊢
    rw [d1] at l2 l3 d3 ⊢
    have c1 := cut_len l1
    have c2 := cut_len l2
    exact ⟨by omega, by unfold lnStep; rw [d3]⟩
  · intro h5
    have e1 := f1 rfl (by omega)
    obtain ⟨_, l1, _, d1⟩ := g1 e1
    have c1 := cut_len l1
    have e2 := f2 e1 (by rw [d1]; omega)
    obtain ⟨_, l2, _, d2⟩ := g2 e2
    rw [d1] at l2 d2
    have c2 := cut_len l2
    exact f3 e2 (by rw [d2]; omega)
/-- Where the reader stands behind k items (lines) of the bytes zs; G: what is known from ahead. -/
def RowI {α : Type} (H G : Prop) (xs zs : List Int) (step : Nat → List Int → α × List Int) (k at_ : Nat) (sh : Bool) (l : List α) : Prop :=
  at_ ≤ xs.length ∧ l.length = k ∧ (sh = false → G ∧ xs.drop at_ = (rowF step k zs).2 ∧ l = (rowF step k zs).1 ∧ 5 * k + (rowF step k zs).2.length = zs.length) ∧ (H → sh = false)
theorem rowI_zero {α : Type} {H G : Prop} {xs zs : List Int} (step : Nat → List Int → α × List Int) {at_ : Nat} {sh : Bool} (h0 : at_ ≤ xs.length) (hg : sh = false → G ∧ xs.drop at_ = zs) (hh : H → sh = false) : RowI H G xs zs step 0 at_ sh [] :=
  ⟨h0, rfl, fun h => ⟨(hg h).1, (hg h).2, rfl, by simp [rowF]⟩, hh⟩
theorem rowI_next {α : Type} {H G : Prop} {xs zs : List Int} {step : Nat → List Int → α × List Int} {k at_ n : Nat} {l : List α} {x : α} {a3 : Nat} {s3 : Bool} (h : RowI H G xs zs step k at_ false l) (hk : k < n) (hn : H → 5 * n ≤ zs.length)
    (ha : a3 ≤ xs.length) (hs : ∀ ys, xs.drop at_ = ys → (s3 = false → 5 ≤ ys.length ∧ step k ys = (x, xs.drop a3)) ∧ (5 ≤ ys.length → s3 = false)) (hlen : ∀ ys, 5 ≤ ys.length → (step k ys).2.length + 5 = ys.length) : RowI H G xs zs step (k + 1) a3 s3 (l ++ [x]) := by
  obtain ⟨_, h2, h3, h4⟩ := h
  obtain ⟨g, d, e, f⟩ := h3 rfl
  obtain ⟨q1, q2⟩ := hs _ d
  refine ⟨ha, by simp [h2], fun h => ?_, fun hh => q2 (by have := hn hh; omega)⟩
  obtain ⟨l5, es⟩ := q1 h
  have hl := hlen _ l5
  unfold rowF
  rw [es] at hl ⊢
  have hl' : (xs.drop a3).length + 5 = (rowF step k zs).2.length := hl
  have hg : 5 * (k + 1) + (xs.drop a3).length = zs.length := by omega
  exact ⟨g, rfl, by rw [e], hg⟩
theorem itStep_len5 (k : Nat) (ys : List Int) (h : 5 ≤ ys.length) : (itStep k ys).2.length + 5 = ys.length := by
  unfold itStep
  have c1 := cut_len (m := 1) (ys := ys) (by omega)
  have c2 := cut_len (m := 3) (ys := (cutN 1 ys).2) (by omega)
  have c3 := cut_len (m := 1) (ys := (cutN 3 (cutN 1 ys).2).2) (by omega)
  simp only
  omega
theorem lnStep_len5 (f : Int) (k : Nat) (ys : List Int) (h : 5 ≤ ys.length) : (lnStep f k ys).2.length + 5 = ys.length := by
  unfold lnStep
  have c1 := cut_len (m := 3) (ys := ys) (by omega)
  have c2 := cut_len (m := 1) (ys := (cutN 3 ys).2) (by omega)
  have c3 := cut_len (m := 1) (ys := (cutN 1 (cutN 3 ys).2).2) (by omega)
  simp only
  omega
/-- The place and how many items there are. -/
theorem head_two {xs : List Int} {a1 a2 : Nat} {s1 s2 : Bool} {p n : Int} (h1 : Nx xs 3 0 false p a1 s1) (h2 : Nx xs 1 a1 s1 n a2 s2) :
    a2 ≤ xs.length ∧ (s2 = false → (p = (cutN 3 xs).1 ∧ n = nI xs ∧ (zI xs).length + 4 = xs.length) ∧ xs.drop a2 = zI xs) ∧ (Hs xs → s2 = false) := by
  obtain ⟨_, _, f1, g1⟩ := h1
  obtain ⟨q, _, f2, g2⟩ := h2
  rw [List.drop_zero] at f1 g1
  refine ⟨q, fun e2 => ?_, fun hh => ?_⟩
  · obtain ⟨e1, l2, rfl, d2⟩ := g2 e2
    obtain ⟨_, l1, rfl, d1⟩ := g1 e1
    rw [d1] at l2 d2 ⊢
    have c1 := cut_len l1
    have c2 := cut_len l2
    exact ⟨⟨rfl, rfl, by unfold zI; omega⟩, d2⟩
  · have := (hs_facts hh).1
    have e1 := f1 rfl (by omega)
    obtain ⟨_, l1, _, d1⟩ := g1 e1
    have c1 := cut_len l1
    exact f2 e1 (by rw [d1]; omega)
/-- A part's cut, how many lines it has, its first offset. -/
theorem part_three {xs ys : List Int} {G : Prop} {a0 a1 a2 a3 : Nat} {s0 s1 s2 s3 : Bool} {d n f : Int} (h0 : s0 = false → G ∧ xs.drop a0 = ys) (hh : Hs xs → s0 = false) (hp : Hs xs → PartH ys)
    (h1 : Nx xs 3 a0 s0 d a1 s1) (h2 : Nx xs 1 a1 s1 n a2 s2) (h3 : Nx xs 3 a2 s2 f a3 s3) :
    a3 ≤ xs.length ∧ (s3 = false → (G ∧ d = (cutN 3 ys).1 ∧ n = nL ys ∧ f = fL ys ∧ (zL ys).length + 7 = ys.length) ∧ xs.drop a3 = zL ys) ∧ (Hs xs → s3 = false) := by
  obtain ⟨_, _, f1, g1⟩ := h1
  obtain ⟨_, _, f2, g2⟩ := h2
  obtain ⟨q, _, f3, g3⟩ := h3
  refine ⟨q, fun e3 => ?_, fun H => ?_⟩
  · obtain ⟨e2, l3, rfl, d3⟩ := g3 e3
    obtain ⟨e1, l2, rfl, d2⟩ := g2 e2
    obtain ⟨e0, l1, rfl, d1⟩ := g1 e1
    obtain ⟨hG, rfl⟩ := h0 e0
    rw [d2] at l3 d3 ⊢
    rw [d1] at l2 l3 d3 ⊢
    have c1 := cut_len l1
    have c2 := cut_len l2
    have c3 := cut_len l3
    exact ⟨⟨hG, rfl, rfl, rfl, by unfold zL; omega⟩, d3⟩
  · have e0 := hh H
    obtain ⟨_, rfl⟩ := h0 e0
    have hl := (hp H).1
    have e1 := f1 e0 (by omega)
    obtain ⟨_, l1, _, d1⟩ := g1 e1
    have c1 := cut_len l1
    have e2 := f2 e1 (by rw [d1]; omega)
    obtain ⟨_, l2, _, d2⟩ := g2 e2
    rw [d1] at l2 d2
    have c2 := cut_len l2
    exact f3 e2 (by rw [d2]; omega)
/-- What is known of part q when it has been read. -/
def OkP (ys : List Int) (d : Int) (l : List Ln) : Prop := d = (cutN 3 ys).1 ∧ l = (lenL (cutN 3 ys).2).1 ∧ 3 ≤ ys.length ∧ FitL (cutN 3 ys).2
theorem hs_five {ys xs : List Int} (hp : Hs xs → PartH ys) {n : Int} {s3 : Bool} (hn : Hs xs → s3 = false) (h : s3 = false → n = nL ys ∧ (zL ys).length + 7 = ys.length) : Hs xs → 5 * n.toNat ≤ (zL ys).length := by
  intro H
  obtain ⟨e1, e2⟩ := h (hn H)
  have := (hp H).1
  rw [e1]
  omega
/-- The end of a part. -/
theorem part_end {xs ys : List Int} {G : Prop} {at_ : Nat} {sh : Bool} {l : List Ln} {d n f : Int} {k : Nat} (h : RowI (Hs xs) (G ∧ d = (cutN 3 ys).1 ∧ n = nL ys ∧ f = fL ys ∧ (zL ys).length + 7 = ys.length) xs (zL ys) (lnStep f) k at_ sh l)
    (hk : sh = false → k = n.toNat) (hz : sh = false → n = 0 → f = 0) (hn0 : 0 ≤ n) : (sh = false → (G ∧ OkP ys d l) ∧ xs.drop at_ = (lenL (cutN 3 ys).2).2) ∧ (Hs xs → sh = false) := by
  obtain ⟨_, h2, h3, h4⟩ := h
  refine ⟨fun e => ?_, h4⟩
  obtain ⟨⟨g, q1, q2, q3, q4⟩, q5, q6, q7⟩ := h3 e
  have e1 := hk e
  have hlen : lenL (cutN 3 ys).2 = rowF (lnStep f) k (zL ys) := by
    unfold lenL
    rw [q3, e1, q2]
    rfl
  refine ⟨⟨g, q1, by rw [hlen]; exact q6, by omega, ?_, ?_⟩, by rw [hlen]; exact q5⟩
  · show 4 + 5 * (nL ys).toNat ≤ (cutN 3 ys).2.length
    have c1 := cut_len (m := 3) (ys := ys) (by omega)
    rw [← q2, ← e1]
    omega
  · intro h0
    show fL ys = 0
    rw [← q3]
    refine hz e ?_
    have h0' : (nL ys).toNat = 0 := h0
    rw [← q2] at h0'
    omega
/-- Where there is no line but a first offset, the bytes are no state's. -/
theorem part_bad {xs ys : List Int} {G : Prop} {d n f : Int} {s3 : Bool} (hp : Hs xs → PartH ys) (h : s3 = false → (G ∧ d = (cutN 3 ys).1 ∧ n = nL ys ∧ f = fL ys ∧ (zL ys).length + 7 = ys.length)) (hn : Hs xs → s3 = false) (h0 : n = 0) (hf : f ≠ 0) : ¬ Hs xs := by
  intro H
  obtain ⟨_, _, e1, e2, _⟩ := h (hn H)
  exact hf (by rw [e2]; exact (hp H).2 (by rw [← e1, h0]; rfl))

def z8 : Array Value := #[.int .i64 0, .slice none 0 0, .slice none 0 0, .slice none 0 0, .slice none 0 0, .int .i64 0, .int .i64 0, .int .i64 0]
/-- P: the answer's box; Q: the reader; R: the state. -/
def SX (w0 wr : World) (P Q R : Nat) (a : Option Addr) (n c at_ : Nat) (sh : Bool) (cs : Array Value) : Prop :=
  Blk wr P z8 ∧ Blk wr Q #[.slice a n c, .int .i64 at_, .bool sh] ∧ Blk wr R cs ∧ Below P w0 wr ∧ P < Q ∧ Q < R
theorem SX.lt {w0 wr : World} {P Q R : Nat} {a : Option Addr} {n c at_ : Nat} {sh : Bool} {cs : Array Value} (h : SX w0 wr P Q R a n c at_ sh cs) : P < Q ∧ Q < R ∧ R < wr.heap.size := ⟨h.2.2.2.2.1, h.2.2.2.2.2, h.2.2.1.lt⟩
theorem SX.grow {w0 wr w' : World} {P Q R : Nat} {a : Option Addr} {n c at_ : Nat} {sh : Bool} {cs : Array Value} (h : SX w0 wr P Q R a n c at_ sh cs) {r : Option Nat} (hg : wr.grownBy w' r) (hr : ∀ k, r = some k → R < k) : SX w0 w' P Q R a n c at_ sh cs := by
  obtain ⟨l1, l2, l3⟩ := h.lt
  obtain ⟨h1, h2, h3, h4, h5⟩ := h
  exact ⟨h1.same (hg.block _ (by omega) (fun e => by have := hr _ e.symm; omega)), h2.same (hg.block _ (by omega) (fun e => by have := hr _ e.symm; omega)), h3.same (hg.block _ (by omega) (fun e => by have := hr _ e.symm; omega)), h4.grown hg (by omega) (fun k e => by have := hr _ e; omega), h5⟩
theorem SX.alloc {w0 wr : World} {P Q R : Nat} {a : Option Addr} {n c at_ : Nat} {sh : Bool} {cs : Array Value} (h : SX w0 wr P Q R a n c at_ sh cs) (o : Obj) : SX w0 (wr.alloc o) P Q R a n c at_ sh cs :=
  h.grow (r := none) (grown_below ((Below.refl wr.heap.size wr).alloc (Nat.le_refl _) o) (Nat.le_refl _) none) (fun k e => by cases e)
theorem SX.set {w0 wr : World} {P Q R : Nat} {a : Option Addr} {n c at_ : Nat} {sh : Bool} {cs : Array Value} (h : SX w0 wr P Q R a n c at_ sh cs) (k : Nat) (v : Value) : SX w0 (wr.setCell ⟨R, k, none⟩ v) P Q R a n c at_ sh (cs.setIfInBounds k v) := by
  obtain ⟨l1, l2, l3⟩ := h.lt
  obtain ⟨h1, h2, h3, h4, h5⟩ := h
  exact ⟨h1.same (Below.heap_setCell wr ⟨R, k, none⟩ v P (by show P ≠ R; omega)), h2.same (Below.heap_setCell wr ⟨R, k, none⟩ v Q (by show Q ≠ R; omega)), h3.set k v, h4.setCell (p := ⟨R, k, none⟩) (by show P ≤ R; omega) v, h5⟩
theorem SX.num {w0 wr w' : World} {P Q R : Nat} {a : Option Addr} {n c at_ at' : Nat} {sh sh' : Bool} {cs : Array Value} (h : SX w0 wr P Q R a n c at_ sh cs) (hg : wr.grownBy w' (some Q)) (hb : Blk w' Q #[.slice a n c, .int .i64 at', .bool sh']) : SX w0 w' P Q R a n c at' sh' cs := by
  obtain ⟨l1, l2, l3⟩ := h.lt
  obtain ⟨h1, h2, h3, h4, h5⟩ := h
  exact ⟨h1.turn hg (by omega), hb, h3.turn hg (by omega), h4.grown hg (by omega) (fun k e => by cases e; omega), h5⟩
theorem sx_num (w0 wr : World) (P Q R : Nat) (a : Option Addr) (xs : List Int) (c at_ : Nat) (sh : Bool) (cs : Array Value) (m : Nat) (h : SX w0 wr P Q R a xs.length c at_ sh cs) (hr : Rd w0 P a xs.length (u8s xs)) (hm1 : 1 ≤ m) (hm6 : m ≤ 6) (hx : IsBytes xs) (hl : xs.length ≤ 1000000) (hat : at_ ≤ xs.length) :
    Calls Try.prog 59 #[.pointer (some ⟨Q, 0, none⟩), .int .i64 m] wr fun e w' => ∃ z at' sh', e = .returned (.int .i64 z) ∧ SX w0 w' P Q R a xs.length c at' sh' cs ∧ wr.grownBy w' (some Q) ∧ Nx xs m at_ sh z at' sh' := by
  have hr' : Rd wr P a xs.length (u8s xs) := hr.far h.2.2.2.1
  obtain ⟨l1, l2, l3⟩ := h.lt
  by_cases hin : at_ + m ≤ xs.length
  · refine (rnum_ok wr Q P a c at_ m sh xs h.2.1 hr' (by omega) hm1 hm6 hx hl hin).mono ?_
    rintro e w' ⟨rfl, hb, hg⟩
    exact ⟨_, _, _, rfl, h.num hg hb, hg, nx_yes hx hin⟩
  · refine (rnum_short wr Q a c at_ m sh xs h.2.1 hm1 hm6 hl (by omega)).mono ?_
    rintro e w' ⟨rfl, hb, hg⟩
    exact ⟨_, _, _, rfl, h.num hg hb, hg, nx_no hat (by omega)⟩
/-- The blocks from lo on, below hi, are as they were. -/
def Kp (lo hi : Nat) (w w' : World) : Prop := ∀ g, lo ≤ g → g < hi → w'.heap[g]? = w.heap[g]?
theorem Kp.refl (lo hi : Nat) (w : World) : Kp lo hi w w := fun _ _ _ => rfl
theorem Kp.trans {lo hi : Nat} {w w1 w2 : World} (h : Kp lo hi w w1) (h' : Kp lo hi w1 w2) : Kp lo hi w w2 := fun g h1 h2 => (h' g h1 h2).trans (h g h1 h2)
theorem Kp.grow {lo hi : Nat} {w w1 w2 : World} (h : Kp lo hi w w1) {r : Option Nat} (hg : w1.grownBy w2 r) (hhi : hi ≤ w1.heap.size) (hr : ∀ k, r = some k → k < lo ∨ hi ≤ k) : Kp lo hi w w2 := fun g h1 h2 => (hg.block g (by omega) (fun e => by have := hr g e.symm; omega)).trans (h g h1 h2)
theorem Kp.alloc {lo hi : Nat} {w w1 : World} (h : Kp lo hi w w1) (hhi : hi ≤ w1.heap.size) (o : Obj) : Kp lo hi w (w1.alloc o) := h.grow (r := none) (grown_below ((Below.refl w1.heap.size w1).alloc (Nat.le_refl _) o) (Nat.le_refl _) none) hhi (fun k e => by cases e)
theorem Kp.set {lo hi : Nat} {w w1 : World} (h : Kp lo hi w w1) {p : Addr} (hp : p.block < lo) (v : Value) : Kp lo hi w (w1.setCell p v) := fun g h1 h2 => (Below.heap_setCell w1 p v g (by omega)).trans (h g h1 h2)
theorem Sl.kp {size : Nat} {w w' : World} {lo hi : Nat} {v : Value} {n : Nat} {xs : List Value} (h : Sl size w lo hi v n xs) (hk : Kp lo hi w w') : Sl size w' lo hi v n xs := by
  obtain ⟨a, c, e, h1, h2, h3, h4⟩ := h
  refine ⟨a, c, e, h1, h2, h3, h4.imp id ?_⟩
  rintro ⟨g, o, e, hlo, hhi, hc⟩
  refine ⟨g, o, e, hlo, hhi, fun j u hu => ?_⟩
  have := hc j u hu
  unfold World.cell? at this ⊢
  rw [hk g hlo hhi]
  exact this

theorem not_hs {xs : List Int} (hx : IsBytes xs) (h : ¬ Hs xs) : sinE xs = 50 ∧ sinS xs = noSt := by
  rcases lenS_reads hx with ⟨h1, h2, _, _⟩ | ⟨_, h3, h4⟩
  · exact absurd ⟨h1, h2⟩ h
  · exact ⟨h3, h4⟩
theorem yes_hs {xs : List Int} (hx : IsBytes xs) (h : Hs xs) : sinE xs = 0 ∧ sinS xs = lenS xs := by
  rcases lenS_reads hx with ⟨_, _, h3, h4⟩ | ⟨h1 | h1, _, _⟩
  · exact ⟨h3, h4⟩
  · rw [h.1] at h1; cases h1
  · exact absurd h.2 h1
theorem items_end {xs : List Int} {p : Int} {N k at_ : Nat} {sh : Bool} {its : List It} (h : RowI (Hs xs) (p = (cutN 3 xs).1 ∧ (N : Int) = nI xs ∧ (zI xs).length + 4 = xs.length) xs (zI xs) itStep k at_ sh its) (hk : sh = false → k = N) :
    sh = false → (p = (cutN 3 xs).1 ∧ its = (lenI xs).1 ∧ 4 + 5 * (nI xs).toNat ≤ xs.length) ∧ xs.drop at_ = (lenI xs).2 := by
  intro e
  obtain ⟨⟨q1, q2, q3⟩, q4, q5, q6⟩ := h.2.2.1 e
  have e1 := hk e
  have hlen : lenI xs = rowF itStep k (zI xs) := by
    have : k = (nI xs).toNat := by rw [← q2, Int.toNat_natCast]; exact e1
    rw [this]
    rfl
  refine ⟨⟨q1, by rw [hlen]; exact q5, ?_⟩, by rw [hlen]; exact q4⟩
  rw [← q2, Int.toNat_natCast, ← e1]
  omega
def OkQ (xs : List Int) (p : Int) (its : List It) (q : Int) (d0 d1 d2 : Int) (l0 l1 l2 : List Ln) : Prop :=
  (p = (cutN 3 xs).1 ∧ its = (lenI xs).1 ∧ 4 + 5 * (nI xs).toNat ≤ xs.length) ∧ (1 ≤ q → OkP (lenI xs).2 d0 l0) ∧ (2 ≤ q → OkP (tl0 xs) d1 l1) ∧ (3 ≤ q → OkP (tl1 xs) d2 l2)
theorem okq_1 {xs : List Int} {p : Int} {its : List It} {d0 d1 d2 d : Int} {l0 l1 l2 l : List Ln} (h : OkQ xs p its 0 d0 d1 d2 l0 l1 l2) (hp : OkP (lenI xs).2 d l) : OkQ xs p its 1 d d1 d2 l l1 l2 := ⟨h.1, fun _ => hp, fun e => absurd e (by decide), fun e => absurd e (by decide)⟩
theorem okq_2 {xs : List Int} {p : Int} {its : List It} {d0 d1 d2 d : Int} {l0 l1 l2 l : List Ln} (h : OkQ xs p its 1 d0 d1 d2 l0 l1 l2) (hp : OkP (tl0 xs) d l) : OkQ xs p its 2 d0 d d2 l0 l l2 := ⟨h.1, fun _ => h.2.1 (by decide), fun _ => hp, fun e => absurd e (by decide)⟩
theorem okq_3 {xs : List Int} {p : Int} {its : List It} {d0 d1 d2 d : Int} {l0 l1 l2 l : List Ln} (h : OkQ xs p its 2 d0 d1 d2 l0 l1 l2) (hp : OkP (tl1 xs) d l) : OkQ xs p its 3 d0 d1 d l0 l1 l := ⟨h.1, fun _ => h.2.1 (by decide), fun _ => h.2.2.1 (by decide), fun _ => hp⟩
theorem okq_end {xs : List Int} (hx : IsBytes xs) {p : Int} {its : List It} {d0 d1 d2 : Int} {l0 l1 l2 : List Ln} (h : OkQ xs p its 3 d0 d1 d2 l0 l1 l2) : (⟨p, its, l0, l1, l2, d0, d1, d2⟩ : St) = lenS xs ∧ (remS xs 3 = [] → stE (lenS xs) = xs) := by
  obtain ⟨⟨q1, q2, h4⟩, h1, h2, h3⟩ := h
  obtain ⟨a1, a2, a3, a4⟩ := h1 (by decide)
  obtain ⟨b1, b2, b3, b4⟩ := h2 (by decide)
  obtain ⟨c1, c2, c3, c4⟩ := h3 (by decide)
  refine ⟨by rw [lenS_eq, q1, q2, a1, a2, b1, b2, c1, c2], fun e => ?_⟩
  rw [remS_3] at e
  have h5 : 4 ≤ xs.length := by omega
  exact lenS_back hx h5 h4 a3 a4 b3 b4 c3 c4 e
/-- Where the call stands ahead of part q. -/
def StX (w wr : World) (P Q R : Nat) (a : Option Addr) (c : Nat) (xs : List Int) (p : Int) (v0 : Value) (its : List It) (q : Int) : Prop :=
  ∃ (at_ : Nat) (sh : Bool) (u0 u1 u2 : Value) (d0 d1 d2 : Int) (l0 l1 l2 : List Ln), SX w wr P Q R a xs.length c at_ sh #[.int .i64 p, v0, u0, u1, u2, .int .i64 d0, .int .i64 d1, .int .i64 d2] ∧
    Sl 3 wr (R + 1) wr.heap.size v0 its.length (itC its) ∧ Sl 5 wr (R + 1) wr.heap.size u0 l0.length (lnC l0) ∧ Sl 5 wr (R + 1) wr.heap.size u1 l1.length (lnC l1) ∧ Sl 5 wr (R + 1) wr.heap.size u2 l2.length (lnC l2) ∧
    (q ≤ 0 → u0 = .slice none 0 0) ∧ (q ≤ 1 → u1 = .slice none 0 0) ∧ (q ≤ 2 → u2 = .slice none 0 0) ∧ at_ ≤ xs.length ∧ (sh = false → OkQ xs p its q d0 d1 d2 l0 l1 l2 ∧ xs.drop at_ = remS xs q) ∧ (Hs xs → sh = false)
/-- Where it stands in the lines of a part: cs are the state's cells, B the block from which the part's own lines lie. -/
def LnX (w w8 wr : World) (P Q R B : Nat) (a : Option Addr) (c : Nat) (xs ys : List Int) (G : Prop) (f : Int) (M : Nat) (cs : Value → Array Value) (k at_ : Nat) (sh : Bool) (u : Value) (ls : List Ln) : Prop :=
  k ≤ M ∧ SX w wr P Q R a xs.length c at_ sh (cs u) ∧ wr.ownsRow B 53 5 u k (lnC ls) ∧ Kp (R + 1) B w8 wr ∧ B ≤ wr.heap.size ∧ RowI (Hs xs) G xs (zL ys) (lnStep f) k at_ sh ls
theorem Sl.on {size : Nat} {w8 wr : World} {lo B : Nat} {v : Value} {n : Nat} {xs : List Value} (h : Sl size w8 lo B v n xs) (hk : Kp lo B w8 wr) (hB : B ≤ wr.heap.size) : Sl size wr lo wr.heap.size v n xs := (h.kp hk).wide (Nat.le_refl _) hB
theorem own_sl {wr : World} {lo B k : Nat} {u : Value} {ls : List Ln} (h : wr.ownsRow B 53 5 u k (lnC ls)) (hl : ls.length = k) (hlo : lo ≤ B) : Sl 5 wr lo wr.heap.size u ls.length (lnC ls) := by
  rw [hl]
  exact Sl.wide (Rg.own h) hlo (Nat.le_refl _)
theorem stx_0 {w w8 wr : World} {P Q R B : Nat} {a : Option Addr} {c : Nat} {xs : List Int} {p : Int} {v0 : Value} {its : List It} {f d : Int} {M : Nat} {u1 u2 : Value} {d0 d1 d2 : Int} {l0 l1 l2 : List Ln} {k at_ : Nat} {sh : Bool} {u : Value} {ls : List Ln}
    (h : LnX w w8 wr P Q R B a c xs (lenI xs).2 (OkQ xs p its 0 d0 d1 d2 l0 l1 l2 ∧ d = (cutN 3 (lenI xs).2).1 ∧ (M : Int) = nL (lenI xs).2 ∧ f = fL (lenI xs).2 ∧ (zL (lenI xs).2).length + 7 = (lenI xs).2.length) f M (fun u => #[.int .i64 p, v0, u, u1, u2, .int .i64 d, .int .i64 d1, .int .i64 d2]) k at_ sh u ls)
    (hv : Sl 3 w8 (R + 1) B v0 its.length (itC its)) (hs1 : Sl 5 w8 (R + 1) B u1 l1.length (lnC l1)) (hs2 : Sl 5 w8 (R + 1) B u2 l2.length (lnC l2)) (hn1 : ((1 : Int) ≤ 1 → u1 = .slice none 0 0)) (hn2 : ((1 : Int) ≤ 2 → u2 = .slice none 0 0)) (hB : R + 1 ≤ B) (hkM : sh = false → k = M) (hz : sh = false → (M : Int) = 0 → f = 0) : StX w wr P Q R a c xs p v0 its 1 := by
  obtain ⟨_, sx, ho, hk, hle, hI⟩ := h
  obtain ⟨pe1, pe2⟩ := part_end hI (fun e => by rw [Int.toNat_natCast]; exact hkM e) hz (by omega)
  exact ⟨at_, sh, u, u1, u2, d, d1, d2, ls, l1, l2, sx, hv.on hk hle, own_sl ho hI.2.1 hB, hs1.on hk hle, hs2.on hk hle, fun e => absurd e (by decide), hn1, hn2, hI.1, fun e => ⟨okq_1 (pe1 e).1.1 (pe1 e).1.2, by rw [remS_1, tl0_eq]; exact (pe1 e).2⟩, pe2⟩
theorem stx_1 {w w8 wr : World} {P Q R B : Nat} {a : Option Addr} {c : Nat} {xs : List Int} {p : Int} {v0 : Value} {its : List It} {f d : Int} {M : Nat} {u0 u2 : Value} {d0 d1 d2 : Int} {l0 l1 l2 : List Ln} {k at_ : Nat} {sh : Bool} {u : Value} {ls : List Ln}
    (h : LnX w w8 wr P Q R B a c xs (tl0 xs) (OkQ xs p its 1 d0 d1 d2 l0 l1 l2 ∧ d = (cutN 3 (tl0 xs)).1 ∧ (M : Int) = nL (tl0 xs) ∧ f = fL (tl0 xs) ∧ (zL (tl0 xs)).length + 7 = (tl0 xs).length) f M (fun u => #[.int .i64 p, v0, u0, u, u2, .int .i64 d0, .int .i64 d, .int .i64 d2]) k at_ sh u ls)
    (hv : Sl 3 w8 (R + 1) B v0 its.length (itC its)) (hs0 : Sl 5 w8 (R + 1) B u0 l0.length (lnC l0)) (hs2 : Sl 5 w8 (R + 1) B u2 l2.length (lnC l2)) (hn0 : ((2 : Int) ≤ 0 → u0 = .slice none 0 0)) (hn2 : ((2 : Int) ≤ 2 → u2 = .slice none 0 0)) (hB : R + 1 ≤ B) (hkM : sh = false → k = M) (hz : sh = false → (M : Int) = 0 → f = 0) : StX w wr P Q R a c xs p v0 its 2 := by
  obtain ⟨_, sx, ho, hk, hle, hI⟩ := h
  obtain ⟨pe1, pe2⟩ := part_end hI (fun e => by rw [Int.toNat_natCast]; exact hkM e) hz (by omega)
  exact ⟨at_, sh, u0, u, u2, d0, d, d2, l0, ls, l2, sx, hv.on hk hle, hs0.on hk hle, own_sl ho hI.2.1 hB, hs2.on hk hle, hn0, fun e => absurd e (by decide), hn2, hI.1, fun e => ⟨okq_2 (pe1 e).1.1 (pe1 e).1.2, by rw [remS_2, tl1_eq]; exact (pe1 e).2⟩, pe2⟩
theorem stx_2 {w w8 wr : World} {P Q R B : Nat} {a : Option Addr} {c : Nat} {xs : List Int} {p : Int} {v0 : Value} {its : List It} {f d : Int} {M : Nat} {u0 u1 : Value} {d0 d1 d2 : Int} {l0 l1 l2 : List Ln} {k at_ : Nat} {sh : Bool} {u : Value} {ls : List Ln}
    (h : LnX w w8 wr P Q R B a c xs (tl1 xs) (OkQ xs p its 2 d0 d1 d2 l0 l1 l2 ∧ d = (cutN 3 (tl1 xs)).1 ∧ (M : Int) = nL (tl1 xs) ∧ f = fL (tl1 xs) ∧ (zL (tl1 xs)).length + 7 = (tl1 xs).length) f M (fun u => #[.int .i64 p, v0, u0, u1, u, .int .i64 d0, .int .i64 d1, .int .i64 d]) k at_ sh u ls)
    (hv : Sl 3 w8 (R + 1) B v0 its.length (itC its)) (hs0 : Sl 5 w8 (R + 1) B u0 l0.length (lnC l0)) (hs1 : Sl 5 w8 (R + 1) B u1 l1.length (lnC l1)) (hn0 : ((3 : Int) ≤ 0 → u0 = .slice none 0 0)) (hn1 : ((3 : Int) ≤ 1 → u1 = .slice none 0 0)) (hB : R + 1 ≤ B) (hkM : sh = false → k = M) (hz : sh = false → (M : Int) = 0 → f = 0) : StX w wr P Q R a c xs p v0 its 3 := by
  obtain ⟨_, sx, ho, hk, hle, hI⟩ := h
  obtain ⟨pe1, pe2⟩ := part_end hI (fun e => by rw [Int.toNat_natCast]; exact hkM e) hz (by omega)
  exact ⟨at_, sh, u0, u1, u, d0, d1, d, l0, l1, ls, sx, hv.on hk hle, hs0.on hk hle, hs1.on hk hle, own_sl ho hI.2.1 hB, hn0, hn1, fun e => absurd e (by decide), hI.1, fun e => ⟨okq_3 (pe1 e).1.1 (pe1 e).1.2, by rw [remS_3]; exact (pe1 e).2⟩, pe2⟩
end Go.Proofs.Ytmbphhcgmdaoeaa
