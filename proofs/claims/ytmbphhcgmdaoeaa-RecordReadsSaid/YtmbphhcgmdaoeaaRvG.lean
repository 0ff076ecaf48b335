/- What is proved: record's writer puts numbers behind what it has: put, wide, narrow. -/
import Derived.Test.YtmbphhcgmdaoeaaRvF
import Derived.Test.YtmbphhcgmdaoeaaRvY
import Derived.Test.YtmbphhcgmdaoeaaRcG
import Derived.Maps.AppendAt
namespace Go.Proofs.Ytmbphhcgmdaoeaa
open Go.RowKit

section
variable {P : Program}
theorem wpList_append_base (w : World) {ops : Array Oper} {rest : List Oper} {o : Oper} {a : Act} {Q : Exit → Act → World → Prop} (hgd : o.guard = none) (s x : Operand) (t : TypeId)
    (ho : o.op = .call { callee := .builtin .append, args := #[s, x], argTypes := #[t, t] })
    (base : Nat) {e : TypeId} (i : TypeInfo) (z : Value) (size bytes : Nat) (ht : P.underlying t = some (.slice e)) (hi : P.info? e = some i) (hz : i.zero = some z)
    (hsize : i.size = size) (hby : i.bytes = bytes) (hzs : z.cells.size = size) (hsz : 0 < size) {v : Value} {n : Nat} {xs : List Value} (hs : a.eval s = v) (hown : w.ownsRow base e size v n xs)
    {ad : Addr} {m c : Nat} {news : List Value} (hx : a.eval x = .slice (some ad) m c) (hl : news.length = m * size) (hnews : ∀ j u, news[j]? = some u → w.cell? (ad.add j) = some u) (h1 : ∀ u ∈ news, u.oneCell' = true)
    (h63 : n + m ≤ maxLen) (hbytes : (n + m) * bytes ≤ 140737488355328) (hbase : base ≤ w.heap.size)
    (hK : ∀ v' w', w'.ownsRow base e size v' (n + m) (xs ++ news) → w.grownBy w' v.ownBlock → (v'.ownBlock = v.ownBlock ∨ v'.ownBlock = some w.heap.size) → wpList P ops Q rest (a.put o.dst v') w') : wpList P ops Q (o :: rest) a w := by
  refine wpList_plain hgd fun K hK' => ?_
  obtain ⟨v', w', hrun, r1, r2, _, r3⟩ := run_append_own_at (P := P) w base t o.type e i z size bytes ht hi hz hsize hby hzs hsz v n xs hown ad m c news hl hnews h1 h63 hbytes hbase
  unfold Oper.wp
  simp [execOp, ho, resolve, invoke, builtin, hs, hx, hrun, Result.andThen]
  exact hK' _ _ (hK v' w' r1 r2 r3)
end
/-- The writer in block Q: it has the bytes xs, in a row of its own behind Q. -/
def Wtr (w : World) (Q : Nat) (v : Value) (xs : List Int) : Prop := Blk w Q #[v] ∧ w.ownsRow (Q + 1) 5 1 v xs.length (u8s xs)
def i64s (ns : List Int) : List Value := ns.map (.int .i64)
theorem Blk.same {w w' : World} {g : Nat} {cs : Array Value} (h : Blk w g cs) (hb : w'.heap[g]? = w.heap[g]?) : Blk w' g cs := h.imp fun _ h => hb.trans h
/-- The writer's row lies where it lay, or in a newer block. -/
def Sits (w : World) (v v' : Value) : Prop := v'.ownBlock = v.ownBlock ∨ ∃ b, v'.ownBlock = some b ∧ w.heap.size ≤ b
/-- What a call of the writer leaves alone: every older block but the writer's own and its row's. -/
def Keep (w w' : World) (Q : Nat) (v : Value) : Prop := ∀ k, k < w.heap.size → k ≠ Q → v.ownBlock ≠ some k → w'.heap[k]? = w.heap[k]?
theorem sits_new {w w1 : World} {v v' : Value} (hs : w.heap.size ≤ w1.heap.size) (h : Sits w1 v v') : Sits w v v' := h.imp id fun ⟨b, e, hb⟩ => ⟨b, e, by omega⟩
theorem sits_ne {w : World} {v v' : Value} (h : Sits w v v') {k : Nat} (h1 : v.ownBlock ≠ some k) (h2 : k < w.heap.size) : v'.ownBlock ≠ some k := by
  rintro e
  rcases h with h | ⟨b, h, hb⟩
  · exact h1 (h.symm.trans e)
  · rw [h] at e; cases e; omega
theorem below_row {w w2 : World} {B : Nat} {r : Option Nat} (hg : w.grownBy w2 r) (h : ∀ k, r = some k → B ≤ k) (hB : B ≤ w.heap.size) : Below B w w2 :=
  (Below.refl B w).grown hg hB h
theorem below_set {B : Nat} {w w2 : World} (h : Below B w w2) {p : Addr} (hp : B ≤ p.block) (v : Value) : Below B w (w2.setCell p v) := h.setCell hp v
theorem flat_le_len (m : Nat) (ns : List Int) : (ns.flatMap (le · m)).length = ns.length * m := flatMap_len (le · m) m (fun n => le_length n m) ns
theorem own_set {w : World} {base : Nat} {e : TypeId} {v : Value} {n : Nat} {xs : List Value} (h : w.ownsRow base e 1 v n xs) {p : Addr} (hp : p.block < base) (u : Value) : (w.setCell p u).ownsRow base e 1 v n xs := by
  refine ⟨h.1, h.2.imp id ?_⟩
  rintro ⟨g, c, cur, rfl, h1, hg, h2⟩
  exact ⟨g, c, cur, rfl, h1, (Below.heap_setCell w p u g (by omega)).trans hg, h2⟩
set_option maxRecDepth 100000 in
set_option maxHeartbeats 6400000 in
theorem put_walk (w : World) (Q g : Nat) (v : Value) (xs ns : List Int) (m : Nat) (hW : Wtr w Q v xs) (hlt : ∀ k, v.ownBlock = some k → k ≠ g) (hG : Blk w g (i64s ns).toArray) (hQg : Q < g) (hns : ns.length ≤ 10) (hm : 1 ≤ m) (hf : ∀ n ∈ ns, fitsB n m = true) (hx : xs.length ≤ 100000) :
    Calls Try.prog 60 #[.pointer (some ⟨Q, 0, none⟩), .int .i64 m, .slice (some ⟨g, 0, none⟩) ns.length ns.length] w fun e w' =>
      e = .returned (.tuple #[]) ∧ (∃ v', Wtr w' Q v' (xs ++ ns.flatMap (le · m)) ∧ Sits w v v') ∧ Below Q w w' ∧ Keep w w' Q v := by
  obtain ⟨i0, hi, hz0, hz1, hz2⟩ := info_parts info_u8
  obtain ⟨hB, hO⟩ := hW
  have hgl := hG.lt
  have HF := Lib.hid hf
  clear hf
  go_enter Try.func60, Try.ntmps60
  go_wp2
  go_loopw [12] (fun i wr => ∃ k : Nat, k ≤ ns.length ∧ i = .int .i64 k ∧ ∃ v', Blk wr Q #[v'] ∧ wr.ownsRow (Q + 1) 5 1 v' (xs.length + k * m) (u8s (xs ++ (ns.take k).flatMap (le · m))) ∧ (v'.ownBlock = v.ownBlock ∨ ∃ b, v'.ownBlock = some b ∧ w.heap.size ≤ b) ∧ Keep w wr Q v ∧ Below Q w wr) (fun i _ => ns.length - (intOf i).toNat)
  case atStart => exact ⟨0, Nat.zero_le _, rfl, v, hB, by simpa using hO, .inl rfl, fun _ _ _ _ => rfl, Below.refl _ _⟩
  case round =>
    obtain ⟨k, hk, rfl, v', hBr, hOr, hat, hke, hbr⟩ := hrel
    have hGr : Blk wr g (i64s ns).toArray := hG.same (hke g hgl (by omega) (fun e => hlt g e rfl))
    by_cases hki : k < ns.length
    · obtain ⟨n, hn⟩ : ∃ n, ns[k]? = some n := ⟨_, List.getElem?_eq_getElem hki⟩
      have c0 : wr.cell? ⟨g, k, none⟩ = some (.int .i64 n) := by rw [hGr.cell]; simp [i64s, hn]
      have n1 := put_nil n m wr (HF.out n (List.mem_of_getElem? hn))
      have hki' : (k : Int) < (ns.length : Int) := by omega
      have hk0 : (0 : Int) ≤ k := by omega
      have HT := Lib.hid (show (ns.take (k + 1)).flatMap (le · m) = (ns.take k).flatMap (le · m) ++ le n m by
        rw [List.take_add_one, hn, List.flatMap_append]; simp)
      have hm6 := (fits_yes (HF.out n (List.mem_of_getElem? hn))).2.1
      have hOr' := Lib.hid hOr
      clear hn hOr hO hB
      go_wp2_with fail
      refine n1.mono ?_
      rintro e w1 ⟨ab, cb, rfl, rb, hc1, hc2, b1⟩
      have hB1 := hBr.far b1 hBr.lt
      have hO1 := own_below hOr'.out b1
      obtain ⟨gb, ob, rfl, hgb, hcb⟩ : ∃ gb ob, ab = some ⟨gb, ob, none⟩ ∧ gb < w1.heap.size ∧ ∀ j u, (u8s (le n m))[j]? = some u → w1.cell? ⟨gb, ob + j, none⟩ = some u := by
        rcases rb.2 with h0 | ⟨gb, ob, e, h1, h2⟩
        · omega
        · exact ⟨gb, ob, e, h1, h2⟩
      have q0 : w1.cell? ⟨Q, 0, none⟩ = some v' := hB1.cell 0
      clear n1 c0
      go_wp2_with (at_builtin; refine wpList_append_base _ rfl (.tmp 26) (.tmp 27) _ rfl (Q + 1) i0 (.int .u8 0) 1 1 Try.underlying34 hi hz0 hz1 hz2 rfl (by decide) rfl hO1 rfl (by rw [u8s_length, le_length, Nat.mul_one]) (fun j u hu => by rw [Addr.add_lit]; exact hcb j u hu) (u8s_one (le n m)) (by unfold maxLen; have : k * m ≤ 10 * 6 := Nat.mul_le_mul (by omega) (by omega); omega) (by have : k * m ≤ 10 * 6 := Nat.mul_le_mul (by omega) (by omega); omega) (hB1.lt) ?_; intro v2 w2 o2 g2 at2; obtain ⟨g3, c3, rfl, _, _⟩ := own_at o2 (by omega); have f2 : Blk w2 Q #[v'] := hB1.same (g2.block Q hB1.lt (fun e => by have := hO1.lt Q e.symm; omega)); have q2 : w2.frozen? ⟨Q, 0, none⟩ = false := f2.free 0; have q3 : w2.cell? ⟨Q, 0, none⟩ = some v' := f2.cell 0)
      have bb : Below Q w w2 := (hbr.trans (b1.mono (Nat.le_of_lt hBr.lt))).trans (below_row g2 (fun k hk => by have := hO1.lt k hk; omega) (Nat.le_of_lt hB1.lt))
      rw [← u8s_append, List.append_assoc, ← HT.out] at o2
      have hs2 : xs.length + k * m + m = xs.length + (k + 1) * m := by rw [Nat.add_mul, Nat.one_mul, Nat.add_assoc]
      have hrs := hbr.size
      have h1s := b1.size
      have hat2 : (Value.slice (some ⟨g3, 0, none⟩) (xs.length + k * m + m) c3).ownBlock = v.ownBlock ∨ ∃ b, (Value.slice (some ⟨g3, 0, none⟩) (xs.length + k * m + m) c3).ownBlock = some b ∧ w.heap.size ≤ b := by
        rcases at2 with e | e
        · rw [e]; exact hat
        · exact .inr ⟨_, e, by omega⟩
      have hke2 : Keep w (w2.setCell ⟨Q, 0, none⟩ (.slice (some ⟨g3, 0, none⟩) (xs.length + k * m + m) c3)) Q v := by
        intro j hj hjQ hjv
        refine (Below.heap_setCell w2 ⟨Q, 0, none⟩ _ j (fun e => hjQ e)).trans ((g2.block j (by omega) (fun e => ?_)).trans ((b1.block j (by omega)).trans (hke j hj hjQ hjv)))
        rcases hat with e' | ⟨b, e', hb⟩
        · have e1 : some j = v'.ownBlock := e
          exact hjv (e'.symm.trans e1.symm)
        · have e1 : some j = v'.ownBlock := e
          have e2 : some b = some j := e'.symm.trans e1.symm
          cases e2
          omega
      have f3 : Blk (w2.setCell ⟨Q, 0, none⟩ (.slice (some ⟨g3, 0, none⟩) (xs.length + k * m + m) c3)) Q #[.slice (some ⟨g3, 0, none⟩) (xs.length + k * m + m) c3] := f2.set 0 _
      have o3 := own_set o2 (p := ⟨Q, 0, none⟩) (show Q < Q + 1 by omega) (.slice (some ⟨g3, 0, none⟩) (xs.length + k * m + m) c3)
      have b3 := below_set bb (p := ⟨Q, 0, none⟩) (Nat.le_refl Q) (.slice (some ⟨g3, 0, none⟩) (xs.length + k * m + m) c3)
      clear bb o2 hO1 hB1 b1 g2 f2 at2 hat hke hGr q2 q3 q0 hcb rb
      go_wp2
      go_roundw
      case rel => exact ⟨k + 1, by omega, by go_num, _, f3, by rw [← hs2]; exact o3, hat2, hke2, b3⟩
      case measure => simp [intOf]; omega
    · obtain rfl : k = ns.length := by omega
      rw [List.take_length] at hOr
      have hl : xs.length + ns.length * m = (xs ++ ns.flatMap (le · m)).length := by rw [List.length_append, flat_le_len]
      rw [hl] at hOr
      go_wp2
      go_end0
      exact ⟨rfl, ⟨v', ⟨hBr, hOr⟩, hat⟩, hbr, hke⟩
set_option maxHeartbeats 1600000 in
theorem wide_new (w : World) (Q : Nat) (v : Value) (xs ns : List Int) (hW : Wtr w Q v xs) (hns : ns.length ≤ 10) (hf : ∀ n ∈ ns, fitsB n 3 = true) (hx : xs.length ≤ 100000) :
    Calls Try.prog 31 #[.pointer (some ⟨Q, 0, none⟩), .slice (some ⟨w.heap.size, 0, none⟩) ns.length ns.length] (w.alloc (.cells (i64s ns).toArray 3)) fun e w' =>
      e = .returned (.tuple #[]) ∧ (∃ v', Wtr w' Q v' (xs ++ ns.flatMap (le · 3)) ∧ Sits w v v') ∧ Below Q w w' ∧ Keep w w' Q v := by
  obtain ⟨W1, E1, B1, X1, S1⟩ := Blk.new w 3 (i64s ns).toArray
  rw [E1]
  have hQ := hW.1.lt
  have n1 := put_walk W1 Q w.heap.size v xs ns 3 ⟨hW.1.far B1 hQ, own_below hW.2 B1⟩ (fun k hk => by have := hW.2.lt k hk; omega) X1 hQ hns (by decide) hf hx
  go_enter Try.func31, Try.ntmps31
  go_wp2_with fail
  refine n1.mono ?_
  rintro e w2 ⟨rfl, ⟨v2, q, st⟩, b2, kp⟩
  go_wp2
  go_end0
  exact ⟨rfl, ⟨v2, q, sits_new (by omega) st⟩, (B1.mono (Nat.le_of_lt hQ)).trans b2, fun k hk h1 h2 => (kp k (by omega) h1 h2).trans (B1.block k hk)⟩
set_option maxHeartbeats 1600000 in
theorem narrow_new (w : World) (Q : Nat) (v : Value) (xs ns : List Int) (hW : Wtr w Q v xs) (hns : ns.length ≤ 10) (hf : ∀ n ∈ ns, fitsB n 1 = true) (hx : xs.length ≤ 100000) :
    Calls Try.prog 32 #[.pointer (some ⟨Q, 0, none⟩), .slice (some ⟨w.heap.size, 0, none⟩) ns.length ns.length] (w.alloc (.cells (i64s ns).toArray 3)) fun e w' =>
      e = .returned (.tuple #[]) ∧ (∃ v', Wtr w' Q v' (xs ++ ns.flatMap (le · 1)) ∧ Sits w v v') ∧ Below Q w w' ∧ Keep w w' Q v := by
  obtain ⟨W1, E1, B1, X1, S1⟩ := Blk.new w 3 (i64s ns).toArray
  rw [E1]
  have hQ := hW.1.lt
  have n1 := put_walk W1 Q w.heap.size v xs ns 1 ⟨hW.1.far B1 hQ, own_below hW.2 B1⟩ (fun k hk => by have := hW.2.lt k hk; omega) X1 hQ hns (by decide) hf hx
  go_enter Try.func32, Try.ntmps32
  go_wp2_with fail
  refine n1.mono ?_
  rintro e w2 ⟨rfl, ⟨v2, q, st⟩, b2, kp⟩
  go_wp2
  go_end0
  exact ⟨rfl, ⟨v2, q, sits_new (by omega) st⟩, (B1.mono (Nat.le_of_lt hQ)).trans b2, fun k hk h1 h2 => (kp k (by omega) h1 h2).trans (B1.block k hk)⟩
theorem wide1 (w : World) (Q : Nat) (v : Value) (xs : List Int) (n : Int) (hW : Wtr w Q v xs) (h0 : 0 ≤ n) (h1 : n < 16777216) (hx : xs.length ≤ 100000) :
    Calls Try.prog 31 #[.pointer (some ⟨Q, 0, none⟩), .slice (some ⟨w.heap.size, 0, none⟩) 1 1] (w.alloc (.cells #[.int .i64 n] 3)) fun e w' =>
      e = .returned (.tuple #[]) ∧ (∃ v', Wtr w' Q v' (xs ++ le n 3) ∧ Sits w v v') ∧ Below Q w w' ∧ Keep w w' Q v := by
  have := wide_new w Q v xs [n] hW (by simp) (by intro x hx; simp at hx; subst hx; exact decide_eq_true ⟨by decide, by decide, h0, by simpa using h1⟩) hx
  simpa [i64s] using this
theorem narrow1 (w : World) (Q : Nat) (v : Value) (xs : List Int) (n : Int) (hW : Wtr w Q v xs) (h0 : 0 ≤ n) (h1 : n < 256) (hx : xs.length ≤ 100000) :
    Calls Try.prog 32 #[.pointer (some ⟨Q, 0, none⟩), .slice (some ⟨w.heap.size, 0, none⟩) 1 1] (w.alloc (.cells #[.int .i64 n] 3)) fun e w' =>
      e = .returned (.tuple #[]) ∧ (∃ v', Wtr w' Q v' (xs ++ le n 1) ∧ Sits w v v') ∧ Below Q w w' ∧ Keep w w' Q v := by
  have := narrow_new w Q v xs [n] hW (by simp) (by intro x hx; simp at hx; subst hx; exact decide_eq_true ⟨by decide, by decide, h0, by simpa using h1⟩) hx
  simpa [i64s] using this
theorem narrow2 (w : World) (Q : Nat) (v : Value) (xs : List Int) (n k : Int) (hW : Wtr w Q v xs) (h0 : 0 ≤ n) (h1 : n < 256) (h2 : 0 ≤ k) (h3 : k < 256) (hx : xs.length ≤ 100000) :
    Calls Try.prog 32 #[.pointer (some ⟨Q, 0, none⟩), .slice (some ⟨w.heap.size, 0, none⟩) 2 2] (w.alloc (.cells #[.int .i64 n, .int .i64 k] 3)) fun e w' =>
      e = .returned (.tuple #[]) ∧ (∃ v', Wtr w' Q v' (xs ++ (le n 1 ++ le k 1)) ∧ Sits w v v') ∧ Below Q w w' ∧ Keep w w' Q v := by
  have := narrow_new w Q v xs [n, k] hW (by simp) (by intro x hx; simp at hx; rcases hx with rfl | rfl <;> exact decide_eq_true ⟨by decide, by decide, by assumption, by simpa⟩) hx
  simpa [i64s] using this
set_option maxHeartbeats 1600000 in
theorem narrow2d (w : World) (Q : Nat) (v : Value) (xs : List Int) (n k : Int) (hW : Wtr w Q v xs) (h0 : 0 ≤ n) (h1 : n < 256) (h2 : 0 ≤ k) (h3 : k < 256) (hx : xs.length ≤ 100000) :
    Calls Try.prog 32 #[.pointer (some ⟨Q, 0, none⟩), .slice (some ⟨w.heap.size, 0, none⟩) 2 2] (w.alloc (.cells #[.int .i64 n, .int .i64 k] 3)).drew fun e w' =>
      e = .returned (.tuple #[]) ∧ (∃ v', Wtr w' Q v' (xs ++ (le n 1 ++ le k 1)) ∧ Sits w v v') ∧ Below Q w w' ∧ Keep w w' Q v := by
  obtain ⟨W1, E1, B1, X1, S1⟩ := Blk.new w 3 (i64s [n, k]).toArray
  have E1' : w.alloc (.cells #[.int .i64 n, .int .i64 k] 3) = W1 := E1
  rw [E1']
  have hQ := hW.1.lt
  have n1 := put_walk W1.drew Q w.heap.size v xs [n, k] 1 ⟨hW.1.far B1.drew hQ, own_below hW.2 B1.drew⟩ (fun k hk => by have := hW.2.lt k hk; omega) (blk_drew X1) hQ (by simp) (by decide) (by intro x hx; simp at hx; rcases hx with rfl | rfl <;> exact decide_eq_true ⟨by decide, by decide, by assumption, by simpa⟩) hx
  have hfl : [n, k].flatMap (le · 1) = le n 1 ++ le k 1 := by simp
  rw [hfl] at n1
  go_enter Try.func32, Try.ntmps32
  go_wp2_with fail
  refine n1.mono ?_
  rintro e w2 ⟨rfl, ⟨v2, q, st⟩, b2, kp⟩
  go_wp2
  go_end0
  exact ⟨rfl, ⟨v2, q, sits_new (by show w.heap.size ≤ W1.heap.size; omega) st⟩, (B1.drew.mono (Nat.le_of_lt hQ)).trans b2, fun k hk h1 h2 => (kp k (by show k < W1.heap.size; omega) h1 h2).trans (B1.drew.block k hk)⟩
theorem Wtr.out {w : World} {Q lo : Nat} {v : Value} {xs : List Int} (h : Wtr w Q v xs) (hl : lo ≤ Q) : Bt w lo w.heap.size v xs := by
  obtain ⟨a, c, e, h1, h2, h3⟩ := Rg.own h.2
  exact ⟨a, c, e, h1, h2, h3.wide (by omega) (Nat.le_refl _)⟩
theorem Wtr.cell {w : World} {Q : Nat} {v : Value} {xs : List Int} (h : Wtr w Q v xs) : w.cell? ⟨Q, 0, none⟩ = some v := h.1.cell 0
theorem Wtr.new (w : World) (e : TypeId) : ∃ W1, w.alloc (.cells #[.slice none 0 0] e) = W1 ∧ Below w.heap.size w W1 ∧ Wtr W1 w.heap.size (.slice none 0 0) [] := by
  obtain ⟨W1, E1, B1, X1, S1⟩ := Blk.new w e #[.slice none 0 0]
  exact ⟨W1, E1, B1, X1, World.ownsRow_nil _ _ _ 1⟩
theorem Wtr.far {w w' : World} {Q : Nat} {v : Value} {xs : List Int} (h : Wtr w Q v xs) (hb : Below w.heap.size w w') : Wtr w' Q v xs := ⟨h.1.far hb h.1.lt, own_below h.2 hb⟩
end Go.Proofs.Ytmbphhcgmdaoeaa
