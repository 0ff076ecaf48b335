/- What is proved: the contracts of package pack's Put and Get: what each returns over any slice that can be read as numbers of a byte, and that nothing that was there before the call turns. -/
import Derived.Test.YthkelpnjfggmcaaPackA
import Derived.OwnWalk
import Derived.ArgAppend
import Derived.Maps.AppendAt
namespace Go.Proofs.Ythkelpnjfggmcaa
open Go.RowKit

/-! ### A slice that reads as a list of cells -/
/-- The slice at address a with n elements of one cell each reads as xs, and lies below block B. -/
def Rd (w : World) (B : Nat) (a : Option Addr) (n : Nat) (xs : List Value) : Prop :=
  xs.length = n ∧ (n = 0 ∨ ∃ g o, a = some ⟨g, o, none⟩ ∧ g < B ∧ ∀ j u, xs[j]? = some u → w.cell? ⟨g, o + j, none⟩ = some u)
theorem Rd.far {w w' : World} {B : Nat} {a : Option Addr} {n : Nat} {xs : List Value} (h : Rd w B a n xs) (hb : Below B w w') : Rd w' B a n xs := by
  obtain ⟨h1, h2⟩ := h
  refine ⟨h1, h2.imp id ?_⟩
  rintro ⟨g, o, rfl, hg, hc⟩
  exact ⟨g, o, rfl, hg, fun j u hu => (hb.cell (p := ⟨g, o + j, none⟩) hg).trans (hc j u hu)⟩
theorem Rd.up {w : World} {B B' : Nat} {a : Option Addr} {n : Nat} {xs : List Value} (h : Rd w B a n xs) (hB : B ≤ B') : Rd w B' a n xs := by
  obtain ⟨h1, h2⟩ := h
  refine ⟨h1, h2.imp id ?_⟩
  rintro ⟨g, o, rfl, hg, hc⟩
  exact ⟨g, o, rfl, by omega, hc⟩
theorem Rd.nil (w : World) (B : Nat) (a : Option Addr) : Rd w B a 0 [] := ⟨rfl, .inl rfl⟩
theorem Rd.holds {w : World} {B : Nat} {a : Option Addr} {n : Nat} {xs : List Value} (h : Rd w B a n xs) :
    ∀ b, a = some b → ∀ j u, xs[j]? = some u → w.cell? (b.add j) = some u := by
  obtain ⟨h1, h2 | ⟨g, o, rfl, _, hc⟩⟩ := h
  · subst h2
    intro b _ j u hu
    rw [List.eq_nil_of_length_eq_zero h1] at hu
    simp at hu
  · rintro b ⟨⟩ j u hu
    rw [Addr.add_lit]
    exact hc j u hu
theorem Rd.own {w : World} {base e : Nat} {v : Value} {n : Nat} {xs : List Value} (h : w.ownsRow base e 1 v n xs) : ∃ a c, v = .slice a n c ∧ n ≤ c ∧ c ≤ maxLen ∧ Rd w w.heap.size a n xs := by
  have hl := h.1
  rw [Nat.mul_one] at hl
  rcases h.2 with ⟨rfl, rfl⟩ | ⟨g, cap, cur, rfl, _, hg, hn, hm, _⟩
  · exact ⟨none, 0, rfl, Nat.le_refl _, Nat.zero_le _, hl, .inl rfl⟩
  · refine ⟨_, _, rfl, hn, hm, hl, .inr ⟨g, 0, rfl, (Array.getElem?_eq_some_iff.1 hg).1, fun j u hu => ?_⟩⟩
    have := h.cells (g := g) rfl j u hu
    rwa [Addr.add_lit] at this

theorem own_base {w : World} {base base' : Nat} {e : TypeId} {size : Nat} {v : Value} {n : Nat} {xs : List Value} (h : w.ownsRow base e size v n xs) (hb : base' ≤ base) : w.ownsRow base' e size v n xs := by
  refine ⟨h.1, h.2.imp id ?_⟩
  rintro ⟨g, cap, cur, h1, h2, h3⟩
  exact ⟨g, cap, cur, h1, Nat.le_trans hb h2, h3⟩

/-! ### append onto a slice without spare room, or onto one of the call's own -/
/-- v has n elements that read as xs: a slice of somebody else's, cut at its length, or a row of the call's own. What was there when the call began (in W) is as it was. -/
def Has (W : World) (e : TypeId) (w : World) (v : Value) (n : Nat) (xs : List Value) : Prop :=
  Below W.heap.size W w ∧ ((∃ a, v = .slice a n n ∧ Rd W W.heap.size a n xs) ∨ w.ownsRow W.heap.size e 1 v n xs)
theorem Has.start {W : World} {e : TypeId} {a : Option Addr} {n : Nat} {xs : List Value} (h : Rd W W.heap.size a n xs) : Has W e W (.slice a n n) n xs :=
  ⟨Below.refl _ _, .inl ⟨a, rfl, h⟩⟩
theorem Has.alloc {W : World} {e : TypeId} {w : World} {v : Value} {n : Nat} {xs : List Value} (h : Has W e w v n xs) (o : Obj) : Has W e (w.alloc o) v n xs :=
  ⟨h.1.alloc h.1.size o, h.2.imp id fun h2 => h2.alloc o⟩
theorem Has.drew {W : World} {e : TypeId} {w : World} {v : Value} {n : Nat} {xs : List Value} (h : Has W e w v n xs) : Has W e w.drew v n xs :=
  ⟨h.1.drew, h.2⟩
theorem Has.rd {W : World} {e : TypeId} {w : World} {v : Value} {n : Nat} {xs : List Value} (h : Has W e w v n xs) (hn : n ≤ maxLen) : ∃ a c, v = .slice a n c ∧ n ≤ c ∧ c ≤ maxLen ∧ Rd w w.heap.size a n xs := by
  rcases h.2 with ⟨a, rfl, hr⟩ | ho
  · exact ⟨a, n, rfl, Nat.le_refl _, hn, (hr.far h.1).up h.1.size⟩
  · exact Rd.own ho
section
variable {P : Program}
theorem run_append_has {W : World} {e : TypeId} (t ty : TypeId) (i : TypeInfo) (z : Value) (bytes : Nat) (ht : P.underlying t = some (.slice e)) (hi : P.info? e = some i) (hz : i.zero = some z)
    (hsize : i.size = 1) (hby : i.bytes = bytes) (hzs : z.cells.size = 1) {w : World} {v : Value} {n : Nat} {xs : List Value} (h : Has W e w v n xs)
    (ad : Addr) (m c : Nat) (news : List Value) (hm : 0 < m) (hl : news.length = m) (hnews : ∀ j u, news[j]? = some u → w.cell? (ad.add j) = some u) (h1 : ∀ u ∈ news, u.oneCell' = true)
    (h63 : n + m ≤ maxLen) (hbytes : (n + m) * bytes ≤ 140737488355328) :
    ∃ v' w', (Builtin.append_ #[t, t] ty #[v, .slice (some ad) m c]).run P w = .ok v' w' ∧ Below W.heap.size W w' ∧ w'.ownsRow W.heap.size e 1 v' (n + m) (xs ++ news) := by
  obtain ⟨hbel, h2⟩ := h
  have hWw := hbel.size
  rcases h2 with ⟨a, rfl, hr⟩ | hown
  · have hl1 := hr.1
    have hrw := hr.far hbel
    rcases a with _ | b
    · obtain rfl : n = 0 := by
        rcases hr.2 with h0 | ⟨_, _, h0, _⟩
        · exact h0
        · cases h0
      obtain rfl : xs = [] := List.eq_nil_of_length_eq_zero hl1
      obtain ⟨v', w', hrun, r1, r2, _⟩ := run_append_own (P := P) w W.heap.size t ty e i z 1 bytes ht hi hz hsize hby hzs (by decide) (.slice none 0 0) 0 [] (World.ownsRow_nil w _ e 1) ad m c news (by omega) hnews h1 h63 hbytes hWw
      exact ⟨v', w', hrun, hbel.grown r2 hWw (by simp [Value.ownBlock]), r1⟩
    · obtain ⟨v', w', hrun, r1, r2⟩ := run_append_arg_grows (P := P) w t ty e i z 1 bytes ht hi hz hsize hby hzs (by decide) b n n xs (by omega) (hrw.holds b rfl) ad m c news (by omega) hnews (by omega) h63 hbytes
      exact ⟨v', w', hrun, hbel.grown r2 hWw (by simp), own_base r1 hWw⟩
  · obtain ⟨v', w', hrun, r1, r2, _⟩ := run_append_own (P := P) w W.heap.size t ty e i z 1 bytes ht hi hz hsize hby hzs (by decide) v n xs hown ad m c news (by omega) hnews h1 h63 hbytes hWw
    exact ⟨v', w', hrun, hbel.grown r2 hWw (fun k hk => (hown.lt k hk).1), r1⟩
theorem wpList_append_has (w : World) {ops : Array Oper} {rest : List Oper} {o : Oper} {a : Act} {Q : Exit → Act → World → Prop} (hgd : o.guard = none) (s x : Operand) (t : TypeId)
    (ho : o.op = .call { callee := .builtin .append, args := #[s, x], argTypes := #[t, t] })
    {W : World} {e : TypeId} (i : TypeInfo) (z : Value) (bytes : Nat) (ht : P.underlying t = some (.slice e)) (hi : P.info? e = some i) (hz : i.zero = some z)
    (hsize : i.size = 1) (hby : i.bytes = bytes) (hzs : z.cells.size = 1) {v : Value} {n : Nat} {xs : List Value} (hs : a.eval s = v) (h : Has W e w v n xs)
    (ad : Addr) (m c : Nat) (news : List Value) (hx : a.eval x = .slice (some ad) m c) (hm : 0 < m) (hl : news.length = m) (hnews : ∀ j u, news[j]? = some u → w.cell? (ad.add j) = some u) (h1 : ∀ u ∈ news, u.oneCell' = true)
    (h63 : n + m ≤ maxLen) (hbytes : (n + m) * bytes ≤ 140737488355328)
    (hK : ∀ v' w', Below W.heap.size W w' → w'.ownsRow W.heap.size e 1 v' (n + m) (xs ++ news) → wpList P ops Q rest (a.put o.dst v') w') : wpList P ops Q (o :: rest) a w := by
  refine wpList_plain hgd fun K hK' => ?_
  obtain ⟨v', w', hrun, r1, r2⟩ := run_append_has (P := P) t o.type i z bytes ht hi hz hsize hby hzs h ad m c news hm hl hnews h1 h63 hbytes
  unfold Oper.wp
  simp [execOp, ho, resolve, invoke, builtin, hs, hx, hrun, Result.andThen]
  exact hK' _ _ (hK v' w' r1 r2)
end

/-! ### the numbers' bytes -/
/-- The lowest k bytes of n, the lowest first. -/
def le (n : Int) (k : Nat) : List Int := (List.range k).map fun j => n / 256 ^ j % 256
theorem le_succ (n : Int) (k : Nat) : le n (k + 1) = le n k ++ [n / 256 ^ k % 256] := by
  unfold le
  rw [List.range_succ, List.map_append]
  rfl
theorem le_length (n : Int) (k : Nat) : (le n k).length = k := by simp [le]
def u8s (xs : List Int) : List Value := xs.map (Value.int .u8)
theorem u8s_append (xs ys : List Int) : u8s (xs ++ ys) = u8s xs ++ u8s ys := List.map_append
theorem u8s_length (xs : List Int) : (u8s xs).length = xs.length := List.length_map _
theorem div_step (n : Int) (k : Nat) : n / 256 ^ k / 256 = n / 256 ^ (k + 1) := by
  rw [Int.pow_succ, Int.ediv_ediv_of_nonneg (Int.le_of_lt (Int.pow_pos (by decide)))]

/-- What Put's loop holds behind k rounds: from the first round on the slice is a row of the call's own. -/
def PutR (W : World) (e : TypeId) (w : World) (v : Value) (n k : Nat) (xs : List Value) : Prop := Has W e w v n xs ∧ (0 < k → w.ownsRow W.heap.size e 1 v n xs)

theorem info_u8 : (Try.prog.info? 5).map (fun i => (i.zero, i.size, i.bytes)) = some (some (.int .u8 0), 1, 1) := by kernel_rfl

theorem put_no (a : Option Addr) (l c : Nat) (n m : Int) (w : World) (hf : fitsB n m = false) :
    Calls Try.prog 10 #[.slice a l c, .int .i64 n, .int .i64 m] w fun e w' => e = .returned (.tuple #[.slice none 0 0, .int .i64 2]) ∧ w = w' := by
  go_enter Try.func10, Try.ntmps10
  go_wp2_with (go_at_call 14; refine (fits_any _ _ _).mono ?_; rintro e w' ⟨rfl, rfl⟩)
  go_ret2
  exact ⟨rfl, rfl⟩

set_option maxHeartbeats 400000 in
theorem put_ok (a : Option Addr) (l c : Nat) (xs : List Int) (n : Int) (m : Nat) (w : World) (hf : fitsB n m = true) (hm1 : 1 ≤ m) (hm6 : m ≤ 6) (hn0 : 0 ≤ n) (hr : Rd w w.heap.size a l (u8s xs)) (hlc : l ≤ c) (hl : l ≤ 1000000) :
    Calls Try.prog 10 #[.slice a l c, .int .i64 n, .int .i64 m] w fun e w' =>
      ∃ v, e = .returned (.tuple #[v, .int .i64 0]) ∧ w'.ownsRow w.heap.size 5 1 v (l + m) (u8s (xs ++ le n m)) ∧ Below w.heap.size w w' := by
  obtain ⟨i0, hi, hz0, hz1, hz2⟩ := info_parts info_u8
  go_enter Try.func10, Try.ntmps10
  go_wp2_with (go_at_call 14; refine (fits_any _ _ _).mono ?_; rintro e w' ⟨rfl, rfl⟩)
  go_loopw [1, 8, 20] (fun x v i wr => ∃ k : Nat, k ≤ m ∧ i = .int .i64 k ∧ x = .int .i64 (n / 256 ^ k) ∧ PutR w 5 wr v (l + k) k (u8s (xs ++ le n k))) (fun _ _ i _ => m - (intOf i).toNat)
  case atStart => exact ⟨0, Nat.zero_le _, rfl, by simp, by simpa [le] using Has.start hr, fun h => absurd h (by decide)⟩
  case round =>
    obtain ⟨k, hk, rfl, rfl, hv⟩ := hrel
    have hpos : 0 ≤ n / 256 ^ k := Int.ediv_nonneg hn0 (Int.le_of_lt (Int.pow_pos (by decide)))
    have hs1 := div_step n k
    have hs2 := le_succ n k
    generalize hq : n / 256 ^ k = q at *
    have HS : Hid (q / 256 = n / 256 ^ (k + 1) ∧ le n (k + 1) = le n k ++ [q % 256]) := ⟨hs1, hs2⟩
    clear hq hs1 hs2
    by_cases hlt : k < m
    · go_wp2_with (at_builtin; refine wpList_append_has _ rfl (.tmp 22) (.tmp 25) _ rfl i0 (.int .u8 0) 1 Try.underlying22 hi hz0 hz1 hz2 rfl rfl (hv.1.alloc _) ⟨wr.heap.size, 0, none⟩ 1 1 [.int .u8 (q % 256)] rfl (by decide) rfl ?c1 ?c2 ?c3 ?c4 ?_)
      case c1 => exact cell_one_new _ _ _
      case c2 => intro u hu; simp at hu; subst hu; rfl
      case c3 => unfold maxLen; omega
      case c4 => omega
      intro v' w1 hbel1 hown1
      have hv1 : PutR w 5 w1 v' (l + (k + 1)) (k + 1) (u8s (xs ++ le n (k + 1))) := by
        refine (fun h => ⟨⟨hbel1, .inr h⟩, fun _ => h⟩) ?_
        rw [HS.out.2, ← List.append_assoc, u8s_append]
        exact hown1
      clear hv hbel1 hown1
      go_wp2
      go_roundw
      case rel => exact ⟨k + 1, by omega, by go_num, by rw [← HS.out.1], hv1⟩
      case measure => simp [intOf]; omega
    · obtain rfl : k = m := by omega
      go_wp2
      go_ret2
      exact ⟨_, rfl, hv.2 hm1, hv.1.1⟩
end Go.Proofs.Ythkelpnjfggmcaa
