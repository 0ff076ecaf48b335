/- What is proved: general facts on memory and numbers for walks over bytes: a slice that reads as a list of bytes, append onto it, bytes of numbers, strings of bytes. Nothing here speaks of the program's own functions. -/
import Derived.Test.YtmbphhcgmdaoeaaRows
import Derived.WalkKit
import Derived.WalkSpells
import Derived.WalkLawsBesides
import Derived.Lib.Hide
import Derived.OwnWalk
import Derived.ArgAppend
import Derived.Maps.AppendAt
import Derived.Deep.Draws
namespace Go.Proofs.Ytmbphhcgmdaoeaa
open Go.RowKit

theorem wrap_i64_nat (a : Nat) (h : a < 9223372036854775808) : IntKind.i64.wrap (a : Int) = a := IntWalk.i64_in _ (by omega)
theorem ofInt64_nat (a : Nat) (h : a < 9223372036854775808) : (BitVec.ofInt 64 (a : Int)).toNat = a := by
  rw [BitVec.ofInt_natCast, BitVec.toNat_ofNat]; exact Nat.mod_eq_of_lt (by omega)
theorem i64_and_nat (a b : Nat) (ha : a < 9223372036854775808) (hb : b < 9223372036854775808) : bits .and .i64 (a : Int) (b : Int) = ((a &&& b : Nat) : Int) := by
  have hx : a &&& b < 2 ^ 63 := Nat.and_lt_two_pow _ (by omega)
  show IntKind.i64.wrap ((BitVec.ofInt 64 (a : Int) &&& BitVec.ofInt 64 (b : Int)).toNat : Int) = _
  rw [BitVec.toNat_and, ofInt64_nat a ha, ofInt64_nat b hb]
  exact wrap_i64_nat _ (by omega)
theorem i64_or_nat (a b : Nat) (ha : a < 9223372036854775808) (hb : b < 9223372036854775808) : bits .or .i64 (a : Int) (b : Int) = ((a ||| b : Nat) : Int) := by
  have hx : a ||| b < 2 ^ 63 := Nat.or_lt_two_pow (by omega) (by omega)
  show IntKind.i64.wrap ((BitVec.ofInt 64 (a : Int) ||| BitVec.ofInt 64 (b : Int)).toNat : Int) = _
  rw [BitVec.toNat_or, ofInt64_nat a ha, ofInt64_nat b hb]
  exact wrap_i64_nat _ (by omega)
theorem i64_mask (k : Nat) (a : Int) (hk : k ≤ 62) (h0 : 0 ≤ a) (h1 : a < 9223372036854775808) : bits .and .i64 a (2 ^ k - 1 : Nat) = a % (2 ^ k : Nat) := by
  obtain ⟨n, rfl⟩ := Int.eq_ofNat_of_zero_le h0
  have hp : 2 ^ k ≤ 2 ^ 62 := Nat.pow_le_pow_right (by decide) hk
  rw [i64_and_nat n _ (by omega) (by omega), Nat.and_two_pow_sub_one_eq_mod]
  rfl
theorem i64_join (k : Nat) (a b : Int) (h0 : 0 ≤ a) (h1 : a * (2 ^ k : Nat) < 9223372036854775808) (h2 : 0 ≤ b) (h3 : b < (2 ^ k : Nat)) (h4 : b < 9223372036854775808) : bits .or .i64 (a * (2 ^ k : Nat)) b = a * (2 ^ k : Nat) + b := by
  obtain ⟨n, rfl⟩ := Int.eq_ofNat_of_zero_le h0
  obtain ⟨m, rfl⟩ := Int.eq_ofNat_of_zero_le h2
  have e : ((n : Int) * (2 ^ k : Nat)) = ((n * 2 ^ k : Nat) : Int) := by rw [Int.natCast_mul]
  rw [e] at h1 ⊢
  rw [i64_or_nat _ m (by omega) (by omega), nat_join k (n * 2 ^ k) m (Nat.mul_mod_left _ _) (by omega)]
  omega
theorem ret_bool {a b : Bool} (h : a = b) : Ending.returned (.bool a) = .returned (.bool b) := by rw [h]
theorem ret_int {k : IntKind} {a b : Int} (h : a = b) : Ending.returned (.int k a) = .returned (.int k b) := by rw [h]
theorem ret_ints {k : IntKind} {a b c d : Int} (h : a = b) (h' : c = d) : Ending.returned (.tuple #[.int k a, .int k c]) = .returned (.tuple #[.int k b, .int k d]) := by rw [h, h']
theorem pow8 (m : Nat) : (2 : Int) ^ (8 * m) = 256 ^ m := by rw [Int.pow_mul]; rfl
theorem div_pow_zero (n : Int) (k : Nat) (h : 0 ≤ n) : n / 256 ^ k = 0 ↔ n < 256 ^ k := by
  have hp : (0 : Int) < 256 ^ k := Int.pow_pos (by decide)
  constructor
  · intro h0
    have := Int.lt_mul_ediv_self_add (x := n) hp
    rw [h0] at this
    omega
  · exact fun h1 => Int.ediv_eq_zero_of_lt h h1
/-- The slice at address a with n elements of one cell each reads as xs, and lies below block B. -/
def Rd (w : World) (B : Nat) (a : Option Addr) (n : Nat) (xs : List Value) : Prop :=
  xs.length = n ∧ (n = 0 ∨ ∃ g o, a = some ⟨g, o, none⟩ ∧ g < B ∧ ∀ j u, xs[j]? = some u → w.cell? ⟨g, o + j, none⟩ = some u)
theorem Rd.far {w w' : World} {B : Nat} {a : Option Addr} {n : Nat} {xs : List Value} (h : Rd w B a n xs) (hb : Below B w w') : Rd w' B a n xs := by
  obtain ⟨h1, h2⟩ := h
  refine ⟨h1, h2.imp id ?_⟩
  rintro ⟨g, o, rfl, hg, hc⟩
  exact ⟨g, o, rfl, hg, fun j u hu => (hb.cell (p := ⟨g, o + j, none⟩) hg).trans (hc j u hu)⟩
theorem Rd.up {w : World} {B B' : Nat} {a : Option Addr} {n : Nat} {xs : List Value} (h : Rd w B a n xs) (hB : B ≤ B') : Rd w B' a n xs := by
  obtain ⟨h1, h2⟩ := h
  refine ⟨h1, h2.imp id ?_⟩
  rintro ⟨g, o, rfl, hg, hc⟩
  exact ⟨g, o, rfl, by omega, hc⟩
theorem Rd.nil (w : World) (B : Nat) (a : Option Addr) : Rd w B a 0 [] := ⟨rfl, .inl rfl⟩
theorem Rd.holds {w : World} {B : Nat} {a : Option Addr} {n : Nat} {xs : List Value} (h : Rd w B a n xs) :
    ∀ b, a = some b → ∀ j u, xs[j]? = some u → w.cell? (b.add j) = some u := by
  obtain ⟨h1, h2 | ⟨g, o, rfl, _, hc⟩⟩ := h
  · subst h2
    intro b _ j u hu
    rw [List.eq_nil_of_length_eq_zero h1] at hu
    simp at hu
  · rintro b ⟨⟩ j u hu
    rw [Addr.add_lit]
    exact hc j u hu
theorem Rd.own {w : World} {base e : Nat} {v : Value} {n : Nat} {xs : List Value} (h : w.ownsRow base e 1 v n xs) : ∃ a c, v = .slice a n c ∧ n ≤ c ∧ c ≤ maxLen ∧ Rd w w.heap.size a n xs := by
  have hl := h.1
  rw [Nat.mul_one] at hl
  rcases h.2 with ⟨rfl, rfl⟩ | ⟨g, cap, cur, rfl, _, hg, hn, hm, _⟩
  · exact ⟨none, 0, rfl, Nat.le_refl _, Nat.zero_le _, hl, .inl rfl⟩
  · refine ⟨_, _, rfl, hn, hm, hl, .inr ⟨g, 0, rfl, (Array.getElem?_eq_some_iff.1 hg).1, fun j u hu => ?_⟩⟩
    have := h.cells (g := g) rfl j u hu
    rwa [Addr.add_lit] at this
theorem own_base {w : World} {base base' : Nat} {e : TypeId} {size : Nat} {v : Value} {n : Nat} {xs : List Value} (h : w.ownsRow base e size v n xs) (hb : base' ≤ base) : w.ownsRow base' e size v n xs := by
  refine ⟨h.1, h.2.imp id ?_⟩
  rintro ⟨g, cap, cur, h1, h2, h3⟩
  exact ⟨g, cap, cur, h1, Nat.le_trans hb h2, h3⟩
/-- v has n elements that read as xs: a slice of somebody else's, cut at its length, or a row of the call's own. What was there when the call began (in W) is as it was. -/
def Has (W : World) (e : TypeId) (w : World) (v : Value) (n : Nat) (xs : List Value) : Prop :=
  Below W.heap.size W w ∧ ((∃ a, v = .slice a n n ∧ Rd W W.heap.size a n xs) ∨ w.ownsRow W.heap.size e 1 v n xs)
theorem Has.start {W : World} {e : TypeId} {a : Option Addr} {n : Nat} {xs : List Value} (h : Rd W W.heap.size a n xs) : Has W e W (.slice a n n) n xs :=
  ⟨Below.refl _ _, .inl ⟨a, rfl, h⟩⟩
theorem Has.alloc {W : World} {e : TypeId} {w : World} {v : Value} {n : Nat} {xs : List Value} (h : Has W e w v n xs) (o : Obj) : Has W e (w.alloc o) v n xs :=
  ⟨h.1.alloc h.1.size o, h.2.imp id fun h2 => h2.alloc o⟩
theorem Has.drew {W : World} {e : TypeId} {w : World} {v : Value} {n : Nat} {xs : List Value} (h : Has W e w v n xs) : Has W e w.drew v n xs :=
  ⟨h.1.drew, h.2⟩
theorem Has.rd {W : World} {e : TypeId} {w : World} {v : Value} {n : Nat} {xs : List Value} (h : Has W e w v n xs) (hn : n ≤ maxLen) : ∃ a c, v = .slice a n c ∧ n ≤ c ∧ c ≤ maxLen ∧ Rd w w.heap.size a n xs := by
  rcases h.2 with ⟨a, rfl, hr⟩ | ho
  · exact ⟨a, n, rfl, Nat.le_refl _, hn, (hr.far h.1).up h.1.size⟩
  · exact Rd.own ho
section
variable {P : Program}
theorem run_append_has {W : World} {e : TypeId} (t ty : TypeId) (i : TypeInfo) (z : Value) (bytes : Nat) (ht : P.underlying t = some (.slice e)) (hi : P.info? e = some i) (hz : i.zero = some z)
    (hsize : i.size = 1) (hby : i.bytes = bytes) (hzs : z.cells.size = 1) {w : World} {v : Value} {n : Nat} {xs : List Value} (h : Has W e w v n xs)
    (ad : Addr) (m c : Nat) (news : List Value) (hm : 0 < m) (hl : news.length = m) (hnews : ∀ j u, news[j]? = some u → w.cell? (ad.add j) = some u) (h1 : ∀ u ∈ news, u.oneCell' = true)
    (h63 : n + m ≤ maxLen) (hbytes : (n + m) * bytes ≤ 140737488355328) :
    ∃ v' w', (Builtin.append_ #[t, t] ty #[v, .slice (some ad) m c]).run P w = .ok v' w' ∧ Below W.heap.size W w' ∧ w'.ownsRow W.heap.size e 1 v' (n + m) (xs ++ news) := by
  obtain ⟨hbel, h2⟩ := h
  have hWw := hbel.size
  rcases h2 with ⟨a, rfl, hr⟩ | hown
  · have hl1 := hr.1
    have hrw := hr.far hbel
    rcases a with _ | b
    · obtain rfl : n = 0 := by
        rcases hr.2 with h0 | ⟨_, _, h0, _⟩
        · exact h0
        · cases h0
      obtain rfl : xs = [] := List.eq_nil_of_length_eq_zero hl1
      obtain ⟨v', w', hrun, r1, r2, _⟩ := run_append_own (P := P) w W.heap.size t ty e i z 1 bytes ht hi hz hsize hby hzs (by decide) (.slice none 0 0) 0 [] (World.ownsRow_nil w _ e 1) ad m c news (by omega) hnews h1 h63 hbytes hWw
      exact ⟨v', w', hrun, hbel.grown r2 hWw (by simp [Value.ownBlock]), r1⟩
    · obtain ⟨v', w', hrun, r1, r2⟩ := run_append_arg_grows (P := P) w t ty e i z 1 bytes ht hi hz hsize hby hzs (by decide) b n n xs (by omega) (hrw.holds b rfl) ad m c news (by omega) hnews (by omega) h63 hbytes
      exact ⟨v', w', hrun, hbel.grown r2 hWw (by simp), own_base r1 hWw⟩
  · obtain ⟨v', w', hrun, r1, r2, _⟩ := run_append_own (P := P) w W.heap.size t ty e i z 1 bytes ht hi hz hsize hby hzs (by decide) v n xs hown ad m c news (by omega) hnews h1 h63 hbytes hWw
    exact ⟨v', w', hrun, hbel.grown r2 hWw (fun k hk => (hown.lt k hk).1), r1⟩
theorem wpList_append_has (w : World) {ops : Array Oper} {rest : List Oper} {o : Oper} {a : Act} {Q : Exit → Act → World → Prop} (hgd : o.guard = none) (s x : Operand) (t : TypeId)
    (ho : o.op = .call { callee := .builtin .append, args := #[s, x], argTypes := #[t, t] })
    {W : World} {e : TypeId} (i : TypeInfo) (z : Value) (bytes : Nat) (ht : P.underlying t = some (.slice e)) (hi : P.info? e = some i) (hz : i.zero = some z)
    (hsize : i.size = 1) (hby : i.bytes = bytes) (hzs : z.cells.size = 1) {v : Value} {n : Nat} {xs : List Value} (hs : a.eval s = v) (h : Has W e w v n xs)
    (ad : Addr) (m c : Nat) (news : List Value) (hx : a.eval x = .slice (some ad) m c) (hm : 0 < m) (hl : news.length = m) (hnews : ∀ j u, news[j]? = some u → w.cell? (ad.add j) = some u) (h1 : ∀ u ∈ news, u.oneCell' = true)
    (h63 : n + m ≤ maxLen) (hbytes : (n + m) * bytes ≤ 140737488355328)
    (hK : ∀ v' w', Below W.heap.size W w' → w'.ownsRow W.heap.size e 1 v' (n + m) (xs ++ news) → wpList P ops Q rest (a.put o.dst v') w') : wpList P ops Q (o :: rest) a w := by
  refine wpList_plain hgd fun K hK' => ?_
  obtain ⟨v', w', hrun, r1, r2⟩ := run_append_has (P := P) t o.type i z bytes ht hi hz hsize hby hzs h ad m c news hm hl hnews h1 h63 hbytes
  unfold Oper.wp
  simp [execOp, ho, resolve, invoke, builtin, hs, hx, hrun, Result.andThen]
  exact hK' _ _ (hK v' w' r1 r2)
theorem run_append_src {W : World} {e : TypeId} (t ty : TypeId) (i : TypeInfo) (z : Value) (bytes : Nat) (ht : P.underlying t = some (.slice e)) (hi : P.info? e = some i) (hz : i.zero = some z)
    (hsize : i.size = 1) (hby : i.bytes = bytes) (hzs : z.cells.size = 1) {w : World} {v : Value} {n : Nat} {xs : List Value} (hbel : Below W.heap.size W w) (hown : w.ownsRow W.heap.size e 1 v n xs)
    {B : Nat} {a : Option Addr} {m : Nat} {news : List Value} (hr : Rd w B a m news) (c : Nat) (h1 : ∀ u ∈ news, u.oneCell' = true)
    (h63 : n + m ≤ maxLen) (hbytes : (n + m) * bytes ≤ 140737488355328) :
    ∃ v' w', (Builtin.append_ #[t, t] ty #[v, .slice a m c]).run P w = .ok v' w' ∧ Below W.heap.size W w' ∧ w'.ownsRow W.heap.size e 1 v' (n + m) (xs ++ news) := by
  have hl := hr.1
  rcases a with _ | ad
  · obtain rfl : m = 0 := by
      rcases hr.2 with h0 | ⟨_, _, h0, _⟩
      · exact h0
      · cases h0
    obtain rfl : news = [] := List.eq_nil_of_length_eq_zero hl
    refine ⟨v, w, ?_, hbel, by simpa using hown⟩
    rcases hown.2 with ⟨rfl, rfl⟩ | ⟨g, cap, cur, rfl, _, _, hnc, _⟩
    · simp [Builtin.append_, run_underlying ht, sizeOf, typeInfo, hi, Builtin.lenOf, Builtin.firstCells]
    · simp [Builtin.append_, run_underlying ht, sizeOf, typeInfo, hi, Builtin.lenOf, Builtin.firstCells, hnc, storeCells]
  · obtain ⟨v', w', hrun, r1, r2, _⟩ := run_append_own (P := P) w W.heap.size t ty e i z 1 bytes ht hi hz hsize hby hzs (by decide) v n xs hown ad m c news (by omega) (hr.holds ad rfl) h1 h63 hbytes hbel.size
    exact ⟨v', w', hrun, hbel.grown r2 hbel.size (fun k hk => (hown.lt k hk).1), r1⟩
theorem wpList_append_src (w : World) {ops : Array Oper} {rest : List Oper} {o : Oper} {a : Act} {Q : Exit → Act → World → Prop} (hgd : o.guard = none) (s x : Operand) (t : TypeId)
    (ho : o.op = .call { callee := .builtin .append, args := #[s, x], argTypes := #[t, t] })
    {W : World} {e : TypeId} (i : TypeInfo) (z : Value) (bytes : Nat) (ht : P.underlying t = some (.slice e)) (hi : P.info? e = some i) (hz : i.zero = some z)
    (hsize : i.size = 1) (hby : i.bytes = bytes) (hzs : z.cells.size = 1) {v : Value} {n : Nat} {xs : List Value} (hs : a.eval s = v) (hbel : Below W.heap.size W w) (hown : w.ownsRow W.heap.size e 1 v n xs)
    {B : Nat} {A : Option Addr} {m c : Nat} {news : List Value} (hx : a.eval x = .slice A m c) (hr : Rd w B A m news) (h1 : ∀ u ∈ news, u.oneCell' = true)
    (h63 : n + m ≤ maxLen) (hbytes : (n + m) * bytes ≤ 140737488355328)
    (hK : ∀ v' w', Below W.heap.size W w' → w'.ownsRow W.heap.size e 1 v' (n + m) (xs ++ news) → wpList P ops Q rest (a.put o.dst v') w') : wpList P ops Q (o :: rest) a w := by
  refine wpList_plain hgd fun K hK' => ?_
  obtain ⟨v', w', hrun, r1, r2⟩ := run_append_src (P := P) t o.type i z bytes ht hi hz hsize hby hzs hbel hown hr c h1 h63 hbytes
  unfold Oper.wp
  simp [execOp, ho, resolve, invoke, builtin, hs, hx, hrun, Result.andThen]
  exact hK' _ _ (hK v' w' r1 r2)
end
/-- The lowest k bytes of n, the lowest first. -/
def le (n : Int) (k : Nat) : List Int := (List.range k).map fun j => n / 256 ^ j % 256
theorem le_succ (n : Int) (k : Nat) : le n (k + 1) = le n k ++ [n / 256 ^ k % 256] := by
  unfold le
  rw [List.range_succ, List.map_append]
  rfl
theorem le_length (n : Int) (k : Nat) : (le n k).length = k := by simp [le]
def u8s (xs : List Int) : List Value := xs.map (Value.int .u8)
theorem u8s_append (xs ys : List Int) : u8s (xs ++ ys) = u8s xs ++ u8s ys := List.map_append
theorem u8s_length (xs : List Int) : (u8s xs).length = xs.length := List.length_map _
theorem div_step (n : Int) (k : Nat) : n / 256 ^ k / 256 = n / 256 ^ (k + 1) := by
  rw [Int.pow_succ, Int.ediv_ediv_of_nonneg (Int.le_of_lt (Int.pow_pos (by decide)))]
theorem info_u8 : (Try.prog.info? 5).map (fun i => (i.zero, i.size, i.bytes)) = some (some (.int .u8 0), 1, 1) := by kernel_rfl
/-- The number whose bytes these are, the lowest first. -/
def num : List Int → Int
  | [] => 0
  | b :: r => b + 256 * num r
theorem num_snoc (ys : List Int) (c : Int) : num (ys ++ [c]) = num ys + c * 256 ^ ys.length := by
  induction ys with
  | nil => simp [num]
  | cons b r ih =>
    simp only [List.cons_append, num, ih, List.length_cons, Int.pow_succ]
    rw [Int.mul_add, ← Int.add_assoc]
    congr 1
    rw [← Int.mul_assoc, Int.mul_comm 256 c, Int.mul_assoc, Int.mul_comm 256]
def IsBytes (xs : List Int) : Prop := ∀ b ∈ xs, 0 ≤ b ∧ b ≤ 255
theorem num_bd (ys : List Int) (h : IsBytes ys) : 0 ≤ num ys ∧ num ys < 256 ^ ys.length := by
  induction ys with
  | nil => simp [num]
  | cons b r ih =>
    have h1 := h b (by simp)
    have h2 := ih fun x hx => h x (by simp [hx])
    simp only [num, List.length_cons, Int.pow_succ]
    omega
theorem take_drop_snoc (xs : List Int) (p k : Nat) (h : p + k < xs.length) : (xs.drop p).take (k + 1) = (xs.drop p).take k ++ [xs[p + k]?.getD 0] := by
  rw [List.take_succ_eq_append_getElem (by simp; omega)]
  simp [h]
theorem byte_at {xs : List Int} (hx : IsBytes xs) (j : Nat) : 0 ≤ xs[j]?.getD 0 ∧ xs[j]?.getD 0 ≤ 255 := by
  rcases h : xs[j]? with _ | b
  · simp
  · exact hx b (List.mem_of_getElem? h)
theorem isBytes_part {xs : List Int} (hx : IsBytes xs) (p k : Nat) : IsBytes ((xs.drop p).take k) := fun b hb => hx b (List.mem_of_mem_drop (List.mem_of_mem_take hb))
theorem run_str {P : Program} {src dst e : TypeId} (hs : P.underlying src = some (.slice e)) (he : P.underlying e = some (.int .u8)) (hd : P.underlying dst = some .string)
    {w : World} {B : Nat} {a : Option Addr} {n : Nat} {xs : List Int} (h : Rd w B a n (u8s xs)) (c : Nat) : (convert src dst (.slice a n c)).run P w = .ok (.string (strOfNums xs)) w := by
  obtain ⟨h1, h2⟩ := h
  rw [u8s_length] at h1
  rcases h2 with h0 | ⟨g, o, rfl, _, hc⟩
  · subst h0
    obtain rfl : xs = [] := List.eq_nil_of_length_eq_zero h1
    rcases a with _ | b
    · rw [run_convert_bytes_nil w src e hs he 0 c dst hd]
      rfl
    · rw [run_convert_bytes_string w src dst e _ 0 c hs he hd, run_bytesToString w _ 0 c [] (by simpa using run_loadCells_list (P := P) w b [] (fun j v hj => by simp at hj))]
      rfl
  · refine run_convert_bytes_arg w src e hs he g o n c xs h1 (fun i hi => ?_) dst hd
    exact hc i _ (by simp [u8s, List.getD_eq_getElem?_getD, show i < xs.length by omega])
theorem str_list (xs : List Int) : (strOfNums xs).toList = xs.map fun n => UInt8.ofNat n.toNat := by rw [ByteArray.toList_eq]; rfl
theorem u8s_one (xs : List Int) : ∀ u ∈ u8s xs, u.oneCell' = true := by
  intro u hu
  obtain ⟨n, _, rfl⟩ := List.mem_map.1 hu
  rfl
theorem Rd.first {w : World} {B : Nat} {a : Option Addr} {n : Nat} {xs : List Value} (h : Rd w B a n xs) {k : Nat} (hk : k ≤ n) : Rd w B a k (xs.take k) := by
  obtain ⟨h1, h2⟩ := h
  refine ⟨by simp; omega, ?_⟩
  rcases h2 with h2 | ⟨g, o, ha, hg, hc⟩
  · exact .inl (by omega)
  · refine .inr ⟨g, o, ha, hg, fun j u hu => hc j u ?_⟩
    rw [List.getElem?_take] at hu
    split at hu
    · exact hu
    · cases hu
theorem Rd.drewN {w : World} {B : Nat} {a : Option Addr} {n : Nat} {xs : List Value} (h : Rd w B a n xs) (k : Nat) : Rd (w.drewN k) B a n xs := h
theorem own_empty (w : World) (e : TypeId) : (w.alloc (.cells #[] e)).ownsRow w.heap.size e 1 (.slice (some ⟨w.heap.size, 0, none⟩) 0 0) 0 [] := World.ownsRow_made w #[] 0 (Nat.le_refl _) (Nat.zero_le _) rfl
theorem below_drewN (w : World) (k : Nat) (B : Nat) : Below B w (w.drewN k) := ⟨rfl, rfl, rfl, Nat.le_refl _, fun _ _ => rfl⟩
theorem le_sum (n : Int) (k : Nat) : n = num (le n k) + 256 ^ k * (n / 256 ^ k) := by
  induction k with
  | zero => simp [le, num]
  | succ k ih =>
    rw [le_succ, num_snoc, le_length, ← div_step]
    generalize num (le n k) = a at *
    generalize n / 256 ^ k = q at *
    have h := Int.mul_ediv_add_emod q 256
    generalize q / 256 = d at *
    generalize q % 256 = r at *
    rw [Int.pow_succ, Int.mul_comm r, Int.mul_assoc, Int.add_assoc, ← Int.mul_add, Int.add_comm r, h]
    exact ih
theorem isBytes_append {xs ys : List Int} (h : IsBytes xs) (h' : IsBytes ys) : IsBytes (xs ++ ys) := fun b hb => (List.mem_append.1 hb).elim (h b) (h' b)
theorem isBytes_le (n : Int) (k : Nat) : IsBytes (le n k) := by
  intro b hb
  obtain ⟨j, _, rfl⟩ := List.mem_map.1 hb
  omega
theorem bits_byte (op : BinOp) (x y : Int) : 0 ≤ bits op .u8 x y ∧ bits op .u8 x y ≤ 255 := by
  unfold bits
  rw [IntKind.wrap_u8]
  omega
theorem u8s_set (xs : List Int) (k : Nat) (u : Int) : (u8s xs).set k (.int .u8 u) = u8s (xs.set k u) := by
  unfold u8s
  rw [List.map_set]
theorem isBytes_set {xs : List Int} (h : IsBytes xs) {k : Nat} {u : Int} (h1 : 0 ≤ u) (h2 : u ≤ 255) : IsBytes (xs.set k u) := by
  intro b hb
  rcases List.mem_or_eq_of_mem_set hb with hb | rfl
  · exact h b hb
  · exact ⟨h1, h2⟩
theorem own_form {w : World} {base : Nat} {e : TypeId} {v : Value} {n : Nat} {xs : List Value} (h : w.ownsRow base e 1 v n xs) (hn : 0 < n) : ∃ g c, v = .slice (some ⟨g, 0, none⟩) n c ∧ base ≤ g ∧ g < w.heap.size ∧ n ≤ c := by
  rcases h.2 with ⟨_, h0⟩ | ⟨g, c, cur, hv, hb, hg, hc, _⟩
  · omega
  · exact ⟨g, c, hv, hb, (Array.getElem?_eq_some_iff.1 hg).1, hc⟩
theorem own_far {w w' : World} {base : Nat} {e : TypeId} {v : Value} {n : Nat} {xs : List Value} (h : w.ownsRow base e 1 v n xs) (hb : Below w.heap.size w w') : w'.ownsRow base e 1 v n xs := by
  refine ⟨h.1, h.2.imp id ?_⟩
  rintro ⟨g, c, cur, hv, h1, hg, h2⟩
  exact ⟨g, c, cur, hv, h1, (hb.block g (Array.getElem?_eq_some_iff.1 hg).1).trans hg, h2⟩
theorem Rd.drew_ {w : World} {B : Nat} {a : Option Addr} {n : Nat} {xs : List Value} (h : Rd w B a n xs) : Rd w.drew B a n xs := h
end Go.Proofs.Ytmbphhcgmdaoeaa
