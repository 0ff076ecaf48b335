/- What is proved: disks as plain lists of sectors, and what each of the document's functions on disks makes of them. No program is walked here. -/
import Derived.Test.YtjahhheipeggeaaRow
namespace Go.Proofs.Ytjahhheipeggeaa
open Go.RowKit

structure Sec where
  n : Int
  b : ByteArray
def Sec.cells (s : Sec) : List Value := [.int .i64 s.n, .string s.b]
theorem Sec.cells_length (s : Sec) : s.cells.length = 2 := rfl
def secs (l : List Sec) : List Value := l.flatMap Sec.cells
theorem secs_length (l : List Sec) : (secs l).length = l.length * 2 := flat_length _ 2 Sec.cells_length l
theorem secs_n (l : List Sec) (k : Nat) (h : k < l.length) : (secs l)[k * 2]? = some (.int .i64 l[k].n) := flat_at _ 2 Sec.cells_length l k 0 h (by decide)
theorem secs_b (l : List Sec) (k : Nat) (h : k < l.length) : (secs l)[k * 2 + 1]? = some (.string l[k].b) := flat_at _ 2 Sec.cells_length l k 1 h (by decide)
theorem secs_append (l m : List Sec) : secs (l ++ m) = secs l ++ secs m := List.flatMap_append
theorem secs_one (l : List Sec) : ∀ u ∈ secs l, u.oneCell' = true := by
  intro u hu
  obtain ⟨s, _, hs⟩ := List.mem_flatMap.1 hu
  simp only [Sec.cells, List.mem_cons, List.mem_nil_iff, or_false] at hs
  rcases hs with rfl | rfl <;> rfl

/-- A sector of a row that may be. -/
def secOk (s : Sec) : Bool := decide (0 ≤ s.n ∧ s.n ≤ 1048575 ∧ s.b.size ≤ 640 ∧ (s.n = 0 → s.b.toList = []))
def rowB (l : List Sec) : Bool := decide (l.length = 33) && l.all secOk
theorem rowB_no {l : List Sec} {k : Nat} {s : Sec} (h : l[k]? = some s) (hs : secOk s = false) : rowB l = false := by
  unfold rowB
  rw [Bool.and_eq_false_iff]
  right
  rw [List.all_eq_false]
  exact ⟨s, List.mem_of_getElem? h, by rw [hs]; decide⟩
theorem rowB_len {l : List Sec} (h : l.length ≠ 33) : rowB l = false := by
  unfold rowB
  rw [decide_eq_false h, Bool.false_and]
theorem rowB_yes {l : List Sec} (h : l.length = 33) (ha : l.all secOk = true) : rowB l = true := by
  unfold rowB
  rw [decide_eq_true h, ha]
  rfl
theorem all_succ {α : Type} (p : α → Bool) (l : List α) (k : Nat) (s : α) (h : l[k]? = some s) (ha : (l.take k).all p = true) (hs : p s = true) : (l.take (k + 1)).all p = true := by
  obtain ⟨hk, e⟩ := List.getElem?_eq_some_iff.1 h
  rw [List.take_succ_eq_append_getElem hk, List.all_append, ha, e]
  simp [hs]

/-! ### disks -/
structure Dsk where
  now : List Sec
  sure : List Sec
def leB (l m : List Sec) : Bool := (l.zip m).all fun p => decide (p.2.n ≤ p.1.n)
def chkB (d : Dsk) : Bool := rowB d.now && rowB d.sure && leB d.now d.sure
def chk (d : Dsk) : Int := if chkB d then 0 else 2
theorem chk_yes {d : Dsk} (h : chkB d = true) : chk d = 0 := by unfold chk; rw [h]; rfl
theorem chk_no {d : Dsk} (h : chkB d = false) : chk d = 2 := by unfold chk; rw [h]; rfl
theorem rowB_length {l : List Sec} (h : rowB l = true) : l.length = 33 := by
  unfold rowB at h
  exact of_decide_eq_true (Bool.and_eq_true_iff.1 h).1
theorem zip_at {l m : List Sec} {k : Nat} {s t : Sec} (h : l[k]? = some s) (h' : m[k]? = some t) : (l.zip m)[k]? = some (s, t) := by
  rw [List.getElem?_zip_eq_some]
  exact ⟨h, h'⟩
theorem leB_no {l m : List Sec} {k : Nat} {s t : Sec} (h : l[k]? = some s) (h' : m[k]? = some t) (hn : ¬ t.n ≤ s.n) : leB l m = false := by
  unfold leB
  rw [List.all_eq_false]
  exact ⟨_, List.mem_of_getElem? (zip_at h h'), by simpa using hn⟩
/-- A disk as a value: two slices that read as its rows, in blocks from lo on, below hi. -/
def Dk (w : World) (lo hi : Nat) (v : Value) (d : Dsk) : Prop :=
  ∃ a l c a' l' c', v = .agg #[.slice a l c, .slice a' l' c'] ∧ Rg 2 w lo hi a l (secs d.now) ∧ Rg 2 w lo hi a' l' (secs d.sure) ∧ l ≤ c ∧ l' ≤ c' ∧ c ≤ maxLen ∧ c' ≤ maxLen
theorem Dk.far {w w' : World} {lo hi : Nat} {v : Value} {d : Dsk} (h : Dk w lo hi v d) (hb : Below hi w w') : Dk w' lo hi v d := by
  obtain ⟨a, l, c, a', l', c', hv, h1, h2, h3⟩ := h
  exact ⟨a, l, c, a', l', c', hv, h1.far hb, h2.far hb, h3⟩
theorem Dk.wide {w : World} {lo hi lo' hi' : Nat} {v : Value} {d : Dsk} (h : Dk w lo hi v d) (hl : lo' ≤ lo) (hh : hi ≤ hi') : Dk w lo' hi' v d := by
  obtain ⟨a, l, c, a', l', c', hv, h1, h2, h3⟩ := h
  exact ⟨a, l, c, a', l', c', hv, h1.wide hl hh, h2.wide hl hh, h3⟩
theorem secs_len {w : World} {lo hi : Nat} {a : Option Addr} {n : Nat} {l : List Sec} (h : Rg 2 w lo hi a n (secs l)) : l.length = n := by
  have := h.1
  rw [secs_length] at this
  omega

/-! ### what the functions make of a disk -/
def none_ : Dsk := ⟨[], []⟩
def noSec : Sec := ⟨0, ⟨#[]⟩⟩
def argOk (s n : Int) (b : ByteArray) : Bool := decide (0 ≤ s ∧ s < 33 ∧ 1 ≤ n ∧ n ≤ 1048575 ∧ b.toList ≠ [] ∧ b.size ≤ 640)
def putOk (d : Dsk) (s n : Int) (b : ByteArray) : Bool := chkB d && argOk s n b
def putD (d : Dsk) (s : Nat) (n : Int) (b : ByteArray) : Dsk := if (d.now[s]?.getD noSec).n < n then ⟨d.now.set s ⟨n, b⟩, d.sure⟩ else d
theorem chkB_parts {d : Dsk} (h : chkB d = true) : rowB d.now = true ∧ rowB d.sure = true ∧ leB d.now d.sure = true := by
  unfold chkB at h
  simp only [Bool.and_eq_true] at h
  exact ⟨h.1.1, h.1.2, h.2⟩
theorem secs_set (l : List Sec) (k : Nat) (s : Sec) (h : k < l.length) : ((secs l).set (k * 2) (.int .i64 s.n)).set (k * 2 + 1) (.string s.b) = secs (l.set k s) := by
  induction l generalizing k with
  | nil => simp at h
  | cons x l ih =>
    rcases k with _ | k
    · rfl
    · have e1 : (k + 1) * 2 = k * 2 + 1 + 1 := by omega
      have := ih k (by simpa using h)
      show ((.int .i64 x.n :: .string x.b :: secs l).set ((k + 1) * 2) (.int .i64 s.n)).set ((k + 1) * 2 + 1) (.string s.b) = .int .i64 x.n :: .string x.b :: secs (l.set k s)
      rw [e1, ← this]
      rfl

/-! ### the same sectors -/
def secEq (s t : Sec) : Bool := (s.n == t.n) && (s.b.toList == t.b.toList)
def sameB (l m : List Sec) : Bool := decide (l.length = m.length) && (l.zip m).all fun p => secEq p.1 p.2
theorem toList_inj {a b : ByteArray} (h : a.toList = b.toList) : a = b := by
  rw [ByteArray.toList_eq, ByteArray.toList_eq] at h
  obtain ⟨⟨x⟩⟩ := a
  obtain ⟨⟨y⟩⟩ := b
  cases h
  rfl
theorem secEq_iff {s t : Sec} : secEq s t = true ↔ s = t := by
  unfold secEq
  rw [Bool.and_eq_true, beq_iff_eq, beq_iff_eq]
  constructor
  · rintro ⟨h1, h2⟩
    obtain ⟨n, b⟩ := s
    obtain ⟨n', b'⟩ := t
    simp only at h1 h2
    rw [h1, toList_inj h2]
  · rintro rfl; exact ⟨rfl, rfl⟩
theorem sameB_iff {l m : List Sec} : sameB l m = true ↔ l = m := by
  unfold sameB
  rw [Bool.and_eq_true, decide_eq_true_eq]
  constructor
  · rintro ⟨h1, h2⟩
    apply List.ext_getElem h1
    intro k hk hk'
    have := List.all_eq_true.1 h2 (l[k], m[k]) (List.mem_of_getElem? (zip_at (List.getElem?_eq_getElem hk) (List.getElem?_eq_getElem hk')))
    exact secEq_iff.1 this
  · rintro rfl
    refine ⟨rfl, List.all_eq_true.2 fun p hp => ?_⟩
    obtain ⟨k, hk⟩ := List.mem_iff_getElem?.1 hp
    obtain ⟨h1, h2⟩ := List.getElem?_zip_eq_some.1 hk
    rw [h1] at h2
    have e := Option.some.inj h2
    rw [← e]
    exact secEq_iff.2 rfl
theorem sameB_no {l m : List Sec} {k : Nat} {s t : Sec} (h : l[k]? = some s) (h' : m[k]? = some t) (hn : secEq s t = false) : sameB l m = false := by
  unfold sameB
  rw [Bool.and_eq_false_iff]
  right
  rw [List.all_eq_false]
  exact ⟨_, List.mem_of_getElem? (zip_at h h'), by simpa using hn⟩
def sameD (d e : Dsk) : Bool := sameB d.now e.now && sameB d.sure e.sure
theorem sameD_iff {d e : Dsk} : sameD d e = true ↔ d = e := by
  unfold sameD
  rw [Bool.and_eq_true, sameB_iff, sameB_iff]
  constructor
  · rintro ⟨h1, h2⟩
    obtain ⟨n, s⟩ := d
    obtain ⟨n', s'⟩ := e
    simp only at h1 h2
    rw [h1, h2]
  · rintro rfl; exact ⟨rfl, rfl⟩

/-! ### too great for the statements -/
def slim (s : Sec) : Bool := decide (s.b.size ≤ 3000)
def smallD (d : Dsk) : Bool := decide (d.now.length ≤ 60 ∧ d.sure.length ≤ 60) && d.now.all slim && d.sure.all slim
theorem small_no1 {d : Dsk} (h : 60 < d.now.length ∨ 60 < d.sure.length) : smallD d = false := by
  unfold smallD
  rw [decide_eq_false (by omega), Bool.false_and, Bool.false_and]
theorem all_no {α : Type} {p : α → Bool} {l : List α} {k : Nat} {s : α} (h : l[k]? = some s) (hp : p s = false) : l.all p = false := by
  rw [List.all_eq_false]
  exact ⟨s, List.mem_of_getElem? h, by rw [hp]; decide⟩
theorem small_no2 {d : Dsk} (h : d.now.all slim = false) : smallD d = false := by
  unfold smallD
  rw [h, Bool.and_false, Bool.false_and]
theorem small_no3 {d : Dsk} (h : d.sure.all slim = false) : smallD d = false := by
  unfold smallD
  rw [h, Bool.and_false]
theorem small_yes {d : Dsk} (h1 : d.now.length ≤ 60) (h2 : d.sure.length ≤ 60) (h3 : d.now.all slim = true) (h4 : d.sure.all slim = true) : smallD d = true := by
  unfold smallD
  rw [decide_eq_true ⟨h1, h2⟩, h3, h4]
  rfl

/-! ### what is not sure -/
def isDirty (d : Dsk) (j : Nat) : Bool := !((d.now[j]?.getD noSec).n == (d.sure[j]?.getD noSec).n)
def dirtyTo (d : Dsk) (k : Nat) : List Nat := (List.range k).filter (isDirty d)
def dirtyD (d : Dsk) : List Nat := if chkB d then dirtyTo d 33 else []
def nums (l : List Nat) : List Value := l.map fun (n : Nat) => Value.int .i64 (n : Int)
theorem dirty_yes {d : Dsk} {k : Nat} (h : isDirty d k = true) : dirtyTo d (k + 1) = dirtyTo d k ++ [k] := by
  unfold dirtyTo
  rw [List.range_succ, List.filter_append, List.filter_cons, h]
  rfl
theorem dirty_no {d : Dsk} {k : Nat} (h : isDirty d k = false) : dirtyTo d (k + 1) = dirtyTo d k := by
  unfold dirtyTo
  rw [List.range_succ, List.filter_append, List.filter_cons, h]
  simp
theorem dirty_len (d : Dsk) (k : Nat) : (dirtyTo d k).length ≤ k := by
  have := List.length_filter_le (isDirty d) (List.range k)
  simpa [dirtyTo] using this
theorem nums_append (l m : List Nat) : nums (l ++ m) = nums l ++ nums m := List.map_append
theorem nums_length (l : List Nat) : (nums l).length = l.length := List.length_map _
end Go.Proofs.Ytjahhheipeggeaa
