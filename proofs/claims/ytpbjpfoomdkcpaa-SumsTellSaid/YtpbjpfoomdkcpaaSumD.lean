/- What is proved: the contracts of write, read, Seal and Open: what each returns over any slice of bytes, and that nothing that was there before the call turns. -/
import Derived.Test.YtpbjpfoomdkcpaaSumB
import Derived.Deep.RegionWith
import Derived.Deep.QuietTactic
import Derived.BigQuiet
import Derived.Laws.CopyOwn
import Derived.Deep.OwnRows
namespace Go.Proofs.Ytpbjpfoomdkcpaa
open Go.RowKit

/-! ### write and read -/
theorem set_at {α : Type} (A B : List α) (y v : α) : (A ++ y :: B).set A.length v = A ++ v :: B := by
  rw [List.set_append_right _ _ (Nat.le_refl _), Nat.sub_self, List.set_cons_zero]
/-- A row of one's own of which the first bytes are xs, then k bytes of n are written, 4 - k more stand behind. -/
def WrR (B : Nat) (W : World) (g l : Nat) (xs : List Int) (n : Int) (k : Nat) (w : World) : Prop :=
  Below B W w ∧ ∃ ys, ys.length = 4 - k ∧ w.ownsRow B 5 1 (.slice (some ⟨g, 0, none⟩) (l + 4) (l + 4)) (l + 4) (u8s (xs ++ le n k ++ ys))
theorem wrR_step {B : Nat} {W : World} {g l : Nat} {xs : List Int} {n : Int} {k : Nat} {w : World} (h : WrR B W g l xs n k w) (hl : xs.length = l) (hg : B ≤ g) (hk : k < 4) :
    WrR B W g l xs n (k + 1) (w.setCell ⟨g, l + k, none⟩ (.int .u8 (n / 256 ^ k % 256))) := by
  obtain ⟨hb, ys, hy, ho⟩ := h
  rcases ys with _ | ⟨y, ys⟩
  · simp at hy; omega
  · refine ⟨hb.setCell hg _, ys, by simp at hy; omega, ?_⟩
    have e : (xs ++ le n k ++ y :: ys).set (l + k) (n / 256 ^ k % 256) = xs ++ le n (k + 1) ++ ys := by
      have := set_at (xs ++ le n k) ys y (n / 256 ^ k % 256)
      rw [List.length_append, le_length, hl] at this
      rw [this, le_succ]
      simp
    rw [← e, ← u8s_set]
    exact (ho.stored (l + k) _).1
set_option maxHeartbeats 400000 in
theorem write_walk (B : Nat) (g l : Nat) (xs ys : List Int) (s : B32) (w : World) (hl : xs.length = l) (hy : ys.length = 4) (hg : B ≤ g) (_ : l ≤ 1000000)
    (ho : w.ownsRow B 5 1 (.slice (some ⟨g, 0, none⟩) (l + 4) (l + 4)) (l + 4) (u8s (xs ++ ys))) :
    Calls Try.prog 20 #[.slice (some ⟨g, l, none⟩) 4 4, .int .u32 (iu s)] w fun e w' =>
      e = .returned (.tuple #[]) ∧ WrR B w g l xs (iu s) 4 w' := by
  have hR : WrR B w g l xs (iu s) 0 w := ⟨Below.refl _ _, ys, hy, by simpa [le] using ho⟩
  have hb := iu_bd s
  clear ho
  generalize iu s = n at *
  go_enter Try.func20, Try.ntmps20
  go_wp2
  go_loopw [7] (fun i wr => ∃ k : Nat, k ≤ 4 ∧ i = .int .i64 k ∧ WrR B w g l xs n k wr) (fun i _ => 4 - (intOf i).toNat)
  case atStart => exact ⟨0, Nat.zero_le _, rfl, hR⟩
  case round =>
    obtain ⟨k, hk, rfl, hv⟩ := hrel
    by_cases hlt : k < 4
    · obtain ⟨_, zs, hz, ho⟩ := id hv
      have hzl : (xs ++ le n k ++ zs).length = l + 4 := by have := ho.1; rw [u8s_length, Nat.mul_one] at this; exact this
      have hcell : wr.cell? ⟨g, l + k, none⟩ = some (.int .u8 ((xs ++ le n k ++ zs).getD (l + k) 0)) := by
        rw [ho.cellAt (l + k) (by omega)]
        simp only [u8s, List.getD_eq_getElem?_getD, List.getElem?_map]
        rw [List.getElem?_eq_getElem (by omega)]
        rfl
      have hfro : wr.frozen? ⟨g, l + k, none⟩ = false := ho.frozenAt (l + k)
      have hR' := wrR_step hv hl hg hlt
      clear ho
      have hpw : (2 : Int) ^ (8 * k) = 256 ^ k := pow8 k
      go_wp2
      go_roundw
      case rel => exact ⟨k + 1, by omega, by go_num, hR'⟩
      case measure => simp [intOf]; omega
    · obtain rfl : k = 4 := by omega
      go_wp2
      go_end0
      exact ⟨rfl, hv⟩

theorem or_u32_nat (a b : Nat) (ha : a < 4294967296) (hb : b < 4294967296) : bits .or .u32 (a : Int) (b : Int) = ((a ||| b : Nat) : Int) := by
  have h : a ||| b < 2 ^ 32 := Nat.or_lt_two_pow ha hb
  have e1 : (a : Int) = iu (BitVec.ofNat 32 a) := by unfold iu; rw [BitVec.toNat_ofNat, Nat.mod_eq_of_lt ha]
  have e2 : (b : Int) = iu (BitVec.ofNat 32 b) := by unfold iu; rw [BitVec.toNat_ofNat, Nat.mod_eq_of_lt hb]
  rw [e1, e2, or_u32]
  unfold iu
  rw [BitVec.toNat_or, BitVec.toNat_ofNat, BitVec.toNat_ofNat, Nat.mod_eq_of_lt ha, Nat.mod_eq_of_lt hb]
theorem or_comm32 (a b : Int) : bits .or .u32 a b = bits .or .u32 b a := by simp only [bits, BitVec.or_comm]
theorem pow_le3 (k : Nat) (h : k ≤ 3) : (256 : Int) ^ k ≤ 16777216 := by
  have : k = 0 ∨ k = 1 ∨ k = 2 ∨ k = 3 := by omega
  rcases this with rfl | rfl | rfl | rfl <;> decide
theorem read_bd {cs : List Int} (hx : IsBytes cs) {k : Nat} (hk : k ≤ 3) : 0 ≤ cs[k]?.getD 0 * 256 ^ k ∧ cs[k]?.getD 0 * 256 ^ k ≤ 4278190080 := by
  have hc := byte_at hx k
  have hp := pow_le3 k hk
  have hp0 : (0 : Int) < 256 ^ k := Int.pow_pos (by decide)
  generalize cs[k]?.getD 0 = c at *
  generalize (256 : Int) ^ k = q at *
  have h1 : c * q ≤ 255 * q := Int.mul_le_mul_of_nonneg_right hc.2 (Int.le_of_lt hp0)
  have h0 : 0 ≤ c * q := Int.mul_nonneg hc.1 (Int.le_of_lt hp0)
  omega
theorem read_step (cs : List Int) (k : Nat) (hk : k ≤ 3) (hx : IsBytes cs) (h : k < cs.length) :
    bits .or .u32 (num (cs.take k)) (cs[k]?.getD 0 * 256 ^ k) = num (cs.take (k + 1)) := by
  have hc := byte_at hx k
  have hb := read_bd hx hk
  have hlen : (cs.take k).length = k := by simp; omega
  have hn := num_bd (cs.take k) (isBytes_part hx 0 k)
  have ht := take_drop_snoc cs 0 k (by omega)
  simp only [List.drop_zero, Nat.zero_add] at ht
  rw [ht, num_snoc]
  rw [hlen] at hn ⊢
  have hp := pow_le3 k hk
  generalize cs[k]?.getD 0 = c at *
  generalize num (cs.take k) = q at *
  obtain ⟨d, rfl⟩ := Int.eq_ofNat_of_zero_le hc.1
  obtain ⟨m, rfl⟩ := Int.eq_ofNat_of_zero_le hn.1
  have e : ((d : Int) * 256 ^ k) = ((d * 2 ^ (8 * k) : Nat) : Int) := by
    rw [Int.natCast_mul, Int.natCast_pow]
    rw [← pow8]
    rfl
  have e2 : ((2 ^ (8 * k) : Nat) : Int) = 256 ^ k := by rw [← pow8]; simp
  rw [e] at hb ⊢
  rw [or_comm32, or_u32_nat _ _ (by omega) (by omega), nat_join (8 * k) (d * 2 ^ (8 * k)) m (Nat.mul_mod_left _ _) (by omega)]
  omega
set_option maxHeartbeats 400000 in
theorem read_walk (a : Option Addr) (c : Nat) (cs : List Int) (w : World) (B : Nat) (hr : Rd w B a 4 (u8s cs)) (hx : IsBytes cs) :
    Calls Try.prog 18 #[.slice a 4 c] w fun e w' => e = .returned (.int .u32 (num cs)) ∧ w = w' := by
  obtain ⟨hr1, h0 | ⟨g, o, rfl, _, hc⟩⟩ := hr
  · omega
  have hlen : cs.length = 4 := by rw [← hr1]; exact (u8s_length cs).symm
  have HC := Lib.hid hc
  have HX := Lib.hid hx
  have HL := Lib.hid hlen
  clear hx hlen hr1 hc
  go_enter Try.func18, Try.ntmps18
  go_wp2
  go_loop [3, 8] (fun x i => ∃ k : Nat, k ≤ 4 ∧ i = .int .i64 k ∧ x = .int .u32 (num (cs.take k))) (fun _ i => 4 - (intOf i).toNat)
  case atStart => exact ⟨0, Nat.zero_le _, rfl, rfl⟩
  case round =>
    obtain ⟨k, hk, rfl, rfl⟩ := hrel
    by_cases hlt : k < 4
    · have hcell : w.cell? ⟨g, o + k, none⟩ = some (.int .u8 (cs[k]?.getD 0)) := HC.out k _ (by simp [u8s, show k < cs.length by rw [HL.out]; omega])
      have hby := byte_at HX.out k
      have hbd := read_bd HX.out (show k ≤ 3 by omega)
      have hpw : (2 : Int) ^ (8 * k) = 256 ^ k := pow8 k
      have hst := read_step cs k (by omega) HX.out (by rw [HL.out]; omega)
      go_wp2
      go_round
      case rel => exact ⟨k + 1, by omega, by go_num, by rw [Int.emod_eq_of_lt hbd.1 (by omega), hst]⟩
      case measure => simp [intOf]; omega
    · obtain rfl : k = 4 := by omega
      go_wp2
      go_ret
      exact ⟨ret_int (by rw [List.take_of_length_le (by rw [HL.out]; omega)]), rfl⟩

/-! ### Seal -/
theorem replicate_u8 (n : Nat) : List.replicate n (Value.int .u8 0) = u8s (List.replicate n 0) := by simp [u8s]
theorem heap_made (w : World) (n : Nat) (e : TypeId) : (w.alloc (.cells (madeCells #[.int .u8 0] n) e)).heap[w.heap.size]? = some (.cells (u8s (List.replicate n 0)).toArray e (0, 0)) := by
  rw [heap_alloc_new, ← replicate_u8, ← toList_madeCells_one]
theorem own_row {w : World} {B g n : Nat} {e : TypeId} {xs : List Int} (hg : w.heap[g]? = some (.cells (u8s xs).toArray e (0, 0))) (hB : B ≤ g) (hn : xs.length = n) (hm : n ≤ maxLen) :
    w.ownsRow B e 1 (.slice (some ⟨g, 0, none⟩) n n) n (u8s xs) := by
  have hl : (u8s xs).length = n := by rw [u8s_length, hn]
  refine ⟨by omega, .inr ⟨g, n, _, rfl, hB, hg, Nat.le_refl _, hm, by simp [hl], ?_⟩⟩
  simp [List.take_of_length_le, hl]
theorem splice_head (xs : List Int) (n : Nat) : splice (u8s (List.replicate n 0)) 0 (u8s xs) = u8s (xs ++ List.replicate (n - xs.length) 0) := by
  unfold splice
  rw [List.take_zero, List.nil_append, u8s_append, u8s_length, Nat.zero_add]
  simp [u8s]
theorem info_u8' : (Try.prog.info? 5).map (·.size) = some 1 := by kernel_rfl
theorem sealed_len (xs : List Int) (l : Nat) (h : xs.length = l) (n : Int) : (xs ++ le n 4).length = l + 4 := by rw [List.length_append, le_length, h]

set_option maxHeartbeats 800000 in
theorem seal_walk (a : Option Addr) (l c : Nat) (xs : List Int) (w : World) (hr : Rd w w.heap.size a l (u8s xs)) (hx : IsBytes xs) (hl : l ≤ 1000000) :
    Calls Try.prog 16 #[.slice a l c] w fun e w' =>
      ∃ a' c', e = .returned (.slice a' (l + 4) c') ∧ Rd w' w'.heap.size a' (l + 4) (u8s (xs ++ le (iu (sum xs)) 4)) ∧ l + 4 ≤ c' ∧ c' ≤ maxLen ∧ Below w.heap.size w w' := by
  have hlen : xs.length = l := by rw [← hr.1]; exact (u8s_length xs).symm
  have HX := Lib.hid hx
  have HL := Lib.hid hlen
  have hmk := run_make_row' (P := Try.prog) 22 5 (.int .u8 0) 1 Try.underlying22 info_u8 rfl .i64 .i64 (l + 4) (by omega) (by omega)
  have e4 : ((l + 4 : Nat) : Int) = (l : Int) + 4 := by omega
  rw [e4] at hmk
  have hbd : Below w.heap.size w (w.alloc (.cells (madeCells #[.int .u8 0] (l + 4)) 5)) := (Below.refl _ _).alloc (Nat.le_refl _) _
  have hx0 := hr.far hbd
  have hg0 := heap_made w (l + 4) 5
  have hs := splice_head xs (l + 4)
  rw [hlen, Nat.add_sub_cancel_left] at hs
  clear hx hlen
  go_enter Try.func16, Try.ntmps16
  go_wp2_with (with_reducible refine wpList_copy_splice (o := ⟨some 10, _, _, _, _, _⟩) rfl (.tmp 8) (.tmp 9) _ _ rfl 5 Try.underlying22 info_u8' (some ⟨w.heap.size, 0, none⟩) a (l + 4) (l + 4) l c rfl rfl w.heap.size 0 (u8s (List.replicate (l + 4) 0)) 5 hg0 (u8s xs) ?c1 ?c2 ?c3 (u8s_one _) w.heap.size w hbd (Nat.le_refl _) ?_)
  case c1 => rw [u8s_length, HL.out]; exact (Nat.min_eq_left (by omega)).symm
  case c2 =>
    intro h0
    obtain ⟨_, h1 | ⟨g, o, rfl, _, hc⟩⟩ := hx0
    · rw [u8s_length, HL.out] at h0; omega
    · exact ⟨_, rfl, fun j u hu => by rw [Addr.add_lit]; exact hc j u hu⟩
  case c3 => rw [u8s_length, u8s_length, List.length_replicate, HL.out]; omega
  intro w2 hg2 hb2
  have hg2' := hg2.out
  have ho := own_row (n := l + 4) hg2' (Nat.le_refl _) (by rw [List.length_append, HL.out]; rfl) (by unfold maxLen; omega)
  have hx2 := (hr.far hb2).up hb2.size
  clear hg2 hg2' hg0 hx0 hbd hmk hs e4
  go_wp2_with fail
  go_region_with (first
    | (go_at_call 12; refine (sum_walk a l c xs _ ?_ HX.out (by omega)).mono ?_; exact hx2; rintro e w' ⟨rfl, rfl⟩)
    | (go_at_call 20; refine (write_walk w.heap.size w.heap.size l xs [0, 0, 0, 0] (sum xs) _ HL.out rfl (Nat.le_refl _) hl ?_).mono ?_; exact ho; rintro e w' ⟨rfl, hb3, ys, hy, ho3⟩))
  all_goals
    obtain rfl : ys = [] := List.eq_nil_of_length_eq_zero hy
    rw [List.append_nil] at ho3
    obtain ⟨a', c', e', hc1, hc2, hr3⟩ := Rd.own ho3
    cases e'
    clear ho3 ho hx2 hr
    go_wp2
    go_ret
    exact ⟨_, _, rfl, hr3, hc1, hc2, hb2.trans ((Below.refl _ _).drew.trans hb3)⟩
end Go.Proofs.Ytpbjpfoomdkcpaa
