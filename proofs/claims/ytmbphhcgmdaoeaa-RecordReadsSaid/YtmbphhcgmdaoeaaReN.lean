/- What is proved: flumeref05's Read answers as the spec says. -/
import Derived.Test.YtmbphhcgmdaoeaaReO
import Derived.Test.YtmbphhcgmdaoeaaRvQ
import Derived.Test.YtmbphhcgmdaoeaaRvR
import Derived.Deep.RegionLaw
namespace Go.Proofs.Ytmbphhcgmdaoeaa
open Go.RowKit

theorem num_one (x : Int) : num [x] = x := by simp [num]
theorem byte_5 {xs : List Int} (h : 5 ≤ xs.length) : (cutN 1 (cutN 3 xs).2).1 = xs.getD 3 0 ∧ (cutN 1 (cutN 1 (cutN 3 xs).2).2).1 = xs.getD 4 0 ∧ (cutN 3 xs).1 = num ((xs.drop 0).take 3) ∧ (cutN 1 (cutN 1 (cutN 3 xs).2).2).2 = xs.drop 5 := by
  match xs, h with
  | a :: b :: c :: d :: e :: t, _ => simp [cutN, num_one]
theorem wr_at {xs : List Int} (k : Nat) (h : 5 + 2 * k + 2 ≤ xs.length) : wrStep k (xs.drop (5 + 2 * k)) = (⟨xs.getD (5 + 2 * k) 0, xs.getD (6 + 2 * k) 0⟩, xs.drop (5 + 2 * (k + 1))) := by
  have e1 : xs.drop (5 + 2 * k) = xs.getD (5 + 2 * k) 0 :: xs.drop (6 + 2 * k) := by
    rw [List.drop_eq_getElem_cons (by omega), List.getD_eq_getElem?_getD, List.getElem?_eq_getElem (by omega), show 5 + 2 * k + 1 = 6 + 2 * k by omega]; rfl
  have e2 : xs.drop (6 + 2 * k) = xs.getD (6 + 2 * k) 0 :: xs.drop (5 + 2 * (k + 1)) := by
    rw [List.drop_eq_getElem_cons (by omega), List.getD_eq_getElem?_getD, List.getElem?_eq_getElem (by omega), show 6 + 2 * k + 1 = 5 + 2 * (k + 1) by omega]; rfl
  rw [e1, e2]
  simp [wrStep, cutN, num_one]
theorem row_at {xs : List Int} : ∀ k, 5 + 2 * k ≤ xs.length → (rowF wrStep k (xs.drop 5)).2 = xs.drop (5 + 2 * k)
  | 0, _ => rfl
  | k + 1, h => by
    unfold rowF
    rw [row_at k (by omega), wr_at k (by omega)]
theorem row_next {xs : List Int} (k : Nat) (h : 5 + 2 * k + 2 ≤ xs.length) : (rowF wrStep (k + 1) (xs.drop 5)).1 = (rowF wrStep k (xs.drop 5)).1 ++ [⟨xs.getD (5 + 2 * k) 0, xs.getD (6 + 2 * k) 0⟩] := by
  rw [rowF, row_at k (by omega), wr_at k h]
section
variable {P : Program}
theorem wp_append_base {w : World} {o : Oper} {a : Act} {K : Act → World → Prop} {Q : Exit → Act → World → Prop} (s x : Operand) (t : TypeId)
    (ho : o.op = .call { callee := .builtin .append, args := #[s, x], argTypes := #[t, t] })
    (base : Nat) (e : TypeId) (i : TypeInfo) (z : Value) (size bytes : Nat) (ht : P.underlying t = some (.slice e)) (hi : P.info? e = some i) (hz : i.zero = some z)
    (hsize : i.size = size) (hby : i.bytes = bytes) (hzs : z.cells.size = size) (hsz : 0 < size) (v : Value) (n : Nat) (xs : List Value) (hs : a.eval s = v) (hown : w.ownsRow base e size v n xs)
    (ad : Addr) (m c : Nat) (news : List Value) (hx : a.eval x = .slice (some ad) m c) (hl : news.length = m * size) (hnews : ∀ j u, news[j]? = some u → w.cell? (ad.add j) = some u) (h1 : ∀ u ∈ news, u.oneCell' = true)
    (h63 : n + m ≤ maxLen) (hbytes : (n + m) * bytes ≤ 140737488355328) (hbase : base ≤ w.heap.size)
    (h : ∀ v' w', w'.ownsRow base e size v' (n + m) (xs ++ news) → w.grownBy w' v.ownBlock → K (a.put o.dst v') w') : o.wp P a w K Q := by
  obtain ⟨v', w', hrun, r1, r2, _⟩ := run_append_own_at (P := P) w base t o.type e i z size bytes ht hi hz hsize hby hzs hsz v n xs hown ad m c news hl hnews h1 h63 hbytes hbase
  unfold Oper.wp execOp
  simp only [ho, resolve, invoke, builtin, Sem.run_bind, Sem.run_pure, Result.andThen_ok, List.map_toArray, List.map_cons, List.map_nil, hs, hx, hrun]
  exact h v' w' r1 r2
theorem step_append_base {w : World} {ops : Array Oper} {o : Oper} {a : Act} {K : Act → World → Prop} {Q : Exit → Act → World → Prop} {E : Prop} (hgd : o.guard = none) (s x : Operand) (t : TypeId)
    (ho : o.op = .call { callee := .builtin .append, args := #[s, x], argTypes := #[t, t] })
    (base : Nat) (e : TypeId) (i : TypeInfo) (z : Value) (size bytes : Nat) (ht : P.underlying t = some (.slice e)) (hi : P.info? e = some i) (hz : i.zero = some z)
    (hsize : i.size = size) (hby : i.bytes = bytes) (hzs : z.cells.size = size) (hsz : 0 < size) (v : Value) (n : Nat) (xs : List Value) (hs : a.eval s = v) (hown : w.ownsRow base e size v n xs)
    (ad : Addr) (m c : Nat) (news : List Value) (hx : a.eval x = .slice (some ad) m c) (hl : news.length = m * size) (hnews : ∀ j u, news[j]? = some u → w.cell? (ad.add j) = some u) (h1 : ∀ u ∈ news, u.oneCell' = true)
    (h63 : n + m ≤ maxLen) (hbytes : (n + m) * bytes ≤ 140737488355328) (hbase : base ≤ w.heap.size)
    (h : ∀ v' w', w'.ownsRow base e size v' (n + m) (xs ++ news) → w.grownBy w' v.ownBlock → K (a.put o.dst v') w') :
    if Region.wanted o (yielded ops a.tmps) = true then Oper.wp P o a w K Q else E := by
  have hw : Region.wanted o (yielded ops a.tmps) = true := by simp [Region.wanted, hgd]
  rw [if_pos hw]
  exact wp_append_base s x t ho base e i z size bytes ht hi hz hsize hby hzs hsz v n xs hs hown ad m c news hx hl hnews h1 h63 hbytes hbase h
end
set_option maxRecDepth 100000 in
set_option maxHeartbeats 3200000 in
theorem rread_spec : ReadSpec 28 := by
  intro v xs w h hx hl
  obtain ⟨a, c, rfl, hnc, hcm, hr⟩ := id h
  obtain ⟨W1, E1, B1, X1, S1⟩ := Blk.new w 24 #[.int .i64 0, .bool false, .slice none 0 0]
  have q0 : W1.cell? ⟨w.heap.size, 0, none⟩ = some (.int .i64 0) := X1.cell 0
  have q1 : W1.cell? ⟨w.heap.size, 1, none⟩ = some (.bool false) := X1.cell 1
  have q2 : W1.cell? ⟨w.heap.size, 2, none⟩ = some (.slice none 0 0) := X1.cell 2
  have f0 : W1.frozen? ⟨w.heap.size, 0, none⟩ = false := X1.free 0
  have f1 : W1.frozen? ⟨w.heap.size, 1, none⟩ = false := X1.free 1
  have f2 : W1.frozen? ⟨w.heap.size, 2, none⟩ = false := X1.free 2
  have hend : Below w.heap.size w (((W1.setCell ⟨w.heap.size, 0, none⟩ (.int .i64 0)).setCell ⟨w.heap.size, 1, none⟩ (.bool false)).setCell ⟨w.heap.size, 2, none⟩ (.slice none 0 0)) := ((B1.setCell (Nat.le_refl _) _).setCell (Nat.le_refl _) _).setCell (Nat.le_refl _) _
  have hr1 := hr.far B1
  by_cases h5 : xs.length < 5
  · have h5' : (xs.length : Int) < 5 := by omega
    obtain ⟨m1, m2⟩ := lenR_no hx (.inl h5)
    go_enter Try.func28, Try.ntmps28
    go_wp2
    exact bodyPost_ret (v := .tuple #[.agg #[.int .i64 0, .bool false, .slice none 0 0], .int .i64 50]) (by simp [results, Try.results28, go_sem, q0, q1, q2]) rfl ⟨.agg #[.int .i64 0, .bool false, .slice none 0 0], by first | rfl | rw [m1], by first | exact ⟨_, rfl, Sl.nil _ _ _ _⟩ | (rw [m2]; exact ⟨_, rfl, Sl.nil _ _ _ _⟩), hend⟩
  have h5' : ((xs.length : Int) < 5) = False := eq_false (by omega)
  obtain ⟨t3, t4, t0, t5⟩ := byte_5 (xs := xs) (by omega)
  obtain ⟨g, o, rfl, _, _, _⟩ := hr1.addr (by omega)
  have b3 : W1.cell? ⟨g, o + 3, none⟩ = some (.int .u8 (xs.getD 3 0)) := by_cells hr1 (by omega)
  have b4 : W1.cell? ⟨g, o + 4, none⟩ = some (.int .u8 (xs.getD 4 0)) := by_cells hr1 (by omega)
  have d3 := bd1 (cutN_bytes (m := 3) hx)
  have d4 := bd1 (cutN_bytes (m := 1) (cutN_bytes (m := 3) hx))
  rw [t3] at d3
  rw [t4] at d4
  have u3 : (3 : Int) < (xs.length : Int) := by omega
  have u4 : (4 : Int) < (xs.length : Int) := by omega
  by_cases hy : 1 < xs.getD 3 0
  · obtain ⟨m1, m2⟩ := lenR_no hx (.inr (.inl (by rw [t3]; exact hy)))
    generalize xs.getD 3 0 = y at *
    go_enter Try.func28, Try.ntmps28
    go_wp2
    exact bodyPost_ret (v := .tuple #[.agg #[.int .i64 0, .bool false, .slice none 0 0], .int .i64 50]) (by simp [results, Try.results28, go_sem, q0, q1, q2]) rfl ⟨.agg #[.int .i64 0, .bool false, .slice none 0 0], by first | rfl | rw [m1], by first | exact ⟨_, rfl, Sl.nil _ _ _ _⟩ | (rw [m2]; exact ⟨_, rfl, Sl.nil _ _ _ _⟩), hend⟩
  have hy' : (1 < xs.getD 3 0) = False := eq_false hy
  obtain ⟨n, hn⟩ := Int.eq_ofNat_of_zero_le d4.1
  by_cases hfit : xs.length = 5 + 2 * n
  rotate_left
  · obtain ⟨m1, m2⟩ := lenR_no hx (.inr (.inr (by rw [t4, hn, Int.toNat_natCast]; exact hfit)))
    have hq : ((xs.length : Int) != 5 + 2 * (n : Int)) = true := by simp; omega
    have hq' : ((xs.length : Int) == 5 + 2 * (n : Int)) = false := beq_eq_false_iff_ne.2 (by omega)
    rw [hn] at b4
    generalize xs.getD 3 0 = y at *
    go_enter Try.func28, Try.ntmps28
    go_wp2
    exact bodyPost_ret (v := .tuple #[.agg #[.int .i64 0, .bool false, .slice none 0 0], .int .i64 50]) (by simp [results, Try.results28, go_sem, q0, q1, q2]) rfl ⟨.agg #[.int .i64 0, .bool false, .slice none 0 0], by first | rfl | rw [m1], by first | exact ⟨_, rfl, Sl.nil _ _ _ _⟩ | (rw [m2]; exact ⟨_, rfl, Sl.nil _ _ _ _⟩), hend⟩
  have hb : recB (lenR xs) = xs := lenR_back hx (by omega) (by rw [t3]; omega) (by rw [t4, hn, Int.toNat_natCast]; exact hfit)
  obtain ⟨m1, m2⟩ := lenR_yes hx hb
  have hlen : lenR xs = ⟨num ((xs.drop 0).take 3), xs.getD 3 0 == 1, (rowF wrStep n (xs.drop 5)).1⟩ := by
    unfold lenR
    rw [t3, t4, t5, hn, Int.toNat_natCast, t0]
  have hin := lenR_in hx
  have hq : ((xs.length : Int) != 5 + 2 * (n : Int)) = false := by simp; omega
  have hq' : ((xs.length : Int) == 5 + 2 * (n : Int)) = true := by rw [beq_iff_eq]; omega
  have hfi : (xs.length : Int) = 5 + 2 * (n : Int) := by omega
  rw [hn] at b4
  have n1 := rget_ok (some ⟨g, o, none⟩) xs.length c xs 0 3 W1 (by decide) (by decide) (Rd_of (hr1.wide (Nat.le_refl _) B1.size)) hx hl (by omega)
  rw [List.drop_zero] at n1 hlen
  generalize num (xs.take 3) = p at *
  obtain ⟨W3, E3, B3, X3, S3⟩ := Blk.new W1 24 #[.int .i64 p, .bool (xs.getD 3 0 == 1), .slice none 0 0]
  have HE := Lib.hid E3
  have hL := Lib.hid hlen
  have hFIT := Lib.hid hfi
  obtain ⟨i0, hi, hz0, hz1, hz2⟩ := info_parts info_wr'
  have HS := Lib.hid S1
  clear S1 E3 hlen t0 t3 t4 t5 hb hfi hfit
  generalize xs.getD 3 0 = y at *
  go_enter Try.func28, Try.ntmps28
  go_wp2_with fail
  refine n1.mono ?_
  rintro e w' ⟨rfl, rfl⟩
  go_wp2_with fail
  rw [HE.out]
  generalize (y == 1) = yb at *
  go_loopw [7] (fun i wr => ∃ k : Nat, k ≤ n ∧ i = .int .i64 k ∧ (∃ v', Blk wr W1.heap.size #[.int .i64 p, .bool yb, v'] ∧ wr.ownsRow (W1.heap.size + 1) 56 2 v' k (wrC (rowF wrStep k (xs.drop 5)).1)) ∧ Below W1.heap.size W3 wr) (fun i _ => n - (intOf i).toNat)
  case atStart => exact ⟨0, Nat.zero_le _, rfl, ⟨_, X3, World.ownsRow_nil _ _ _ 2⟩, Below.refl _ _⟩
  case round =>
    obtain ⟨k, hk, rfl, ⟨v', hB, ho⟩, hbr⟩ := hrel
    have hb0 : Below W1.heap.size W1 wr := B3.trans hbr
    have hrw := hr1.far (hb0.mono B1.size)
    have y4 : wr.cell? ⟨g, o + 4, none⟩ = some (.int .u8 n) := (hb0.cell (p := ⟨g, o + 4, none⟩) (by have := HS.out; show g < W1.heap.size; omega)).trans b4
    by_cases hlt : k < n
    · obtain ⟨a', c', rfl, _, _, _⟩ := Rg.own ho
      have y5 : wr.cell? ⟨g, o + (5 + 2 * k), none⟩ = some (.int .u8 (xs.getD (5 + 2 * k) 0)) := by_cells hrw (by have := hFIT.out; omega)
      have y6 : wr.cell? ⟨g, o + (6 + 2 * k), none⟩ = some (.int .u8 (xs.getD (6 + 2 * k) 0)) := by_cells hrw (by have := hFIT.out; omega)
      have z2 : wr.cell? ⟨W1.heap.size, 2, none⟩ = some (.slice a' k c') := hB.cell 2
      have hnx := Lib.hid (row_next (xs := xs) k (by have := hFIT.out; omega))
      have d5 := byte_at hx (5 + 2 * k)
      have d6 := byte_at hx (6 + 2 * k)
      rw [← List.getD_eq_getElem?_getD] at d5 d6
      have l1 : 5 + 2 * (k : Int) < (xs.length : Int) := by have := hFIT.out; omega
      have l2 : 6 + 2 * (k : Int) < (xs.length : Int) := by have := hFIT.out; omega
      have l3 : (0 : Int) ≤ 5 + 2 * (k : Int) := by omega
      have l4 : (0 : Int) ≤ 6 + 2 * (k : Int) := by omega
      have j1 : (5 + 2 * (k : Int)).toNat = 5 + 2 * k := by omega
      have j2 : (6 + 2 * (k : Int)).toNat = 6 + 2 * k := by omega
      have e1 : IntKind.i64.wrap (2 * (k : Int)) = 2 * (k : Int) := IntWalk.i64_in _ (by omega)
      have e2 : IntKind.i64.wrap (5 + 2 * (k : Int)) = 5 + 2 * (k : Int) := IntWalk.i64_in _ (by omega)
      have e3 : IntKind.i64.wrap (6 + 2 * (k : Int)) = 6 + 2 * (k : Int) := IntWalk.i64_in _ (by omega)
      have e4 : IntKind.i64.wrap (xs.getD (5 + 2 * k) 0) = xs.getD (5 + 2 * k) 0 := IntWalk.i64_in _ (by omega)
      have e5 : IntKind.i64.wrap (xs.getD (6 + 2 * k) 0) = xs.getD (6 + 2 * k) 0 := IntWalk.i64_in _ (by omega)
      have hki : (k : Int) < (n : Int) := by omega
      have hBl := hB.lt
      have hBs : W1.heap.size ≤ wr.heap.size := by omega
      generalize xs.getD (5 + 2 * k) 0 = x5 at *
      generalize xs.getD (6 + 2 * k) 0 = x6 at *
      have HO := Lib.hid ho
      clear ho
      go_wp2_with fail
      go_region_law (first
        | (refine step_append_base (by rfl) (.tmp 49) (.tmp 65) _ (by rfl) (W1.heap.size + 1) _ i0 _ 2 16 Try.underlying22 hi hz0 hz1 hz2 rfl (by decide) _ k _ (by rfl) (by first | exact HO.out.alloc _ | exact (show (wr.drew).ownsRow _ _ _ _ _ _ from HO.out).alloc _) ⟨wr.heap.size, 0, none⟩ 1 1 [.int .i64 x5, .int .i64 x6] (by rfl) (by rfl) (fun j u hu => by rw [Addr.add_lit, Nat.zero_add]; first | exact (cell_of_row _ _ j _ _ _ (heap_alloc_new wr _)).trans (by simpa using hu) | exact (cell_of_row _ _ j _ _ _ (heap_alloc_new wr.drew _)).trans (by simpa using hu)) (by simp [Value.oneCell']) (by unfold maxLen; omega) (by omega) (by simp; omega) ?_; intro v5 w5 o5 g5; obtain ⟨g6, c6, rfl, _, _⟩ := own_at o5 (by omega); have F5 : Blk w5 W1.heap.size #[.int .i64 p, .bool yb, .slice a' k c'] := Blk.same (hB.far (B := wr.heap.size) ((Below.refl wr.heap.size wr).alloc (Nat.le_refl _) (.cells #[.int .i64 x5, .int .i64 x6] 56)) hBl) (g5.block W1.heap.size (by simp; omega) (fun e => by have := HO.out.lt _ e.symm; omega)); have s0 : w5.cell? ⟨W1.heap.size, 2, none⟩ = some (.slice a' k c') := F5.cell 2; have s1 : w5.frozen? ⟨W1.heap.size, 2, none⟩ = false := F5.free 2; have b5 : Below W1.heap.size W3 w5 := (by first | exact (hbr.alloc hBs _).grown g5 (by simp; omega) (fun k hk => by have := HO.out.lt k hk; omega) | exact (hbr.alloc hBs _).drew.grown g5 (by simp; omega) (fun k hk => by have := HO.out.lt k hk; omega) | exact (hbr.drew.alloc hBs _).grown g5 (by simp; omega) (fun k hk => by have := HO.out.lt k hk; omega)))
        | fail)
      all_goals
        have F6 : Blk (w5.setCell ⟨W1.heap.size, 2, none⟩ (.slice (some ⟨g6, 0, none⟩) (k + 1) c6)) W1.heap.size #[.int .i64 p, .bool yb, .slice (some ⟨g6, 0, none⟩) (k + 1) c6] := F5.set 2 _
        have o6 : (w5.setCell ⟨W1.heap.size, 2, none⟩ (.slice (some ⟨g6, 0, none⟩) (k + 1) c6)).ownsRow (W1.heap.size + 1) 56 2 (.slice (some ⟨g6, 0, none⟩) (k + 1) c6) (k + 1) (wrC (rowF wrStep (k + 1) (xs.drop 5)).1) := by
          rw [hnx.out, show wrC ((rowF wrStep k (xs.drop 5)).1 ++ [⟨x5, x6⟩]) = wrC (rowF wrStep k (xs.drop 5)).1 ++ [.int .i64 x5, .int .i64 x6] by simp [wrC, Wr.cells]]
          exact own_setS o5 (show W1.heap.size < W1.heap.size + 1 by omega) _
        have b6 := b5.setCell (p := ⟨W1.heap.size, 2, none⟩) (Nat.le_refl _) (.slice (some ⟨g6, 0, none⟩) (k + 1) c6)
        go_wp2
        go_roundw
        case rel => exact ⟨k + 1, by omega, by go_num, ⟨_, F6, o6⟩, b6⟩
        case measure => simp [intOf]; omega
    · obtain rfl : k = n := by omega
      obtain ⟨a', c', e', h61, h62, h63⟩ := Rg.own ho
      subst e'
      have hrl := rowF_length wrStep k (xs.drop 5)
      have hV : RecV wr (W1.heap.size + 1) wr.heap.size (.agg #[.int .i64 p, .bool yb, .slice a' k c']) (lenR xs) := by
        rw [hL.out]
        exact ⟨_, rfl, a', c', by rw [hrl], by rw [hrl]; exact h61, h62, by rw [hrl]; exact h63⟩
      have n2 := rmay_spec _ (lenR xs) wr (hV.wide (Nat.zero_le _) (Nat.le_refl _)) hin
      have c0 : wr.cell? ⟨W1.heap.size, 0, none⟩ = some (.int .i64 p) := hB.cell 0
      have c1 : wr.cell? ⟨W1.heap.size, 1, none⟩ = some (.bool yb) := hB.cell 1
      have c2 : wr.cell? ⟨W1.heap.size, 2, none⟩ = some (.slice a' k c') := hB.cell 2
      have XP := X1.far hb0 (by have := HS.out; omega)
      have bt : Below w.heap.size w wr := B1.trans (hb0.mono B1.size)
      have hPQ : w.heap.size < W1.heap.size := by have := HS.out; omega
      clear hL ho hrl h61 h62 h63 hin
      generalize lenR xs = r0 at *
      rcases hm : mayB r0 with _ | _
      · rw [hm] at n2
        rw [hm, if_neg (by decide)] at m1 m2
        have M1 := Lib.hid m1
        have M2 := Lib.hid m2
        clear m1 m2
        go_wp2_with fail
        refine n2.mono ?_
        rintro e w9 ⟨rfl, b9⟩
        have XP9 := XP.far b9 XP.lt
        have q0' : w9.cell? ⟨w.heap.size, 0, none⟩ = some (.int .i64 0) := XP9.cell 0
        have f0' : w9.frozen? ⟨w.heap.size, 0, none⟩ = false := XP9.free 0
        have q1' : w9.cell? ⟨w.heap.size, 1, none⟩ = some (.bool false) := XP9.cell 1
        have f1' : w9.frozen? ⟨w.heap.size, 1, none⟩ = false := XP9.free 1
        have q2' : w9.cell? ⟨w.heap.size, 2, none⟩ = some (.slice none 0 0) := XP9.cell 2
        have f2' : w9.frozen? ⟨w.heap.size, 2, none⟩ = false := XP9.free 2
        have hend9 : Below w.heap.size w (((w9.setCell ⟨w.heap.size, 0, none⟩ (.int .i64 0)).setCell ⟨w.heap.size, 1, none⟩ (.bool false)).setCell ⟨w.heap.size, 2, none⟩ (.slice none 0 0)) := (((bt.trans (b9.mono bt.size)).setCell (Nat.le_refl _) _).setCell (Nat.le_refl _) _).setCell (Nat.le_refl _) _
        clear n2 q0 q1 q2 f0 f1 f2
        go_wp2
        exact bodyPost_ret (v := .tuple #[.agg #[.int .i64 0, .bool false, .slice none 0 0], .int .i64 50]) (by simp [results, Try.results28, go_sem, q0', q1', q2']) rfl ⟨.agg #[.int .i64 0, .bool false, .slice none 0 0], by rw [M1.out], by rw [M2.out]; exact ⟨_, rfl, Sl.nil _ _ _ _⟩, hend9⟩
      · rw [hm] at n2
        rw [hm, if_pos rfl] at m1 m2
        have M1 := Lib.hid m1
        have M2 := Lib.hid m2
        clear m1 m2
        go_wp2_with fail
        refine n2.mono ?_
        rintro e w9 ⟨rfl, b9⟩
        have XP9 := XP.far b9 XP.lt
        have X9 := hB.far b9 hB.lt
        have t0' : w9.cell? ⟨W1.heap.size, 0, none⟩ = some (.int .i64 p) := X9.cell 0
        have t1' : w9.cell? ⟨W1.heap.size, 1, none⟩ = some (.bool yb) := X9.cell 1
        have t2' : w9.cell? ⟨W1.heap.size, 2, none⟩ = some (.slice a' k c') := X9.cell 2
        have q0' : w9.cell? ⟨w.heap.size, 0, none⟩ = some (.int .i64 0) := XP9.cell 0
        have f0' : w9.frozen? ⟨w.heap.size, 0, none⟩ = false := XP9.free 0
        have q1' : w9.cell? ⟨w.heap.size, 1, none⟩ = some (.bool false) := XP9.cell 1
        have f1' : w9.frozen? ⟨w.heap.size, 1, none⟩ = false := XP9.free 1
        have q2' : w9.cell? ⟨w.heap.size, 2, none⟩ = some (.slice none 0 0) := XP9.cell 2
        have f2' : w9.frozen? ⟨w.heap.size, 2, none⟩ = false := XP9.free 2
        have hend9 : Below w.heap.size w (((w9.setCell ⟨w.heap.size, 0, none⟩ (.int .i64 p)).setCell ⟨w.heap.size, 1, none⟩ (.bool yb)).setCell ⟨w.heap.size, 2, none⟩ (.slice a' k c')) := (((bt.trans (b9.mono bt.size)).setCell (Nat.le_refl _) _).setCell (Nat.le_refl _) _).setCell (Nat.le_refl _) _
        have hV9 := hV.far b9
        have hsz9 := b9.size
        clear n2 q0 q1 q2 f0 f1 f2 c0 c1 c2
        go_wp2
        refine bodyPost_ret (v := .tuple #[.agg #[.int .i64 p, .bool yb, .slice a' k c'], .int .i64 0]) (by simp [results, Try.results28, go_sem, q0', q1', q2']) rfl ⟨.agg #[.int .i64 p, .bool yb, .slice a' k c'], by rw [M1.out], ?_, hend9⟩
        rw [M2.out]
        obtain ⟨s9, e9, hs9⟩ := hV9
        refine ⟨s9, e9, (((hs9.set_low ?_ _).set_low ?_ _).set_low ?_ _).wide (by omega) (by simp; omega)⟩
        all_goals (show w.heap.size < W1.heap.size + 1; omega)
end Go.Proofs.Ytmbphhcgmdaoeaa
