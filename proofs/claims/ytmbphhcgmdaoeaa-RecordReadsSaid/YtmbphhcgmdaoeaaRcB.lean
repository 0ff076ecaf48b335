/- What is proved: bytes are read as a record, a state, just where they are the bytes of one that may be; no bytes of one begin another's. Nothing here speaks of the program. -/
import Derived.Test.YtmbphhcgmdaoeaaRcA
namespace Go.Proofs.Ytmbphhcgmdaoeaa
open Go.RowKit

theorem pWr_bwd (k : Nat) (xs : List Int) (x : Wr) (t : List Int) (hx : IsBytes xs) (h : pWr k xs = some (x, t)) : xs = wrE x ++ t := by
  unfold pWr at h
  rcases h1 : pNum 1 xs with _ | ⟨a, t1⟩
  · rw [h1] at h; cases h
  · rw [h1] at h
    simp only [Option.bind_some] at h
    obtain ⟨e1, _, _, b1, _⟩ := pNum_some hx h1
    rcases h2 : pNum 1 t1 with _ | ⟨b, t2⟩
    · rw [h2] at h; cases h
    · rw [h2] at h
      simp only [Option.bind_some] at h
      obtain ⟨e2, _, _, _, _⟩ := pNum_some b1 h2
      obtain ⟨rfl, rfl⟩ := Prod.mk.inj (Option.some.inj h)
      rw [e1, e2]
      unfold wrE
      simp
theorem pIt_bwd (k : Nat) (xs : List Int) (x : It) (t : List Int) (hx : IsBytes xs) (h : pIt k xs = some (x, t)) : xs = itE x ++ t := by
  unfold pIt at h
  rcases h1 : pNum 1 xs with _ | ⟨a, t1⟩
  · rw [h1] at h; cases h
  · rw [h1] at h
    simp only [Option.bind_some] at h
    obtain ⟨e1, _, _, b1, _⟩ := pNum_some hx h1
    rcases h2 : pNum 3 t1 with _ | ⟨b, t2⟩
    · rw [h2] at h; cases h
    · rw [h2] at h
      simp only [Option.bind_some] at h
      obtain ⟨e2, _, _, b2, _⟩ := pNum_some b1 h2
      rcases h3 : pNum 1 t2 with _ | ⟨c, t3⟩
      · rw [h3] at h; cases h
      · rw [h3] at h
        simp only [Option.bind_some] at h
        obtain ⟨e3, _, _, _, _⟩ := pNum_some b2 h3
        obtain ⟨rfl, rfl⟩ := Prod.mk.inj (Option.some.inj h)
        rw [e1, e2, e3]
        unfold itE
        simp
theorem pLn_bwd (f : Int) (k : Nat) (xs : List Int) (x : Ln) (t : List Int) (hx : IsBytes xs) (h : pLn f k xs = some (x, t)) : xs = lnE x ++ t := by
  unfold pLn at h
  rcases h1 : pNum 3 xs with _ | ⟨a, t1⟩
  · rw [h1] at h; cases h
  · rw [h1] at h
    simp only [Option.bind_some] at h
    obtain ⟨e1, _, _, b1, _⟩ := pNum_some hx h1
    rcases h2 : pNum 1 t1 with _ | ⟨b, t2⟩
    · rw [h2] at h; cases h
    · rw [h2] at h
      simp only [Option.bind_some] at h
      obtain ⟨e2, _, _, b2, _⟩ := pNum_some b1 h2
      rcases h3 : pNum 1 t2 with _ | ⟨c, t3⟩
      · rw [h3] at h; cases h
      · rw [h3] at h
        simp only [Option.bind_some] at h
        obtain ⟨e3, _, _, _, _⟩ := pNum_some b2 h3
        obtain ⟨rfl, rfl⟩ := Prod.mk.inj (Option.some.inj h)
        have hb : b % 16 + 16 * (b / 16) = b := by omega
        rw [e1, e2, e3]
        unfold lnE
        simp [hb]
theorem pLn_off (f : Int) (k : Nat) (xs : List Int) (x : Ln) (t : List Int) (h : pLn f k xs = some (x, t)) : x.off = f + (k : Int) := by
  unfold pLn at h
  rcases h1 : pNum 3 xs with _ | ⟨a, t1⟩
  · rw [h1] at h; cases h
  · rw [h1] at h
    simp only [Option.bind_some] at h
    rcases h2 : pNum 1 t1 with _ | ⟨b, t2⟩
    · rw [h2] at h; cases h
    · rw [h2] at h
      simp only [Option.bind_some] at h
      rcases h3 : pNum 1 t2 with _ | ⟨c, t3⟩
      · rw [h3] at h; cases h
      · rw [h3] at h
        simp only [Option.bind_some] at h
        obtain ⟨rfl, rfl⟩ := Prod.mk.inj (Option.some.inj h)
        rfl
theorem getD_at {α : Type} {l : List α} {i : Nat} {x d : α} (h : l[i]? = some x) : l.getD i d = x := by
  rw [List.getD_eq_getElem?_getD, h]
  rfl
theorem at_lt {α : Type} {l : List α} {i : Nat} {x : α} (h : l[i]? = some x) : i < l.length := (List.getElem?_eq_some_iff.1 h).1
theorem isBytes_flat {α : Type} (e : α → List Int) (he : ∀ x, IsBytes (e x)) (l : List α) : IsBytes (l.flatMap e) := by
  intro b hb
  obtain ⟨x, _, hx⟩ := List.mem_flatMap.1 hb
  exact he x b hx
theorem isBytes_wrE (x : Wr) : IsBytes (wrE x) := isBytes_append (isBytes_le _ _) (isBytes_le _ _)
theorem isBytes_itE (x : It) : IsBytes (itE x) := isBytes_append (isBytes_le _ _) (isBytes_append (isBytes_le _ _) (isBytes_le _ _))
theorem isBytes_lnE (x : Ln) : IsBytes (lnE x) := isBytes_append (isBytes_le _ _) (isBytes_append (isBytes_le _ _) (isBytes_le _ _))
theorem isBytes_recB (r : Rc) : IsBytes (recB r) := isBytes_append (isBytes_le _ _) (isBytes_append (isBytes_le _ _) (isBytes_append (isBytes_le _ _) (isBytes_flat _ isBytes_wrE _)))
theorem isBytes_partE (l : List Ln) (c : Int) : IsBytes (partE l c) := isBytes_append (isBytes_le _ _) (isBytes_append (isBytes_le _ _) (isBytes_append (isBytes_le _ _) (isBytes_flat _ isBytes_lnE _)))
theorem isBytes_stE (s : St) : IsBytes (stE s) := isBytes_append (isBytes_le _ _) (isBytes_append (isBytes_le _ _) (isBytes_append (isBytes_flat _ isBytes_itE _) (isBytes_append (isBytes_partE _ _) (isBytes_append (isBytes_partE _ _) (isBytes_partE _ _)))))

/-! ### records -/
theorem wrB_parts {l : List Wr} (h : wrB l = true) : l.length ≤ 4 ∧ ∀ (i : Nat) (x : Wr), l[i]? = some x → 0 ≤ x.key ∧ x.key < 24 ∧ 0 ≤ x.val ∧ x.val ≤ 255 := by
  obtain ⟨h1, h2⟩ := Bool.and_eq_true_iff.1 h
  refine ⟨of_decide_eq_true h1, fun i x hx => ?_⟩
  have := of_decide_eq_true (rowAll_get h2 (at_lt hx))
  rw [getD_at hx] at this
  exact ⟨this.1, this.2.1, this.2.2.1, this.2.2.2.1⟩
theorem mayB_parts {r : Rc} (h : mayB r = true) : 1 ≤ r.place ∧ r.place ≤ 1048575 ∧ wrB r.ws = true ∧ (r.yes = true ∨ r.ws.length = 0) := by
  unfold mayB at h
  simp only [Bool.and_eq_true, Bool.or_eq_true, decide_eq_true_eq] at h
  exact ⟨h.1.1.1, h.1.1.2, h.1.2, h.2⟩
theorem pRec_fwd {r : Rc} (h : mayB r = true) (t : List Int) : pRec (recB r ++ t) = some (r, t) := by
  obtain ⟨h1, h2, h3, _⟩ := mayB_parts h
  obtain ⟨h4, h5⟩ := wrB_parts h3
  have hm : pMany pWr 0 r.ws.length (r.ws.flatMap wrE ++ t) = some (r.ws, t) := by
    refine pMany_fwd r.ws 0 t fun i x t hx => ?_
    obtain ⟨q1, q2, q3, q4⟩ := h5 i x hx
    unfold pWr wrE
    rw [List.append_assoc, pNum_le 1 x.key _ q1 (by show x.key < 256; omega)]
    simp only [Option.bind_some]
    rw [pNum_le 1 x.val _ q3 (by show x.val < 256; omega)]
    rfl
  have hy : 0 ≤ yesN r.yes ∧ yesN r.yes ≤ 1 ∧ decide (yesN r.yes = 1) = r.yes := by
    unfold yesN
    rcases r.yes with _ | _ <;> decide
  unfold pRec recB
  simp only [List.append_assoc]
  rw [pNum_le 3 r.place _ (by omega) (by show r.place < 16777216; omega)]
  simp only [Option.bind_some]
  rw [pNum_le 1 (yesN r.yes) _ hy.1 (by show yesN r.yes < 256; omega)]
  simp only [Option.bind_some]
  rw [if_neg (by omega), pNum_le 1 (r.ws.length : Int) _ (by omega) (by show (r.ws.length : Int) < 256; omega)]
  simp only [Option.bind_some, Int.toNat_natCast]
  rw [hm]
  simp only [Option.bind_some, hy.2.2]
theorem pRec_bwd {r : Rc} {xs t : List Int} (hx : IsBytes xs) (h : pRec xs = some (r, t)) : xs = recB r ++ t := by
  unfold pRec at h
  rcases h1 : pNum 3 xs with _ | ⟨a, t1⟩
  · rw [h1] at h; cases h
  rw [h1] at h
  simp only [Option.bind_some] at h
  obtain ⟨e1, _, _, b1, _⟩ := pNum_some hx h1
  rcases h2 : pNum 1 t1 with _ | ⟨y, t2⟩
  · rw [h2] at h; cases h
  rw [h2] at h
  simp only [Option.bind_some] at h
  obtain ⟨e2, q1, q2, b2, _⟩ := pNum_some b1 h2
  by_cases hy : 1 < y
  · rw [if_pos hy] at h; cases h
  rw [if_neg hy] at h
  rcases h3 : pNum 1 t2 with _ | ⟨n, t3⟩
  · rw [h3] at h; cases h
  rw [h3] at h
  simp only [Option.bind_some] at h
  obtain ⟨e3, q3, q4, b3, _⟩ := pNum_some b2 h3
  rcases h4 : pMany pWr 0 n.toNat t3 with _ | ⟨l, t4⟩
  · rw [h4] at h; cases h
  rw [h4] at h
  simp only [Option.bind_some] at h
  obtain ⟨hl, e4⟩ := pMany_bwd pWr_bwd n.toNat 0 t3 t4 l b3 h4
  obtain ⟨rfl, rfl⟩ := Prod.mk.inj (Option.some.inj h)
  have hyy : yesN (decide (y = 1)) = y := by
    unfold yesN
    by_cases e : y = 1
    · rw [if_pos (decide_eq_true e), e]
    · rw [if_neg (by simpa using e)]; omega
  have hnn : (l.length : Int) = n := by omega
  unfold recB
  rw [hyy, hnn, e1, e2, e3, e4]
  simp
theorem readR_iff {xs : List Int} (hx : IsBytes xs) (r : Rc) : readR xs = some r ↔ mayB r = true ∧ recB r = xs := by
  unfold readR
  constructor
  · intro h
    rcases h1 : pRec xs with _ | ⟨q, t⟩
    · rw [h1] at h; cases h
    rw [h1] at h
    simp only [Option.bind_some] at h
    split at h
    · rename_i hc
      obtain ⟨rfl, hm⟩ := hc
      cases h
      have := pRec_bwd hx h1
      rw [List.append_nil] at this
      exact ⟨hm, this.symm⟩
    · cases h
  · rintro ⟨h1, h2⟩
    have := pRec_fwd h1 []
    rw [List.append_nil, h2] at this
    rw [this]
    simp [h1]
theorem rec_prefix {r r' : Rc} (h : mayB r = true) (h' : mayB r' = true) {t : List Int} (e : recB r' = recB r ++ t) : r = r' ∧ t = [] := by
  have h1 := pRec_fwd h t
  have h2 := pRec_fwd h' []
  rw [List.append_nil, e, h1] at h2
  obtain ⟨e1, e2⟩ := Prod.mk.inj (Option.some.inj h2)
  exact ⟨e1, e2⟩
theorem flatMap_len {α : Type} (e : α → List Int) (k : Nat) (he : ∀ x, (e x).length = k) (l : List α) : (l.flatMap e).length = l.length * k := by
  induction l with
  | nil => simp
  | cons x l ih => rw [List.flatMap_cons, List.length_append, he, ih, List.length_cons, Nat.add_mul]; omega
theorem wrE_len (x : Wr) : (wrE x).length = 2 := by unfold wrE; rw [List.length_append, le_length, le_length]
theorem itE_len (x : It) : (itE x).length = 5 := by unfold itE; simp [le_length]
theorem lnE_len (x : Ln) : (lnE x).length = 5 := by unfold lnE; simp [le_length]
theorem recB_len (r : Rc) : (recB r).length = 5 + 2 * r.ws.length := by
  unfold recB
  simp only [List.length_append, le_length, flatMap_len wrE 2 wrE_len]
  omega
theorem partE_len (l : List Ln) (c : Int) : (partE l c).length = 7 + 5 * l.length := by
  unfold partE
  simp only [List.length_append, le_length, flatMap_len lnE 5 lnE_len]
  omega
theorem stE_len (s : St) : (stE s).length = 25 + 5 * (s.items.length + s.l0.length + s.l1.length + s.l2.length) := by
  unfold stE
  simp only [List.length_append, le_length, flatMap_len itE 5 itE_len, partE_len]
  omega

/-! ### states -/
theorem lnsB_parts {l : List Ln} {pl cut : Int} (h : lnsB l pl cut = true) : l.length ≤ 16 ∧ 0 ≤ cut ∧ cut ≤ pl ∧ ∀ (i : Nat) (x : Ln), l[i]? = some x → 0 ≤ x.off ∧ x.off < 4194304 ∧ 1 ≤ x.place ∧ x.place ≤ pl ∧ 0 ≤ x.j ∧ x.j < 4 ∧ 0 ≤ x.key ∧ x.key < 8 ∧ 0 ≤ x.val ∧ x.val ≤ 255 := by
  obtain ⟨h1, h2⟩ := Bool.and_eq_true_iff.1 h
  obtain ⟨q1, q2, q3⟩ := of_decide_eq_true h1
  refine ⟨q1, q2, q3, fun i x hx => ?_⟩
  have := rowAll_get h2 (at_lt hx)
  unfold lnAt at this
  rw [getD_at hx] at this
  simp only [Bool.and_eq_true, decide_eq_true_eq] at this
  exact this.1.1
theorem lns_off {l : List Ln} {pl cut : Int} (h : lnsB l pl cut = true) : ∀ (i : Nat) (x : Ln), l[i]? = some x → x.off = firstOff l + (i : Int)
  | 0, x, hx => by
    rcases l with _ | ⟨y, l⟩
    · simp at hx
    · simp at hx
      subst hx
      simp [firstOff]
  | i + 1, x, hx => by
    obtain ⟨_, h2⟩ := Bool.and_eq_true_iff.1 h
    have hlt := at_lt hx
    have h3 := rowAll_get h2 hlt
    have hy : l[i]? = some l[i] := List.getElem?_eq_getElem (by omega)
    have h4 := lns_off h i _ hy
    unfold lnAt at h3
    rw [Nat.add_sub_cancel, getD_at hx, getD_at hy] at h3
    simp only [Bool.and_eq_true, decide_eq_true_eq] at h3
    rcases h3.2 with h5 | h5
    · omega
    · have := h5.1
      push_cast
      omega
theorem pPart_fwd {l : List Ln} {pl cut : Int} (h : lnsB l pl cut = true) (hp : pl ≤ 1048575) (t : List Int) : pPart (partE l cut ++ t) = some ((l, cut), t) := by
  obtain ⟨h1, h2, h3, h4⟩ := lnsB_parts h
  have h5 := lns_off h
  have hf : 0 ≤ firstOff l ∧ firstOff l < 4194304 := by
    rcases l with _ | ⟨y, l⟩
    · exact ⟨Int.le_refl _, by decide⟩
    · have := h4 0 y rfl
      exact ⟨this.1, this.2.1⟩
  have hm : pMany (pLn (firstOff l)) 0 l.length (l.flatMap lnE ++ t) = some (l, t) := by
    refine pMany_fwd l 0 t fun i x t hx => ?_
    obtain ⟨q1, q2, q3, q4, q5, q6, q7, q8, q9, q10⟩ := h4 i x hx
    have q11 := h5 i x hx
    unfold pLn lnE
    simp only [List.append_assoc]
    rw [pNum_le 3 x.place _ (by omega) (by show x.place < 16777216; omega)]
    simp only [Option.bind_some]
    rw [pNum_le 1 (x.j + 16 * x.key) _ (by omega) (by show x.j + 16 * x.key < 256; omega)]
    simp only [Option.bind_some]
    rw [pNum_le 1 x.val _ q9 (by show x.val < 256; omega)]
    simp only [Option.bind_some]
    rw [show (x.j + 16 * x.key) % 16 = x.j by omega, show (x.j + 16 * x.key) / 16 = x.key by omega, Nat.zero_add, ← q11]
  unfold pPart partE
  simp only [List.append_assoc]
  rw [pNum_le 3 cut _ h2 (by show cut < 16777216; omega)]
  simp only [Option.bind_some]
  rw [pNum_le 1 (l.length : Int) _ (by omega) (by show (l.length : Int) < 256; omega)]
  simp only [Option.bind_some]
  rw [pNum_le 3 (firstOff l) _ hf.1 (by show firstOff l < 16777216; omega)]
  simp only [Option.bind_some, Int.toNat_natCast]
  rw [hm]
  simp only [Option.bind_some]
  rw [if_neg]
  rintro ⟨e1, e2⟩
  rcases l with _ | ⟨y, l⟩
  · exact e2 rfl
  · simp at e1; omega
theorem pPart_bwd {l : List Ln} {c : Int} {xs t : List Int} (hx : IsBytes xs) (h : pPart xs = some ((l, c), t)) : xs = partE l c ++ t ∧ IsBytes t := by
  unfold pPart at h
  rcases h1 : pNum 3 xs with _ | ⟨a, t1⟩
  · rw [h1] at h; cases h
  rw [h1] at h
  simp only [Option.bind_some] at h
  obtain ⟨e1, _, _, b1, _⟩ := pNum_some hx h1
  rcases h2 : pNum 1 t1 with _ | ⟨n, t2⟩
  · rw [h2] at h; cases h
  rw [h2] at h
  simp only [Option.bind_some] at h
  obtain ⟨e2, q1, q2, b2, _⟩ := pNum_some b1 h2
  rcases h3 : pNum 3 t2 with _ | ⟨f, t3⟩
  · rw [h3] at h; cases h
  rw [h3] at h
  simp only [Option.bind_some] at h
  obtain ⟨e3, _, _, b3, _⟩ := pNum_some b2 h3
  rcases h4 : pMany (pLn f) 0 n.toNat t3 with _ | ⟨m, t4⟩
  · rw [h4] at h; cases h
  rw [h4] at h
  simp only [Option.bind_some] at h
  obtain ⟨hl, e4⟩ := pMany_bwd (pLn_bwd f) n.toNat 0 t3 t4 m b3 h4
  have ho := pMany_at (Q := fun k (x : Ln) => x.off = f + (k : Int)) (pLn_off f) n.toNat 0 t3 t4 m h4
  split at h
  · cases h
  rename_i hc
  obtain ⟨e5, rfl⟩ := Prod.mk.inj (Option.some.inj h)
  obtain ⟨rfl, rfl⟩ := Prod.mk.inj e5
  have hff : firstOff m = f := by
    rcases m with _ | ⟨y, m⟩
    · have hn : n = 0 := by simp at hl; omega
      by_cases hf : f = 0
      · exact hf.symm
      · exact absurd ⟨hn, hf⟩ hc
    · have := ho 0 y rfl
      simpa [firstOff] using this
  have hnn : (m.length : Int) = n := by omega
  unfold partE
  rw [hff, hnn]
  refine ⟨by rw [e1, e2, e3, e4]; simp, fun b hb => b3 b (by rw [e4]; exact List.mem_append_right _ hb)⟩
theorem itsB_parts {l : List It} {pl : Int} (h : itsB l pl = true) : ∀ (i : Nat) (x : It), l[i]? = some x → (i : Int) ≤ x.key ∧ x.key < 24 ∧ 1 ≤ x.place ∧ x.place ≤ pl ∧ 0 ≤ x.val ∧ x.val ≤ 255
  | 0, x, hx => by
    have := of_decide_eq_true (rowAll_get h (at_lt hx))
    rw [getD_at hx] at this
    exact ⟨this.1, this.2.1, this.2.2.2⟩
  | i + 1, x, hx => by
    have hlt := at_lt hx
    have hy : l[i]? = some l[i] := List.getElem?_eq_getElem (by omega)
    have h4 := itsB_parts h i _ hy
    have := of_decide_eq_true (rowAll_get h hlt)
    rw [Nat.add_sub_cancel, getD_at hx, getD_at hy] at this
    obtain ⟨p1, p2, p3, p4⟩ := this
    refine ⟨?_, p2, p4⟩
    have := h4.1
    rcases p3 with p3 | p3
    · omega
    · push_cast; omega
theorem itsB_len {l : List It} {pl : Int} (h : itsB l pl = true) : l.length ≤ 24 := by
  rcases Nat.lt_or_ge 24 l.length with q | q
  · have := itsB_parts h 24 _ (List.getElem?_eq_getElem q)
    omega
  · exact q
theorem stands_parts {s : St} (h : stands s = true) : 0 ≤ s.place ∧ s.place ≤ 1048575 ∧ itsB s.items s.place = true ∧ lnsB s.l0 s.place s.c0 = true ∧ lnsB s.l1 s.place s.c1 = true ∧ lnsB s.l2 s.place s.c2 = true := by
  unfold stands at h
  simp only [Bool.and_eq_true, decide_eq_true_eq] at h
  exact ⟨h.1.1.1.1.1, h.1.1.1.1.2, h.1.1.1.2, h.1.1.2, h.1.2, h.2⟩
theorem pSt_fwd {s : St} (h : stands s = true) (t : List Int) : pSt (stE s ++ t) = some (s, t) := by
  obtain ⟨h1, h2, h3, h4, h5, h6⟩ := stands_parts h
  have h7 := itsB_parts h3
  have h8 := itsB_len h3
  have hm : ∀ t, pMany pIt 0 s.items.length (s.items.flatMap itE ++ t) = some (s.items, t) := by
    intro t
    refine pMany_fwd s.items 0 t fun i x t hx => ?_
    obtain ⟨q1, q2, q3, q4, q5, q6⟩ := h7 i x hx
    unfold pIt itE
    simp only [List.append_assoc]
    rw [pNum_le 1 x.key _ (by omega) (by show x.key < 256; omega)]
    simp only [Option.bind_some]
    rw [pNum_le 3 x.place _ (by omega) (by show x.place < 16777216; omega)]
    simp only [Option.bind_some]
    rw [pNum_le 1 x.val _ q5 (by show x.val < 256; omega)]
    rfl
  unfold pSt stE
  simp only [List.append_assoc]
  rw [pNum_le 3 s.place _ h1 (by show s.place < 16777216; omega)]
  simp only [Option.bind_some]
  rw [pNum_le 1 (s.items.length : Int) _ (by omega) (by show (s.items.length : Int) < 256; omega)]
  simp only [Option.bind_some, Int.toNat_natCast]
  rw [hm]
  simp only [Option.bind_some]
  rw [pPart_fwd h4 h2]
  simp only [Option.bind_some]
  rw [pPart_fwd h5 h2]
  simp only [Option.bind_some]
  rw [pPart_fwd h6 h2]
  rfl
theorem pSt_bwd {s : St} {xs t : List Int} (hx : IsBytes xs) (h : pSt xs = some (s, t)) : xs = stE s ++ t := by
  unfold pSt at h
  rcases h1 : pNum 3 xs with _ | ⟨a, t1⟩
  · rw [h1] at h; cases h
  rw [h1] at h
  simp only [Option.bind_some] at h
  obtain ⟨e1, _, _, b1, _⟩ := pNum_some hx h1
  rcases h2 : pNum 1 t1 with _ | ⟨n, t2⟩
  · rw [h2] at h; cases h
  rw [h2] at h
  simp only [Option.bind_some] at h
  obtain ⟨e2, q1, q2, b2, _⟩ := pNum_some b1 h2
  rcases h4 : pMany pIt 0 n.toNat t2 with _ | ⟨l, t4⟩
  · rw [h4] at h; cases h
  rw [h4] at h
  simp only [Option.bind_some] at h
  obtain ⟨hl, e4⟩ := pMany_bwd pIt_bwd n.toNat 0 t2 t4 l b2 h4
  have b4 : IsBytes t4 := fun b hb => b2 b (by rw [e4]; exact List.mem_append_right _ hb)
  rcases h5 : pPart t4 with _ | ⟨⟨l0, c0⟩, t5⟩
  · rw [h5] at h; cases h
  rw [h5] at h
  simp only [Option.bind_some] at h
  obtain ⟨e5, b5⟩ := pPart_bwd b4 h5
  rcases h6 : pPart t5 with _ | ⟨⟨l1, c1⟩, t6⟩
  · rw [h6] at h; cases h
  rw [h6] at h
  simp only [Option.bind_some] at h
  obtain ⟨e6, b6⟩ := pPart_bwd b5 h6
  rcases h7 : pPart t6 with _ | ⟨⟨l2, c2⟩, t7⟩
  · rw [h7] at h; cases h
  rw [h7] at h
  simp only [Option.bind_some] at h
  obtain ⟨e7, _⟩ := pPart_bwd b6 h7
  obtain ⟨rfl, rfl⟩ := Prod.mk.inj (Option.some.inj h)
  have hnn : (l.length : Int) = n := by omega
  unfold stE
  rw [hnn, e1, e2, e4, e5, e6, e7]
  simp
theorem readS_iff {xs : List Int} (hx : IsBytes xs) (s : St) : readS xs = some s ↔ stands s = true ∧ stE s = xs := by
  unfold readS
  constructor
  · intro h
    rcases h1 : pSt xs with _ | ⟨q, t⟩
    · rw [h1] at h; cases h
    rw [h1] at h
    simp only [Option.bind_some] at h
    split at h
    · rename_i hc
      obtain ⟨rfl, hm⟩ := hc
      cases h
      have := pSt_bwd hx h1
      rw [List.append_nil] at this
      exact ⟨hm, this.symm⟩
    · cases h
  · rintro ⟨h1, h2⟩
    have := pSt_fwd h1 []
    rw [List.append_nil, h2] at this
    rw [this]
    simp [h1]
theorem st_prefix {s s' : St} (h : stands s = true) (h' : stands s' = true) {t : List Int} (e : stE s' = stE s ++ t) : s = s' ∧ t = [] := by
  have h1 := pSt_fwd h t
  have h2 := pSt_fwd h' []
  rw [List.append_nil, e, h1] at h2
  obtain ⟨e1, e2⟩ := Prod.mk.inj (Option.some.inj h2)
  exact ⟨e1, e2⟩
theorem stE_short {s : St} (h : stands s = true) : (stE s).length ≤ 600 := by
  obtain ⟨_, _, h3, h4, h5, h6⟩ := stands_parts h
  have := itsB_len h3
  have := (lnsB_parts h4).1
  have := (lnsB_parts h5).1
  have := (lnsB_parts h6).1
  rw [stE_len]
  omega
theorem recB_short {r : Rc} (h : mayB r = true) : (recB r).length ≤ 600 := by
  have := (wrB_parts (mayB_parts h).2.2.1).1
  rw [recB_len]
  omega
end Go.Proofs.Ytmbphhcgmdaoeaa
