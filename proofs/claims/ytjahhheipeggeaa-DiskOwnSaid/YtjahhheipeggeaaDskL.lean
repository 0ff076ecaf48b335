/- What is proved: what every function on disks must answer, said of any function number, and that flumeref03's functions do. -/
import Derived.Test.YtjahhheipeggeaaDskK
namespace Go.Proofs.Ytjahhheipeggeaa
open Go.RowKit

def putF (d : Dsk) (s n : Int) (b : ByteArray) : Dsk × Int := if putOk d s n b then (putD d s.toNat n b, 0) else (none_, 2)
def syncF (d : Dsk) : Dsk × Int := if chkB d then (⟨d.now, d.now⟩, 0) else (none_, 2)
def crashF (d : Dsk) (lost : Int) : Dsk × Int := if chkB d then (crashD d lost, 0) else (none_, 2)
def getF (d : Dsk) (s : Int) : Sec × Int := if getOk d s then (d.now[s.toNat]?.getD noSec, 0) else (noSec, 2)
/-- A disk whose rows do not lie in block Q. -/
def Avo (Q : Nat) (v : Value) : Prop := ∀ a l c a' l' c', v = .agg #[.slice a l c, .slice a' l' c'] → (∀ x, a = some x → x.block ≠ Q) ∧ (∀ x, a' = some x → x.block ≠ Q)
theorem avo_nil (Q : Nat) : Avo Q nilDisk := by
  intro a l c a' l' c' h
  cases h
  exact ⟨fun x hx => (by cases hx), fun x hx => (by cases hx)⟩
theorem Own2.avo {B : Nat} {w : World} {e : TypeId} {v : Value} {d : Dsk} (h : Own2 B w e v d) {Q : Nat} (hQ : Q < B) : Avo Q v := by
  obtain ⟨g, l, c, g', l', c', rfl, _, h1, h2, _⟩ := h
  intro a m k a' m' k' h
  cases h
  refine ⟨fun x hx => ?_, fun x hx => ?_⟩
  · cases hx
    show g ≠ Q
    omega
  · cases hx
    show g' ≠ Q
    omega
/-- A disk and an error number; its rows lie in new blocks, or where those of the disk that was handed in lie. -/
def DkPost (W : World) (v : Value) (r : Dsk × Int) (e : Ending) (w' : World) : Prop := ∃ v', e = .returned (.tuple #[v', .int .i64 r.2]) ∧ Dk w' 0 w'.heap.size v' r.1 ∧ Below W.heap.size W w' ∧ ∀ Q, Q < W.heap.size → Avo Q v → Avo Q v'
def I64 (n : Int) : Prop := -9223372036854775808 ≤ n ∧ n ≤ 9223372036854775807
def PutSpec (f : FuncId) : Prop := ∀ (hi : Nat) (v : Value) (d : Dsk) (s n : Int) (b : ByteArray) (w : World), Dk w 0 hi v d → hi ≤ w.heap.size → smallD d = true → I64 s → I64 n → b.size ≤ 3000 →
  Calls Try.prog f #[v, .int .i64 s, .int .i64 n, .string b] w (DkPost w v (putF d s n b))
def SyncSpec (f : FuncId) : Prop := ∀ (hi : Nat) (v : Value) (d : Dsk) (w : World), Dk w 0 hi v d → hi ≤ w.heap.size → smallD d = true → Calls Try.prog f #[v] w (DkPost w v (syncF d))
def CrashSpec (f : FuncId) : Prop := ∀ (hi : Nat) (v : Value) (d : Dsk) (lost : Int) (w : World), Dk w 0 hi v d → hi ≤ w.heap.size → smallD d = true → 0 ≤ lost → lost < 18446744073709551616 →
  Calls Try.prog f #[v, .int .u64 lost] w (DkPost w v (crashF d lost))
def GetSpec (f : FuncId) : Prop := ∀ (hi : Nat) (v : Value) (d : Dsk) (s : Int) (w : World), Dk w 0 hi v d → hi ≤ w.heap.size → smallD d = true → I64 s →
  Calls Try.prog f #[v, .int .i64 s] w fun e w' => e = .returned (.tuple #[(getF d s).1.val, .int .i64 (getF d s).2]) ∧ Below w.heap.size w w'
def CheckSpec (f : FuncId) : Prop := ∀ (hi : Nat) (v : Value) (d : Dsk) (w : World), Dk w 0 hi v d → hi ≤ w.heap.size → smallD d = true →
  Calls Try.prog f #[v] w fun e w' => e = .returned (.int .i64 (chk d)) ∧ Below w.heap.size w w'
def SameSpec (f : FuncId) : Prop := ∀ (hi hi' : Nat) (v v' : Value) (d d' : Dsk) (w : World), Dk w 0 hi v d → hi ≤ w.heap.size → Dk w 0 hi' v' d' → hi' ≤ w.heap.size → smallD d = true → smallD d' = true →
  Calls Try.prog f #[v, v'] w fun e w' => e = .returned (.bool (sameD d d')) ∧ Below w.heap.size w w'
def DirtyPost (W : World) (d : Dsk) (e : Ending) (w' : World) : Prop := ∃ a' n' c', e = .returned (.slice a' n' c') ∧ Rg 1 w' 0 w'.heap.size a' n' (nums (dirtyD d)) ∧ n' ≤ c' ∧ c' ≤ maxLen ∧ Below W.heap.size W w'
def DirtySpec (f : FuncId) : Prop := ∀ (hi : Nat) (v : Value) (d : Dsk) (w : World), Dk w 0 hi v d → hi ≤ w.heap.size → smallD d = true → Calls Try.prog f #[v] w (DirtyPost w d)
def newD : Dsk := ⟨List.replicate 33 noSec, List.replicate 33 noSec⟩
def NewPost (W : World) (e : Ending) (w' : World) : Prop := ∃ v', e = .returned v' ∧ Dk w' 0 w'.heap.size v' newD ∧ Below W.heap.size W w' ∧ ∀ Q, Q < W.heap.size → Avo Q v'
def NewSpec (f : FuncId) : Prop := ∀ w : World, Calls Try.prog f #[] w (NewPost w)

theorem own2_0 {B : Nat} {w : World} {e : TypeId} {v : Value} {d : Dsk} (h : Own2 B w e v d) : Dk w 0 w.heap.size v d := h.dk.wide (Nat.zero_le _) (Nat.le_refl _)
theorem rput_spec : PutSpec 13 := by
  intro hi v d s n b w hd hh _ _ _ _
  rcases hk : putOk d s n b with _ | _
  · refine (rput_no 0 hi v d s n b w hd hh hk).mono ?_
    rintro e w' ⟨rfl, hb⟩
    unfold putF
    rw [hk]
    exact ⟨_, rfl, nil_dk _ _ _, hb, fun Q _ _ => avo_nil Q⟩
  · have ha := of_decide_eq_true (Bool.and_eq_true_iff.1 hk).2
    obtain ⟨k, rfl⟩ := Int.eq_ofNat_of_zero_le ha.1
    refine (rput_yes 0 hi v d k n b w hd hh hk).mono ?_
    rintro e w' ⟨v', rfl, ho, hb⟩
    unfold putF
    rw [hk, Int.toNat_natCast]
    exact ⟨_, rfl, own2_0 ho, hb, fun Q hQ _ => ho.avo hQ⟩
theorem rsync_spec : SyncSpec 16 := by
  intro hi v d w hd hh _
  rcases hk : chkB d with _ | _
  · refine (rsync_no 0 hi v d w hd hh hk).mono ?_
    rintro e w' ⟨rfl, hb⟩
    unfold syncF
    rw [hk]
    exact ⟨_, rfl, nil_dk _ _ _, hb, fun Q _ _ => avo_nil Q⟩
  · refine (rsync_yes 0 hi v d w hd hh hk).mono ?_
    rintro e w' ⟨v', rfl, ho, hb⟩
    unfold syncF
    rw [hk]
    exact ⟨_, rfl, own2_0 ho, hb, fun Q hQ _ => ho.avo hQ⟩
theorem rcrash_spec : CrashSpec 18 := by
  intro hi v d lost w hd hh _ h0 h1
  rcases hk : chkB d with _ | _
  · refine (rcrash_no 0 hi v d lost w hd hh hk).mono ?_
    rintro e w' ⟨rfl, hb⟩
    unfold crashF
    rw [hk]
    exact ⟨_, rfl, nil_dk _ _ _, hb, fun Q _ _ => avo_nil Q⟩
  · refine (rcrash_yes 0 hi v d lost w hd hh hk h0 h1).mono ?_
    rintro e w' ⟨v', rfl, ho, hb⟩
    unfold crashF
    rw [hk]
    exact ⟨_, rfl, own2_0 ho, hb, fun Q hQ _ => ho.avo hQ⟩
theorem rget_spec : GetSpec 20 := by
  intro hi v d s w hd hh _ _
  rcases hk : getOk d s with _ | _
  · refine (rget_no 0 hi v d s w hd hh hk).mono ?_
    rintro e w' ⟨rfl, hb⟩
    unfold getF
    rw [hk]
    exact ⟨rfl, hb⟩
  · have ha := of_decide_eq_true (Bool.and_eq_true_iff.1 hk).2
    obtain ⟨k, rfl⟩ := Int.eq_ofNat_of_zero_le ha.1
    refine (rget_yes 0 hi v d k w hd hh hk).mono ?_
    rintro e w' ⟨rfl, hb⟩
    unfold getF
    rw [hk, Int.toNat_natCast]
    exact ⟨rfl, hb⟩
theorem rcheck_spec : CheckSpec 22 := fun hi v d w hd hh _ => check_walk 0 hi v d w hd hh
theorem rsame_spec : SameSpec 14 := fun hi hi' v v' d d' w hd hh hd' hh' _ _ => rsame_walk 0 hi v d 0 hi' v' d' w hd hh hd' hh'
theorem rdirty_spec : DirtySpec 26 := by
  intro hi v d w hd hh _
  rcases hk : chkB d with _ | _
  · refine (rdirty_no 0 hi v d w hd hh hk).mono ?_
    rintro e w' ⟨rfl, hb⟩
    refine ⟨none, 0, 0, rfl, ?_, Nat.le_refl _, Nat.zero_le _, hb⟩
    unfold dirtyD
    rw [hk]
    exact Rg.nil
  · refine (rdirty_yes 0 hi v d w hd hh hk).mono ?_
    rintro e w' ⟨a', n', c', rfl, hr, h1, h2, hb⟩
    exact ⟨a', n', c', rfl, hr.wide (Nat.zero_le _) (Nat.le_refl _), h1, h2, hb⟩

/-! ### every disk that may be is small -/
theorem chk_small {d : Dsk} (h : chkB d = true) : smallD d = true := by
  obtain ⟨h1, h2, _⟩ := chkB_parts h
  have key : ∀ l : List Sec, rowB l = true → l.length ≤ 60 ∧ l.all slim = true := by
    intro l hl
    have hn := rowB_length hl
    refine ⟨by omega, ?_⟩
    unfold rowB at hl
    have ha := (Bool.and_eq_true_iff.1 hl).2
    rw [List.all_eq_true] at ha ⊢
    intro s hs
    have := of_decide_eq_true (ha s hs)
    exact decide_eq_true (by omega)
  obtain ⟨a1, a2⟩ := key _ h1
  obtain ⟨b1, b2⟩ := key _ h2
  exact small_yes a1 b1 a2 b2
end Go.Proofs.Ytjahhheipeggeaa
