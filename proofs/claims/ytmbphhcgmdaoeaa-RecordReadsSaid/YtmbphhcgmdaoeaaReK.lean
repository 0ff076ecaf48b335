/- What is proved: flumeref01's Put onto a row of the caller's own; a byte appended to one. -/
import Derived.Test.YtmbphhcgmdaoeaaReJ
import Derived.Test.YtmbphhcgmdaoeaaReI
import Derived.Test.YtmbphhcgmdaoeaaRvG
namespace Go.Proofs.Ytmbphhcgmdaoeaa
open Go.RowKit

theorem rstands_spec : StandsSpec 22 := rstands_of fun v l pl cut w h hl => rlinesB_walk v l pl cut w h hl
/-- The bytes xs, in a row of one's own from block B on. -/
def OwB (w : World) (B : Nat) (v : Value) (xs : List Int) : Prop := w.ownsRow B 5 1 v xs.length (u8s xs)
theorem OwB.sl {w : World} {B : Nat} {v : Value} {xs : List Int} (h : OwB w B v xs) : Bt w B w.heap.size v xs := Rg.own h
theorem OwB.far {w w' : World} {B : Nat} {v : Value} {xs : List Int} (h : OwB w B v xs) (hb : Below w.heap.size w w') : OwB w' B v xs := own_below h hb
theorem rput_own (w : World) (B : Nat) (v : Value) (xs : List Int) (n : Int) (h : OwB w B v xs) (hB : B ≤ w.heap.size) (h0 : 0 ≤ n) (h1 : n < 16777216) (hx : xs.length ≤ 1000) :
    Calls Try.prog 34 #[v, .int .i64 n, .int .i64 3] w fun e w' => ∃ v', e = .returned (.tuple #[v', .int .i64 0]) ∧ OwB w' B v' (xs ++ le n 3) ∧ Below B w w' := by
  obtain ⟨a, c, rfl, _, _, hr⟩ := Rg.own h
  have hr' : Rd w w.heap.size a xs.length (u8s xs) := Rd_of hr
  refine (rput_ok a xs.length c xs n 3 w (by omega) (decide_eq_true ⟨by decide, by decide, h0, by simpa using h1⟩) hr' (by omega)).mono ?_
  rintro e w' ⟨v', rfl, o, b⟩
  refine ⟨v', rfl, ?_, b.mono hB⟩
  unfold OwB
  rw [List.length_append, le_length]
  exact own_base o hB
end Go.Proofs.Ytmbphhcgmdaoeaa
