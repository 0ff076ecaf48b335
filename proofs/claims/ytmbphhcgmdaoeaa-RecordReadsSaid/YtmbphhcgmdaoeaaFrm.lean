/- What is proved: what a slice of bytes that comes in as an argument gives to a walk: it reads as a list of numbers from 0 to 255. -/
import Derived.Test.YtmbphhcgmdaoeaaMem
import Derived.ProofKit
import Derived.OpenShut
import Derived.ShutString
import Derived.ChangeOld
import Derived.Below
import Derived.SizedLaws
namespace Go.Proofs.Ytmbphhcgmdaoeaa
open Go.ChangeShapes Go.WideShapes Go.ChangeAt Go.RowKit
theorem own_knob : ownKnob Try.prog.godebug = none := by kernel_rfl
theorem bytes_u8 : Try.prog.bytesOf 5 = 1 := by kernel_rfl
theorem laid_out : laidOutB Try.prog = true := by kernel_rfl
/-- A slice of bytes that came in: its elements are xs. -/
def In8 (w : World) (a : Option Addr) (l c : Nat) (xs : List Int) : Prop := Rd w w.heap.size a l (u8s xs) ∧ IsBytes xs ∧ l ≤ c ∧ c ≤ 140737488351232
theorem in8_none (w : World) : In8 w none 0 0 [] := ⟨⟨rfl, .inl rfl⟩, fun b hb => by simp at hb, Nat.le_refl _, Nat.zero_le _⟩
theorem wf8 {n : Int} (h : (Lit.int .u8 n).wf = true) : 0 ≤ n ∧ n ≤ 255 := by
  simp [Lit.wf, IntKind.min, IntKind.max, IntKind.signed, IntKind.bits] at h
  omega
theorem wf32 {n : Int} (h : (Lit.int .u32 n).wf = true) : 0 ≤ n ∧ n ≤ 4294967295 := by
  simp [Lit.wf, IntKind.min, IntKind.max, IntKind.signed, IntKind.bits] at h
  omega
theorem wfu64 {n : Int} (h : (Lit.int .u64 n).wf = true) : 0 ≤ n ∧ n < 18446744073709551616 := by
  simp [Lit.wf, IntKind.min, IntKind.max, IntKind.signed, IntKind.bits] at h
  omega
theorem wf64 {n : Int} (h : (Lit.int .i64 n).wf = true) : -9223372036854775808 ≤ n ∧ n ≤ 9223372036854775807 := by
  simp [Lit.wf, IntKind.min, IntKind.max, IntKind.signed, IntKind.bits] at h
  omega
theorem in8_mk {w : World} {x : Addr} {l c : Nat} {zs : List Int} (hl : l ≤ c) (hm : c ≤ 140737488351232) (hz : zs.length = c)
    (hcell : ∀ i, i < zs.length → w.cell? (x.add i) = some (.int .u8 (zs.getD i 0))) (hw : ∀ n ∈ zs, (Lit.int .u8 n).wf = true) : In8 w (some x) l c (zs.take l) := by
  refine ⟨⟨by simp [u8s]; omega, ?_⟩, fun b hb => wf8 (hw b (List.mem_of_mem_take hb)), hl, hm⟩
  by_cases h0 : l = 0
  · exact .inl h0
  · obtain ⟨b, o, s⟩ := x
    have hc := hcell 0 (by omega)
    have hs : s = none := by simpa [Addr.add] using World.cell?_spot hc
    subst hs
    refine .inr ⟨b, o, rfl, World.block_lt_of_cell? w ⟨b, o, none⟩ (by simpa [Addr.add] using hc), fun j u hu => ?_⟩
    have hj : j < l := by
      have := (List.getElem?_eq_some_iff.1 hu).1
      simp [u8s] at this
      omega
    have := hcell j (by omega)
    rw [Addr.add_lit] at this
    rw [this]
    simpa [u8s, List.getD_eq_getElem?_getD, hj, show j < zs.length by omega] using hu
end Go.Proofs.Ytmbphhcgmdaoeaa
