/- What is proved: the law of two arrays of three numbers that are compared; flumeref05's SameState answers as the spec says. -/
import Derived.Test.YtmbphhcgmdaoeaaReE
namespace Go.Proofs.Ytmbphhcgmdaoeaa
open Go.RowKit

theorem run_equalIn_i64 (d : Nat) (a b : Int) (w : World) : (Op.equalIn (d + 1) 3 (.int .i64 a) (.int .i64 b)).run Try.prog w = .ok (a == b) w := by
  simp only [Op.equalIn, Sem.run_bind, run_underlying Try.underlying3, Result.andThen_ok]
  simp
theorem info_int : (Try.prog.info? 3).map (fun i => (i.zero, i.size, i.bytes)) = some (some (.int .i64 0), 1, 8) := by kernel_rfl
theorem run_equalIn_cut (d : Nat) (a0 a1 a2 b0 b1 b2 : Int) (w : World) : (Op.equalIn (d + 1 + 1) 28 (.agg #[.int .i64 a0, .int .i64 a1, .int .i64 a2]) (.agg #[.int .i64 b0, .int .i64 b1, .int .i64 b2])).run Try.prog w = .ok (a0 == b0 && (a1 == b1 && a2 == b2)) w := by
  have hi := run_equalIn_i64 d
  generalize hq : Op.equalIn (d + 1) = q at hi
  rw [Op.equalIn]
  rw [hq]
  have hc : Try.prog.cellsOf 3 = 1 := by kernel_rfl
  simp only [Sem.run_bind, run_underlying Try.underlying28, Result.andThen_ok]
  obtain ⟨i0, hi0, hz0, hz1, hz2⟩ := info_parts info_int
  have r3 : List.range' 0 3 1 = [0, 1, 2] := rfl
  simp [Std.Legacy.Range.forIn_eq_forIn_range', Std.Legacy.Range.size, r3, part, sizeOf, typeInfo, hi0, hz1, hi, go_sem]
  by_cases c0 : a0 = b0 <;> by_cases c1 : a1 = b1 <;> by_cases c2 : a2 = b2 <;> simp [c0, c1, c2, go_sem]
theorem run_cut_neq (a0 a1 a2 b0 b1 b2 : Int) (w : World) : (binOp .neq 28 (.agg #[.int .i64 a0, .int .i64 a1, .int .i64 a2]) (.agg #[.int .i64 b0, .int .i64 b1, .int .i64 b2])).run Try.prog w = .ok (.bool (!(a0 == b0 && (a1 == b1 && a2 == b2)))) w := by
  rw [run_neq_struct, run_equalIn_cut]
  rfl
end Go.Proofs.Ytmbphhcgmdaoeaa
