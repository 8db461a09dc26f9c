/- Dues held against one another. -/
import Derived.Test.YtaapdkjmlplhgaaPl
import Derived.Laws.StructEq
namespace Go.Proofs.Ytaapdkjmlplhgaa
open Go.RowKit Go.Sort
theorem run_eqD_in (d : Nat) (a b c a' b' c' : Int) (w : World) : (Op.equalIn (d + 2) 32 (dV (a, b, c)) (dV (a', b', c'))).run Try.prog w = .ok (decide ((a, b, c) = (a', b', c'))) w := by
  rw [run_equalIn_agg w (d + 1) 32 _ _ (by kernel_rfl) (by kernel_rfl)]
  by_cases h1 : a = a'
  · by_cases h2 : b = b'
    · by_cases h3 : c = c'
      · simp [Program.fieldsOf, Try.underlying32, Op.eqFields, go_sem, part, h1, h2, h3]
      · simp [Program.fieldsOf, Try.underlying32, Op.eqFields, go_sem, part, h1, h2, h3]
    · simp [Program.fieldsOf, Try.underlying32, Op.eqFields, go_sem, part, h1, h2]
  · simp [Program.fieldsOf, Try.underlying32, Op.eqFields, go_sem, part, h1]
theorem run_eqD (x y : Du) (w : World) : (binOp .eql 32 (dV x) (dV y)).run Try.prog w = .ok (.bool (decide (x = y))) w := by
  obtain ⟨a, b, c⟩ := x
  obtain ⟨a', b', c'⟩ := y
  rw [run_eql_struct, show (10000 : Nat) = 9998 + 2 from rfl, run_eqD_in]
  rfl
theorem run_neD (x y : Du) (w : World) : (binOp .neq 32 (dV x) (dV y)).run Try.prog w = .ok (.bool (!decide (x = y))) w := by
  obtain ⟨a, b, c⟩ := x
  obtain ⟨a', b', c'⟩ := y
  rw [run_neq_struct, show (10000 : Nat) = 9998 + 2 from rfl, run_eqD_in]
  rfl
end Go.Proofs.Ytaapdkjmlplhgaa
