/- Plain: a heading turned by a quarter to the left is two sectors more. -/
import Derived.Test.YtmjfphidcnjklaaF10
set_option linter.unusedSimpArgs false
namespace Go.Proofs.Ytmjfphidcnjklaa
open Ieee

theorem secI_range (a b : Int) : -1 ≤ secI a b ∧ secI a b ≤ 7 := by
  unfold secI
  repeat' split
  all_goals omega
theorem secI_turn (a b : Int) : (secI a b < 0 ∧ secI (-b) a < 0) ∨ (0 ≤ secI a b ∧ secI (-b) a = (secI a b + 2) % 8) := by
  unfold secI
  repeat' split
  all_goals omega
/-- The same of words. -/
theorem secF_turn {x y : Nat} (hy : y < 18446744073709551616) : (secF x y < 0 ∧ secF (ngF y) x < 0) ∨ (0 ≤ secF x y ∧ secF (ngF y) x = (secF x y + 2) % 8) := by
  unfold secF
  by_cases n : isN x ∨ isN y
  · rw [if_pos n, if_pos (by rcases n with n | n; exact .inr n; exact .inl ((ngF_nan hy).2 n))]
    exact .inl ⟨by omega, by omega⟩
  · rw [if_neg n, if_neg (by rintro (k | k); exact n (.inr ((ngF_nan hy).1 k)); exact n (.inl k)), ngF_sg hy]
    exact secI_turn _ _
theorem secF_range (x y : Nat) : -1 ≤ secF x y ∧ secF x y ≤ 7 := by
  unfold secF
  split
  · omega
  · exact secI_range _ _
end Go.Proofs.Ytmjfphidcnjklaa
