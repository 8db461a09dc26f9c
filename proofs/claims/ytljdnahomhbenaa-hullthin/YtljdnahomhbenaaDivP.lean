/- Plain facts on quotients, bit by bit; nothing of the program is in here. -/
import Derived.Test.YtljdnahomhbenaaPow
namespace Go.Proofs.Ytljdnahomhbenaa
section
open Go.RowKit

theorem vl_split (f : Nat → Int) (k j : Nat) : vl f (k + j) = vl f k + pw k * vl (fun i => f (k + i)) j := by
  induction j with
  | zero => rw [Nat.add_zero, vl_zero]; omega
  | succ j ih => rw [← Nat.add_assoc, vl_succ, ih, vl_succ, pw_add, Int.mul_add]; grind
theorem bit_at (a : List Int) (hd : allD (dg a)) (i : Nat) : vals a / p2 i % 2 = dg a (i / 16) / p2 (i % 16) % 2 := by
  have h1 := vals_more a (i / 16 + 1 + a.length) (by omega)
  rw [vl_split, vl_succ, pw_succ] at h1
  have hlo := vl_bd hd (i / 16)
  have hP := pw_pos (i / 16)
  have ei : p2 i = pw (i / 16) * p2 (i % 16) := by
    rw [pw_p2, ← p2_add]; congr 1; omega
  have e16 : p2 (i % 16) * (2 * p2 (15 - i % 16)) = 65536 := by
    have : p2 (i % 16 + (15 - i % 16 + 1)) = 65536 := by
      rw [show i % 16 + (15 - i % 16 + 1) = 16 from by omega]; exact p2_16
    rw [p2_add, p2_succ] at this
    rw [← this, Int.two_mul]
  have hr := p2_pos (i % 16)
  rw [ei, ← h1]
  generalize vl (fun j => dg a (i / 16 + 1 + j)) a.length = H
  generalize vl (dg a) (i / 16) = lo at *
  generalize dg a (i / 16) = d
  generalize pw (i / 16) = P at *
  generalize p2 (i % 16) = D at *
  generalize p2 (15 - i % 16) = E at *
  have h2 : lo + d * P + P * 65536 * H = lo + P * (d + 65536 * H) := by grind
  have h3 : (lo + P * (d + 65536 * H)) / (P * D) = (d + 65536 * H) / D := by
    rw [← Int.ediv_ediv_of_nonneg (by omega), Int.add_mul_ediv_left _ _ (by omega), Int.ediv_eq_zero_of_lt hlo.1 hlo.2, Int.zero_add]
  have h4 : (d + 65536 * H) / D = d / D + 2 * (E * H) := by
    rw [← e16, show D * (2 * E) * H = D * (2 * (E * H)) from by grind, Int.add_mul_ediv_left _ _ (by omega)]
  rw [h2, h3, h4]
  omega
/-- One bit of a quotient. -/
theorem div_half (A : Int) (k : Nat) : A / p2 k = 2 * (A / p2 (k + 1)) + A / p2 k % 2 := by
  have h : A / p2 (k + 1) = A / p2 k / 2 := by
    rw [p2_succ, show p2 k + p2 k = p2 k * 2 from by omega, Int.ediv_ediv_of_nonneg (by have := p2_pos k; omega)]
  rw [h]
  omega
theorem div_ge {X Y b n : Int} (hn : 0 < n) (e : X = 2 * Y + b) (hb : 0 ≤ b) (hb' : b ≤ 1) (h : n ≤ Y % n + Y % n + b) : X / n = Y / n + Y / n + 1 ∧ X % n = Y % n + Y % n + b - n := by
  have h1 := Int.emod_lt_of_pos Y hn
  have h2 := Int.emod_nonneg Y (show n ≠ 0 by omega)
  have h3 := Int.mul_ediv_add_emod Y n
  exact (Int.ediv_emod_unique hn).2 ⟨by generalize Y / n = q at *; generalize Y % n = r at *; subst e; grind, by omega, by omega⟩
theorem div_lt {X Y b n : Int} (hn : 0 < n) (e : X = 2 * Y + b) (hb : 0 ≤ b) (h : ¬ n ≤ Y % n + Y % n + b) : X / n = Y / n + Y / n ∧ X % n = Y % n + Y % n + b := by
  have h2 := Int.emod_nonneg Y (show n ≠ 0 by omega)
  have h3 := Int.mul_ediv_add_emod Y n
  exact (Int.ediv_emod_unique hn).2 ⟨by generalize Y / n = q at *; generalize Y % n = r at *; subst e; grind, by omega, by omega⟩
/-- Above the highest digit there is nothing. -/
theorem div_top (a : List Int) (hd : allD (dg a)) : vals a / p2 (16 * a.length) = 0 := by
  have h := vl_bd hd a.length
  rw [pw_p2] at h
  exact Int.ediv_eq_zero_of_lt h.1 h.2
theorem div_le {A n : Int} (hA : 0 ≤ A) (hn : 0 < n) (k : Nat) : 0 ≤ A / p2 k ∧ A / p2 k ≤ A ∧ 0 ≤ A / p2 k / n ∧ A / p2 k / n ≤ A ∧ 0 ≤ A / p2 k % n ∧ A / p2 k % n < n := by
  have hp := p2_pos k
  have h1 : 0 ≤ A / p2 k := Int.ediv_nonneg hA (by omega)
  have h2 : A / p2 k ≤ A := Int.ediv_le_self _ hA
  exact ⟨h1, h2, Int.ediv_nonneg h1 (by omega), Int.le_trans (Int.ediv_le_self _ h1) h2, Int.emod_nonneg _ (by omega), Int.emod_lt_of_pos _ hn⟩
end
end Go.Proofs.Ytljdnahomhbenaa
