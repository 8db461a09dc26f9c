/- Plain facts on rounding: what is not above a word is not rounded above it, what is not below one is not rounded below it; nothing of the program is in here. -/
import Derived.Test.YtgdmbcfjjdngdaaDoorQp
set_option linter.unusedSimpArgs false
set_option linter.unusedVariables false
namespace Go.Proofs.YtgdmbcfjjdngdaaDoor
open Ieee

theorem cut_rne2 (s : Bool) (A K : Nat) : Toward.even.cut s A K = rne A K := by
  by_cases h : K ≤ A.log2 + 2
  · exact cut_rne s A K h
  · have hA : A < 2 ^ (A.log2 + 1) := Nat.lt_log2_self
    have h1 : A * 2 < 2 ^ (A.log2 + 2) := by rw [Nat.pow_succ]; omega
    have h2 : 2 ^ (A.log2 + 2) ≤ 2 ^ K := Nat.pow_le_pow_right (by omega) (by omega)
    unfold Toward.cut rne
    rw [Nat.min_eq_right (by omega), Nat.one_shiftLeft]
    simp only []
    have e1 : A / 2 ^ (A.log2 + 2) = 0 := Nat.div_eq_of_lt (by omega)
    have e2 : A % 2 ^ (A.log2 + 2) = A := Nat.mod_eq_of_lt (by omega)
    have e3 : A / 2 ^ K = 0 := Nat.div_eq_of_lt (by omega)
    have e4 : A % 2 ^ K = A := Nat.mod_eq_of_lt (by omega)
    rw [e1, e2, e3, e4, if_neg (by omega)]
    have : (decide (2 ^ (A.log2 + 2) < 2 * A) || (2 ^ (A.log2 + 2) == 2 * A && 0 % 2 == 1)) = false := by
      rw [Bool.or_eq_false_iff]; exact ⟨decide_eq_false (by omega), by rw [Bool.and_eq_false_iff]; exact .inr rfl⟩
    rw [this]; rfl
/-- The word that a rung and a number of units make. -/
theorem valN_mk {d x : Nat} (h : d = 0 ∨ 4503599627370496 ≤ x) (h2 : x ≤ 9007199254740992) : valN (d * 4503599627370496 + x) = x * 2 ^ d := by
  unfold valN
  by_cases c : d * 4503599627370496 + x < 4503599627370496
  · rw [if_pos c]
    obtain rfl : d = 0 := by omega
    simp
  · rw [if_neg c]
    by_cases c2 : x = 9007199254740992
    · rw [c2, show (d * 4503599627370496 + 9007199254740992) % 4503599627370496 = 0 from by omega, show (d * 4503599627370496 + 9007199254740992) / 4503599627370496 - 1 = d + 1 from by omega, Nat.pow_succ]
      omega
    · have h3 : 4503599627370496 ≤ x := by omega
      rw [show (d * 4503599627370496 + x) % 4503599627370496 = x - 4503599627370496 from by omega, show (d * 4503599627370496 + x) / 4503599627370496 - 1 = d from by omega, show 4503599627370496 + (x - 4503599627370496) = x from by omega]
/-- Of a size in parts of the least number: the rung of the word that is nearest, with what lies around. -/
theorem nearest_rung (s : Bool) (A k : Nat) (hA : 0 < A) :
    ∃ D x, k ≤ D ∧ (D = k ∨ 4503599627370496 ≤ A / 2 ^ D) ∧ x ≤ 9007199254740992 ∧ A / 2 ^ D < 9007199254740992 ∧ (x = A / 2 ^ D ∨ (x = A / 2 ^ D + 1 ∧ A / 2 ^ D * 2 ^ D < A)) ∧
      double.nearest s A (-1074 - (k : Int)) = double.word s (min ((D - k) * 4503599627370496 + x) 9218868437227405312) := by
  have l1 : 2 ^ A.log2 ≤ A := Nat.log2_self_le (by omega)
  have l2 : A < 2 ^ (A.log2 + 1) := Nat.lt_log2_self
  unfold Format.nearest
  rw [if_neg (by omega), dbl_least, dbl_bin, dbl_inf, dbl_frac]
  generalize hL : A.log2 = L at *
  obtain ⟨D, hD⟩ : ∃ D, D = max (L - 52) k := ⟨_, rfl⟩
  have e1 : max (-1074 - (k : Int) + (L : Int) - ((52 : Nat) : Int)) (-1074) = -1074 - (k : Int) + (D : Int) := by omega
  simp only [e1]
  have e2 : (-1074 - (k : Int) - (-1074 - (k : Int) + (D : Int))).toNat = 0 := by omega
  have e3 : (-1074 - (k : Int) + (D : Int) - (-1074 - (k : Int))).toNat = D := by omega
  have e4 : (-1074 - (k : Int) + (D : Int) - -1074).toNat = D - k := by omega
  rw [e2, e3, e4, Nat.shiftLeft_zero, cut_rne2]
  have hq : A / 2 ^ D < 9007199254740992 := by
    rw [Nat.div_lt_iff_lt_mul (Nat.two_pow_pos D)]
    have : 2 ^ (L + 1) ≤ 2 ^ (53 + D) := Nat.pow_le_pow_right (by omega) (by omega)
    rw [Nat.pow_add 2 53 D] at this
    have e : (2 : Nat) ^ 53 = 9007199254740992 := by decide
    rw [e] at this
    omega
  have hq2 : D = k ∨ 4503599627370496 ≤ A / 2 ^ D := by
    by_cases c : D = k
    · exact .inl c
    · right
      rw [Nat.le_div_iff_mul_le (Nat.two_pow_pos D)]
      have : 2 ^ (52 + D) ≤ 2 ^ L := Nat.pow_le_pow_right (by omega) (by omega)
      rw [Nat.pow_add 2 52 D] at this
      have e : (2 : Nat) ^ 52 = 4503599627370496 := by decide
      rw [e] at this
      omega
  have hdm := Nat.div_add_mod A (2 ^ D)
  rw [Nat.mul_comm] at hdm
  refine ⟨D, rne A D, by omega, hq2, ?_, hq, ?_, rfl⟩
  · unfold rne; split <;> omega
  · unfold rne
    have hm := Nat.mod_lt A (Nat.two_pow_pos D)
    split
    · refine .inr ⟨rfl, ?_⟩
      generalize A % 2 ^ D = m at *
      generalize A / 2 ^ D * 2 ^ D = z at *
      have := Nat.two_pow_pos D
      omega
    · exact .inl rfl
/-- What is not above a word is not rounded above it. -/
theorem nearest_le (s : Bool) (A k r : Nat) (hr : r < 9218868437227405312) (h : A ≤ valN r * 2 ^ k) :
    ∃ R, R ≤ r ∧ double.nearest s A (-1074 - (k : Int)) = double.word s R := by
  by_cases hA : A = 0
  · exact ⟨0, Nat.zero_le _, by rw [hA, nearest_zero]⟩
  obtain ⟨D, x, hk, hD, hx, hq, hc, e⟩ := nearest_rung s A k (by omega)
  obtain ⟨d, rfl⟩ : ∃ d, D = k + d := ⟨D - k, by omega⟩
  rw [show k + d - k = d from by omega] at e
  have hle : d * 4503599627370496 + x ≤ r := by
    apply Classical.byContradiction
    intro hn
    have hmul := Nat.div_mul_le_self A (2 ^ (k + d))
    generalize hQ : A / 2 ^ (k + d) = Q at *
    have hP := Nat.two_pow_pos k
    rcases hc with rfl | ⟨rfl, hlt⟩
    · have h1 : valN r < valN (d * 4503599627370496 + x) := valN_lt (by omega)
      rw [valN_mk (by omega) hx] at h1
      have h2 : valN r * 2 ^ k < x * 2 ^ d * 2 ^ k := Nat.mul_lt_mul_of_pos_right h1 hP
      rw [Nat.mul_assoc, ← Nat.pow_add, Nat.add_comm d k] at h2
      omega
    · have h1 : valN r ≤ valN (d * 4503599627370496 + Q) := by
        rcases Nat.lt_or_ge r (d * 4503599627370496 + Q) with c | c
        · exact Nat.le_of_lt (valN_lt c)
        · rw [show r = d * 4503599627370496 + Q from by omega]; exact Nat.le_refl _
      rw [valN_mk (by omega) (by omega)] at h1
      have h2 : valN r * 2 ^ k ≤ Q * 2 ^ d * 2 ^ k := Nat.mul_le_mul_right _ h1
      rw [Nat.mul_assoc, ← Nat.pow_add, Nat.add_comm d k] at h2
      omega
  exact ⟨d * 4503599627370496 + x, hle, by rw [e, Nat.min_eq_left (by omega)]⟩
/-- What is not below a word is not rounded below it. -/
theorem nearest_ge (s : Bool) (A k r : Nat) (hr : r < 9218868437227405312) (h : valN r * 2 ^ k ≤ A) :
    ∃ R, r ≤ R ∧ R ≤ 9218868437227405312 ∧ double.nearest s A (-1074 - (k : Int)) = double.word s R := by
  by_cases hA : A = 0
  · subst hA
    refine ⟨0, ?_, by omega, nearest_zero _ _⟩
    have := Nat.two_pow_pos k
    have h0 : valN r = 0 := by
      apply Classical.byContradiction
      intro hn
      have : 1 * 1 ≤ valN r * 2 ^ k := Nat.mul_le_mul (by omega) (by omega)
      omega
    apply Classical.byContradiction
    intro hn
    have := valN_lt (r := 0) (t := r) (by omega)
    rw [valN_zero] at this
    omega
  obtain ⟨D, x, hk, hD, hx, hq, hc, e⟩ := nearest_rung s A k (by omega)
  obtain ⟨d, rfl⟩ : ∃ d, D = k + d := ⟨D - k, by omega⟩
  rw [show k + d - k = d from by omega] at e
  have hle : r ≤ d * 4503599627370496 + x := by
    apply Classical.byContradiction
    intro hn
    have hmul : A < (A / 2 ^ (k + d) + 1) * 2 ^ (k + d) := by
      have h1 := Nat.div_add_mod A (2 ^ (k + d))
      have h2 := Nat.mod_lt A (Nat.two_pow_pos (k + d))
      rw [Nat.mul_comm] at h1
      rw [Nat.add_mul, Nat.one_mul]
      omega
    generalize hQ : A / 2 ^ (k + d) = Q at *
    have hP := Nat.two_pow_pos k
    have h1 : valN (d * 4503599627370496 + Q + 1) ≤ valN r := by
      rcases Nat.lt_or_ge (d * 4503599627370496 + Q + 1) r with c | c
      · exact Nat.le_of_lt (valN_lt c)
      · rw [show r = d * 4503599627370496 + Q + 1 from by omega]; exact Nat.le_refl _
    rw [Nat.add_assoc, valN_mk (by omega) (by omega)] at h1
    have h2 : (Q + 1) * 2 ^ d * 2 ^ k ≤ valN r * 2 ^ k := Nat.mul_le_mul_right _ h1
    rw [Nat.mul_assoc, ← Nat.pow_add, Nat.add_comm d k] at h2
    omega
  exact ⟨min (d * 4503599627370496 + x) 9218868437227405312, by omega, Nat.min_le_right _ _, e⟩
end Go.Proofs.YtgdmbcfjjdngdaaDoor
