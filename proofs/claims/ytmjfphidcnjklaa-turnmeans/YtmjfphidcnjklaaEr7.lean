/- Plain: the root of a square of a whole number, the square rounded, is that number; nothing of the program is in here. -/
import Derived.Test.YtmjfphidcnjklaaEr5
set_option linter.unusedSimpArgs false
namespace Go.Proofs.Ytmjfphidcnjklaa
open Ieee

/-- A whole number of more than 52 bits, rounded. -/
theorem near_half (A K : Nat) (hA : 2 ^ (52 + K) ≤ A) (hA' : A < 2 ^ (53 + K)) (hK : K ≤ 900) :
    ∃ R, double.nearest false A 0 = (K + 1074) * 4503599627370496 + R ∧ 4503599627370496 ≤ R ∧ R ≤ 9007199254740992 ∧ 2 * (R * 2 ^ K) ≤ 2 * A + 2 ^ K ∧ 2 * A ≤ 2 * (R * 2 ^ K) + 2 ^ K ∧ valN ((K + 1074) * 4503599627370496 + R) = R * 2 ^ (K + 1074) := by
  have hP := Nat.two_pow_pos K
  have hd1 : 4503599627370496 ≤ A / 2 ^ K := by
    rw [Nat.le_div_iff_mul_le hP]
    have : 2 ^ (52 + K) = 4503599627370496 * 2 ^ K := by rw [Nat.pow_add]
    rw [← this]; exact hA
  have hd2 : A / 2 ^ K < 9007199254740992 := by
    rw [Nat.div_lt_iff_lt_mul hP]
    have : 2 ^ (53 + K) = 9007199254740992 * 2 ^ K := by rw [Nat.pow_add]
    rw [← this]; exact hA'
  have hdm := Nat.div_add_mod A (2 ^ K)
  have hm := Nat.mod_lt A hP
  have hR : ∃ R, R = rne A K ∧ 4503599627370496 ≤ R ∧ R ≤ 9007199254740992 ∧ 2 * (R * 2 ^ K) ≤ 2 * A + 2 ^ K ∧ 2 * A ≤ 2 * (R * 2 ^ K) + 2 ^ K := by
    refine ⟨_, rfl, ?_⟩
    unfold rne
    rw [Nat.mul_comm] at hdm
    generalize A / 2 ^ K = q at *
    generalize A % 2 ^ K = m at *
    split
    · refine ⟨by omega, by omega, ?_, ?_⟩ <;> rw [Nat.add_mul, Nat.one_mul] <;> omega
    · refine ⟨by omega, by omega, ?_, ?_⟩ <;> rw [Nat.add_zero] <;> omega
  obtain ⟨R, hRe, r1, r2, r3, r4⟩ := hR
  refine ⟨R, ?_, r1, r2, r3, r4, ?_⟩
  · rw [nearest_at false A K 0 hA hA' (by omega), ← hRe, show ((0 : Int) + (K : Int) + 1074).toNat = K + 1074 from by omega, Nat.min_eq_left (by omega)]
    unfold Format.word
    simp
  · generalize hE : K + 1074 = E at *
    unfold valN
    rw [if_neg (by omega)]
    by_cases c : R = 9007199254740992
    · rw [c, show (E * 4503599627370496 + 9007199254740992) % 4503599627370496 = 0 from by omega, show (E * 4503599627370496 + 9007199254740992) / 4503599627370496 - 1 = E + 1 from by omega, Nat.pow_succ]
      omega
    · rw [show (E * 4503599627370496 + R) % 4503599627370496 = R - 4503599627370496 from by omega, show (E * 4503599627370496 + R) / 4503599627370496 - 1 = E from by omega, show 4503599627370496 + (R - 4503599627370496) = R from by omega]
/-- Where a root lies whose square is nearly a square. -/
theorem root_in {B n w M1 : Nat} (h1 : n ≤ B * B + M1) (h2 : B * B ≤ n + M1) (hM : M1 ≤ 3 * B) (hB : 8 ≤ B) (s1 : w * w ≤ n) (s2 : n < (w + 1) * (w + 1)) : B ≤ w + 2 ∧ w ≤ B + 1 := by
  constructor
  · apply Classical.byContradiction
    intro c
    have k1 : (w + 1) * (w + 1) ≤ (B - 2) * (B - 2) := Nat.mul_le_mul (by omega) (by omega)
    obtain ⟨b, rfl⟩ : ∃ b, B = b + 2 := ⟨B - 2, by omega⟩
    rw [Nat.add_sub_cancel] at k1
    have e : (b + 2) * (b + 2) = b * b + 4 * b + 4 := by rw [Nat.add_mul, Nat.mul_add, Nat.mul_add]; omega
    rw [e] at h2
    generalize b * b = x at *
    generalize (w + 1) * (w + 1) = y at *
    omega
  · apply Classical.byContradiction
    intro c
    have k1 : (B + 2) * (B + 2) ≤ w * w := Nat.mul_le_mul (by omega) (by omega)
    have e : (B + 2) * (B + 2) = B * B + 4 * B + 4 := by rw [Nat.add_mul, Nat.mul_add, Nat.mul_add]; omega
    rw [e] at k1
    generalize B * B = x at *
    generalize w * w = y at *
    omega
theorem rne3 {A c : Nat} (h1 : 4096 * c ≤ A + 4) (h2 : A ≤ 4096 * c + 3) : rne A 3 = 512 * c := by
  unfold rne
  rw [show (2 : Nat) ^ 3 = 8 from rfl]
  split <;> omega
theorem big_enough {M n B : Nat} (hM : M = 56 ∨ M = 57) (h1 : 4503599627370496 * 2 ^ M ≤ n) (h2 : n ≤ B * B + 2 ^ (M - 1)) : 2 ^ (M - 1) ≤ 3 * B := by
  apply Classical.byContradiction
  intro c
  rcases hM with rfl | rfl
  · have k : (3 * B) * (3 * B) ≤ 36028797018963968 * 36028797018963968 := Nat.mul_le_mul (by simp at c; omega) (by simp at c; omega)
    rw [Nat.mul_mul_mul_comm] at k
    simp at h1 h2
    generalize B * B = x at *
    omega
  · have k : (3 * B) * (3 * B) ≤ 72057594037927936 * 72057594037927936 := Nat.mul_le_mul (by simp at c; omega) (by simp at c; omega)
    rw [Nat.mul_mul_mul_comm] at k
    simp at h1 h2
    generalize B * B = x at *
    omega
end Go.Proofs.Ytmjfphidcnjklaa
