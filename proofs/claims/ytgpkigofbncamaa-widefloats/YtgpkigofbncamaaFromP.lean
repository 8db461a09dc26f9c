/- Plain facts on a real number without its fraction: how great it is; by halving. -/
import Derived.Test.YtgpkigofbncamaaFrom
namespace Go.Proofs.Ytgpkigofbncamaa
open Go.RowKit Go.Sort

theorem flo_at {r : Nat} (h : 4503599627370496 ≤ r) (h' : 1075 ≤ r / 4503599627370496) : flo r = (4503599627370496 + r % 4503599627370496) * 2 ^ (r / 4503599627370496 - 1075) := by
  unfold flo scl
  rw [if_neg (by omega), if_neg (by omega), show (((r / 4503599627370496 : Nat) : Int) - 1075).toNat = r / 4503599627370496 - 1075 from by omega]
theorem pow_75 : 4503599627370496 * 2 ^ 75 = 170141183460469231731687303715884105728 := by decide
theorem flo_lt {r : Nat} (h : r < 5179139571476070400) : flo r < 170141183460469231731687303715884105728 := by
  by_cases c : r < 4503599627370496
  · unfold flo; rw [if_pos c]; omega
  · by_cases c2 : 1075 ≤ r / 4503599627370496
    · rw [flo_at (by omega) c2]
      have h1 : 2 ^ (r / 4503599627370496 - 1075) ≤ 2 ^ 74 := Nat.pow_le_pow_right (by omega) (by omega)
      have h2 : (4503599627370496 + r % 4503599627370496) * 2 ^ (r / 4503599627370496 - 1075) ≤ (4503599627370496 + r % 4503599627370496) * 2 ^ 74 := Nat.mul_le_mul_left _ h1
      have h3 : (4503599627370496 + r % 4503599627370496) * 2 ^ 74 < 9007199254740992 * 2 ^ 74 := Nat.mul_lt_mul_of_pos_right (by omega) (by decide)
      have h4 : 9007199254740992 * 2 ^ 74 = 170141183460469231731687303715884105728 := by decide
      omega
    · unfold flo scl
      rw [if_neg c, if_pos (by omega)]
      have := Nat.div_le_self (4503599627370496 + r % 4503599627370496) (2 ^ (-(((r / 4503599627370496 : Nat) : Int) - 1075)).toNat)
      omega
theorem flo_ge {r : Nat} (h : 5179139571476070400 ≤ r) : 170141183460469231731687303715884105728 ≤ flo r := by
  rw [flo_at (by omega) (by omega), ← pow_75]
  exact Nat.mul_le_mul (by omega) (Nat.pow_le_pow_right (by omega) (by omega))
theorem flo_gt {r : Nat} (h : 5179139571476070400 < r) : 170141183460469231731687303715884105728 < flo r := by
  rw [flo_at (by omega) (by omega), ← pow_75]
  by_cases c : r / 4503599627370496 = 1150
  · rw [c]
    exact Nat.mul_lt_mul_of_pos_right (by omega) (by decide)
  · have h1 : 2 ^ 76 ≤ 2 ^ (r / 4503599627370496 - 1075) := Nat.pow_le_pow_right (by omega) (by omega)
    have h2 := Nat.mul_le_mul (show 4503599627370496 ≤ 4503599627370496 + r % 4503599627370496 by omega) h1
    have h3 : 4503599627370496 * 2 ^ 76 = 4503599627370496 * 2 ^ 75 + 4503599627370496 * 2 ^ 75 := by decide
    have h4 : 0 < 4503599627370496 * 2 ^ 75 := by decide
    omega
theorem flo_127 : flo 5179139571476070400 = 170141183460469231731687303715884105728 := by
  rw [flo_at (by decide) (by decide)]
/-- A finite number is too wide just if 128 bits do not hold it without its fraction. -/
theorem wide_in {b : Nat} (hf : fin b) : wideB b ↔ ¬ inI (trI b) := by
  obtain ⟨h1, h2⟩ := hf
  unfold wideB trI inI
  by_cases c : 9223372036854775808 < b
  · rw [if_pos c]
    have e : b % 9223372036854775808 = b - 9223372036854775808 := by omega
    rw [e]
    by_cases c2 : 14402511608330846208 < b
    · have := flo_gt (r := b - 9223372036854775808) (by omega)
      omega
    · by_cases c3 : b = 14402511608330846208
      · subst c3
        have : flo (14402511608330846208 - 9223372036854775808) = 170141183460469231731687303715884105728 := flo_127
        omega
      · have := flo_lt (r := b - 9223372036854775808) (by omega)
        omega
  · rw [if_neg c]
    by_cases c0 : b = 9223372036854775808
    · subst c0
      have : flo (9223372036854775808 % 9223372036854775808) = 0 := by decide
      omega
    · have e : b % 9223372036854775808 = b := by omega
      rw [e]
      by_cases c2 : 5179139571476070400 ≤ b
      · have := flo_ge c2
        omega
      · have := flo_lt (r := b) (by omega)
        omega

/-- What a real number below 2^53 is as a whole one. -/
theorem conv_small {r : Nat} (h : r < 4845873199050653696) (w : World) : (convert 66 22 (.float .f64 r)).run Try.prog w = .ok (.int .u64 ((flo r : Nat) : Int)) w := by
  refine run_convert_float_int w 66 22 .f64 .u64 _ _ (by kernel_rfl) (by kernel_rfl) ?_
  have hbd : flo r < 9007199254740992 := by
    unfold flo scl
    split
    · omega
    · split
      · have := Nat.div_le_self (4503599627370496 + r % 4503599627370496) (2 ^ (-(((r / 4503599627370496 : Nat) : Int) - 1075)).toNat)
        omega
      · have : (((r / 4503599627370496 : Nat) : Int) - 1075).toNat = 0 := by omega
        rw [this]; omega
  have key : (FloatKind.f64.decode r).toInt .zero = some ((flo r : Nat) : Int) := by
    by_cases c : r < 4503599627370496
    · have e : FloatKind.f64.decode r = .number false r (-1074) := by
        show Ieee.double.read r = _
        unfold Ieee.Format.read
        rw [dbl_sw, dbl_bin, dbl_inf, dbl_least]
        have e1 : r / 9223372036854775808 % 2 = 0 := by omega
        have e2 : r % 9223372036854775808 = r := by omega
        simp only [e1, e2]
        rw [if_pos c]
        rfl
      rw [e]
      show some (Ieee.signed false (Ieee.Toward.zero.cut false (r <<< (-1074 : Int).toNat) (- -1074 : Int).toNat) 0) = _
      rw [cut_zero]
      have hK : 52 ≤ (- -1074 : Int).toNat := by decide
      have h0 : (-1074 : Int).toNat = 0 := by decide
      generalize (- -1074 : Int).toNat = K at *
      have hz : r <<< (-1074 : Int).toNat / 2 ^ K = 0 := by
        rw [h0, Nat.shiftLeft_zero]
        have : 2 ^ 52 ≤ 2 ^ K := Nat.pow_le_pow_right (by omega) hK
        exact Nat.div_eq_of_lt (by omega)
      rw [hz]
      unfold flo
      rw [if_pos c]
      rfl
    · have hN : Nrm (4503599627370496 + r % 4503599627370496) (r / 4503599627370496 - 1) := ⟨by omega, by omega, by omega⟩
      have hr : fw false (4503599627370496 + r % 4503599627370496) (r / 4503599627370496 - 1) = r := by
        unfold fw; simp only [Bool.false_eq_true, if_false]; omega
      have e : FloatKind.f64.decode r = .number false (4503599627370496 + r % 4503599627370496) (((r / 4503599627370496 - 1 : Nat) : Int) - 1074) := by
        have := read_fw false hN
        rw [hr] at this
        exact this
      rw [e]
      unfold flo scl
      rw [if_neg c]
      generalize hM : 4503599627370496 + r % 4503599627370496 = M at *
      show some (Ieee.signed false (Ieee.Toward.zero.cut false (M <<< (((r / 4503599627370496 - 1 : Nat) : Int) - 1074).toNat) (-(((r / 4503599627370496 - 1 : Nat) : Int) - 1074)).toNat) 0) = _
      rw [cut_zero]
      have e0 : (((r / 4503599627370496 - 1 : Nat) : Int) - 1074).toNat = 0 := by omega
      rw [e0, Nat.shiftLeft_zero]
      unfold Ieee.signed
      rw [if_neg (by simp), Nat.shiftLeft_zero]
      by_cases c2 : ((r / 4503599627370496 : Nat) : Int) - 1075 < 0
      · rw [if_pos c2]
        have e1 : (-(((r / 4503599627370496 - 1 : Nat) : Int) - 1074)).toNat = (-(((r / 4503599627370496 : Nat) : Int) - 1075)).toNat := by omega
        rw [e1]
      · rw [if_neg c2]
        have e1 : (-(((r / 4503599627370496 - 1 : Nat) : Int) - 1074)).toNat = 0 := by omega
        have e2 : (((r / 4503599627370496 : Nat) : Int) - 1075).toNat = 0 := by omega
        rw [e1, e2, Nat.pow_zero, Nat.div_one, Nat.mul_one]
  unfold floatToIntVal
  rw [key]
  exact if_pos ⟨by show (0 : Int) ≤ _; omega, by show _ ≤ (18446744073709551615 : Int); omega⟩
theorem conv_neg0 (w : World) : (convert 66 22 (.float .f64 9223372036854775808)).run Try.prog w = .ok (.int .u64 0) w :=
  run_convert_float_int w 66 22 .f64 .u64 _ _ (by kernel_rfl) (by kernel_rfl) (by decide)
theorem half_run {M E : Nat} (h : Nrm M (E + 1)) (w : World) : (binOp .quo 66 (.float .f64 (fw false M (E + 1))) (.float .f64 4611686018427387904)).run Try.prog w = .ok (.float .f64 (fw false M E)) w :=
  run_float_arith w .quo 66 .f64 _ _ _ (half_word2 false h)
theorem ge53_yes {M E : Nat} (h : Nrm M E) (hE : 1075 ≤ E) : (Ieee.double.order (fw false M E) 4845873199050653696 == some .gt || Ieee.double.order (fw false M E) 4845873199050653696 == some .eq) = true := by
  obtain ⟨l1, l2⟩ := fw_lt h
  have h1 : 4845873199050653696 ≤ fw false M E := by unfold fw; simp only [Bool.false_eq_true, if_false]; have := h.lo; omega
  rcases Nat.lt_or_eq_of_le h1 with h2 | h2
  · rw [pos_gt l1 (by omega) h2]; rfl
  · rw [← h2, order_self (fin_pos (by omega))]; rfl
end Go.Proofs.Ytgpkigofbncamaa
