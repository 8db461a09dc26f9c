/- Plain facts: the real number nearest to a whole one of 65 bits, got by halves and by quarters; nothing of the program is in here. -/
import Derived.Test.YtgdmbcfjjdngdaaDoorSv
set_option linter.unusedSimpArgs false
set_option linter.unusedVariables false
namespace Go.Proofs.YtgdmbcfjjdngdaaDoor
open Ieee

theorem or_one (x : Nat) : x ||| 1 = 2 * (x / 2) + 1 := by
  have h := Nat.two_pow_add_eq_or_of_lt (i := 1) (b := 1) (by decide) (x / 2)
  have h2 : x = 2 ^ 1 * (x / 2) ||| x % 2 := by
    rw [← Nat.two_pow_add_eq_or_of_lt (i := 1) (Nat.mod_lt _ (by decide))]; omega
  rw [show (2 : Nat) ^ 1 = 2 from rfl] at h h2
  conv => lhs; rw [h2]
  rw [Nat.or_assoc]
  have : x % 2 ||| 1 = 1 := by rcases Nat.mod_two_eq_zero_or_one x with e | e <;> rw [e] <;> decide
  rw [this, ← h]
theorem or_high (x : Nat) (h : x < 9223372036854775808) : 9223372036854775808 ||| x = 9223372036854775808 + x := by
  have := Nat.two_pow_add_eq_or_of_lt (i := 63) (b := x) (by omega) 1
  rw [show (2 : Nat) ^ 63 * 1 = 9223372036854775808 from by decide] at this
  exact this.symm
theorem or_quarter (x : Nat) (h : x < 4611686018427387904) : 4611686018427387904 ||| x = 4611686018427387904 + x := by
  have := Nat.two_pow_add_eq_or_of_lt (i := 62) (b := x) (by omega) 1
  rw [show (2 : Nat) ^ 62 * 1 = 4611686018427387904 from by decide] at this
  exact this.symm
/-- The half and the quarter of a number, their last bit saying whether anything is left. -/
def halfA (S : Nat) : Nat := 9223372036854775808 ||| S / 2 ||| S % 2
def quartB (S : Nat) : Nat := if S % 4 = 0 then 4611686018427387904 ||| S / 4 else (4611686018427387904 ||| S / 4) ||| 1
theorem halfA_is {S : Nat} (h : S < 18446744073709551616) : halfA S = 9223372036854775808 + (if S % 2 = 0 then S / 2 else 2 * (S / 2 / 2) + 1) := by
  unfold halfA
  rw [or_high _ (by omega)]
  rcases Nat.mod_two_eq_zero_or_one S with e | e
  · rw [e, if_pos rfl, Nat.or_zero]
  · rw [e, if_neg (by decide), or_one]; omega
theorem quartB_is {S : Nat} (h : S < 18446744073709551616) : quartB S = 4611686018427387904 + (if S % 4 = 0 then S / 4 else 2 * (S / 4 / 2) + 1) := by
  unfold quartB
  rw [or_quarter _ (by omega)]
  split
  · rfl
  · rw [or_one]; omega
theorem rne_half {S : Nat} (h : S < 18446744073709551616) : rne (halfA S) 11 = rne (18446744073709551616 + S) 12 := by
  rw [halfA_is h]
  unfold rne
  rw [show (2 : Nat) ^ 11 = 2048 from by decide, show (2 : Nat) ^ 12 = 4096 from by decide]
  have e : (9223372036854775808 + (if S % 2 = 0 then S / 2 else 2 * (S / 2 / 2) + 1)) / 2048 = (18446744073709551616 + S) / 4096 := by split <;> omega
  rw [e]
  congr 1
  generalize (18446744073709551616 + S) / 4096 % 2 = z
  have e2 : (18446744073709551616 + S) % 4096 = S % 4096 := by omega
  have e3 : (9223372036854775808 + (if S % 2 = 0 then S / 2 else 2 * (S / 2 / 2) + 1)) % 2048 = (if S % 2 = 0 then S % 4096 / 2 else 2 * (S % 4096 / 2 / 2) + 1) := by split <;> omega
  rw [e2, e3]
  have hm : S % 2 = S % 4096 % 2 := by omega
  rw [hm]
  have hlt := Nat.mod_lt S (show 0 < 4096 by decide)
  generalize S % 4096 = t at *
  clear h e e2 e3 hm
  by_cases c : t % 2 = 0
  · rw [if_pos c]
    congr 1
    apply propext
    constructor <;> intro h <;> omega
  · rw [if_neg c]
    congr 1
    apply propext
    constructor <;> intro h <;> omega
theorem rne_quart {S : Nat} (h : S < 18446744073709551616) : rne (quartB S) 10 = rne (18446744073709551616 + S) 12 := by
  rw [quartB_is h]
  unfold rne
  rw [show (2 : Nat) ^ 10 = 1024 from by decide, show (2 : Nat) ^ 12 = 4096 from by decide]
  have e : (4611686018427387904 + (if S % 4 = 0 then S / 4 else 2 * (S / 4 / 2) + 1)) / 1024 = (18446744073709551616 + S) / 4096 := by split <;> omega
  rw [e]
  congr 1
  generalize (18446744073709551616 + S) / 4096 % 2 = z
  have e2 : (18446744073709551616 + S) % 4096 = S % 4096 := by omega
  have e3 : (4611686018427387904 + (if S % 4 = 0 then S / 4 else 2 * (S / 4 / 2) + 1)) % 1024 = (if S % 4 = 0 then S % 4096 / 4 else 2 * (S % 4096 / 4 / 2) + 1) := by split <;> omega
  rw [e2, e3]
  have hm : S % 4 = S % 4096 % 4 := by omega
  rw [hm]
  have hlt := Nat.mod_lt S (show 0 < 4096 by decide)
  generalize S % 4096 = t at *
  clear h e e2 e3 hm
  by_cases c : t % 4 = 0
  · rw [if_pos c]
    congr 1
    apply propext
    constructor <;> intro h <;> omega
  · rw [if_neg c]
    congr 1
    apply propext
    constructor <;> intro h <;> omega
/-- A whole number of 53 + K bits, as the word that is nearest. -/
theorem foi_at (A K : Nat) (hA : 2 ^ (52 + K) ≤ A) (hA' : A < 2 ^ (53 + K)) (hK : K ≤ 20) :
    floatOfInt .f64 (A : Int) = (K + 1074) * 4503599627370496 + rne A K ∧ 4503599627370496 ≤ rne A K ∧ rne A K ≤ 9007199254740992 := by
  have hp := Nat.two_pow_pos K
  have hd1 : 4503599627370496 ≤ A / 2 ^ K := by
    rw [Nat.le_div_iff_mul_le hp]
    have : 2 ^ (52 + K) = 4503599627370496 * 2 ^ K := by rw [Nat.pow_add 2 52 K]
    rw [← this]; exact hA
  have hd2 : A / 2 ^ K < 9007199254740992 := by
    rw [Nat.div_lt_iff_lt_mul hp]
    have : 2 ^ (53 + K) = 9007199254740992 * 2 ^ K := by rw [Nat.pow_add 2 53 K]
    rw [← this]; exact hA'
  have hr : 4503599627370496 ≤ rne A K ∧ rne A K ≤ 9007199254740992 := by unfold rne; split <;> omega
  refine ⟨?_, hr⟩
  show double.nearest (decide ((A : Int) < 0)) (A : Int).natAbs 0 = _
  rw [show decide ((A : Int) < 0) = false from decide_eq_false (by omega), Int.natAbs_natCast, nearest_at false A K 0 hA hA' (by omega), show (0 + (K : Int) + 1074).toNat = K + 1074 from by omega]
  obtain ⟨h1, h2⟩ := hr
  generalize rne A K = R at *
  clear hA hA' hd1 hd2 hp
  unfold Format.word
  simp only [Bool.false_eq_true, if_false]
  omega
/-- A number turned up by e binades. -/
theorem valN_up {r : Nat} (h : 4503599627370496 ≤ r) (e : Nat) : valN (r + e * 4503599627370496) = valN r * 2 ^ e := by
  obtain ⟨d, x, hx1, hx2, rfl⟩ : ∃ d x, 4503599627370496 ≤ x ∧ x < 9007199254740992 ∧ r = d * 4503599627370496 + x :=
    ⟨r / 4503599627370496 - 1, 4503599627370496 + r % 4503599627370496, by omega, by omega, by omega⟩
  rw [show d * 4503599627370496 + x + e * 4503599627370496 = (d + e) * 4503599627370496 + x from by omega, valN_mk (.inr hx1) (by omega), valN_mk (.inr hx1) (by omega), Nat.pow_add, Nat.mul_assoc]
theorem valN_eq {a b : Nat} (h : valN a = valN b) : a = b := by
  rcases Nat.lt_trichotomy a b with c | c | c
  · have := valN_lt c; omega
  · exact c
  · have := valN_lt c; omega
theorem word_eq {c y : Nat} (hc : fin c) (h : sgI c = (valN y : Int)) (h0 : 0 < valN y) : c = y := by
  rcases Nat.lt_or_ge c 9223372036854775808 with hl | hl
  · rw [sgI_lo hl] at h
    exact valN_eq (by omega)
  · unfold sgI at h
    rw [if_neg (by omega)] at h
    omega
theorem one_def : one1 = valN 4607182418800017408 := by rw [one1]
theorem two_val : sgI 4611686018427387904 = 2 * (one1 : Int) := by
  have := valN_up (r := 4607182418800017408) (by decide) 1
  rw [← one_def] at this
  rw [sgI_lo (by decide), show 4611686018427387904 = 4607182418800017408 + 1 * 4503599627370496 from by decide, this]
  generalize one1 = o
  omega
theorem four_val : sgI 4616189618054758400 = 4 * (one1 : Int) := by
  have := valN_up (r := 4607182418800017408) (by decide) 2
  rw [← one_def] at this
  rw [sgI_lo (by decide), show 4616189618054758400 = 4607182418800017408 + 2 * 4503599627370496 from by decide, this]
  generalize one1 = o
  omega
theorem fin_lo {r : Nat} (h : r < 9218868437227405312) : fin r := ⟨by omega, by omega⟩
theorem mul_up {x c e : Nat} (hx : 4503599627370496 ≤ x) (hx2 : x + e * 4503599627370496 < 9218868437227405312) (hc : fin c) (ec : sgI c = (2 ^ e : Nat) * (one1 : Int)) :
    floatBits .mul .f64 c x = some (x + e * 4503599627370496) ∧ floatBits .mul .f64 x c = some (x + e * 4503599627370496) := by
  have fx : fin x := fin_lo (by omega)
  have fy := fin_lo hx2
  have ex : sgI x = (valN x : Int) := sgI_lo (by omega)
  have ey : sgI (x + e * 4503599627370496) = (valN x : Int) * (2 ^ e : Nat) := by rw [sgI_lo (by omega), valN_up hx e, Int.natCast_mul]
  have hv : 0 < valN (x + e * 4503599627370496) := valN_pos (by omega)
  have key : sgI c * sgI x = sgI (x + e * 4503599627370496) * (one1 : Int) := by
    rw [ec, ex, ey]
    generalize ((2 ^ e : Nat) : Int) = p
    generalize (one1 : Int) = o
    generalize (valN x : Int) = v
    rw [Int.mul_assoc, Int.mul_comm p, Int.mul_comm o v, Int.mul_assoc, Int.mul_assoc, Int.mul_comm p o]
  have ey2 : sgI (x + e * 4503599627370496) = (valN (x + e * 4503599627370496) : Int) := sgI_lo (by omega)
  obtain ⟨z, h1, h2, h3, h4⟩ := mul_btw hc fx fy fy (Int.le_of_eq key.symm) (Int.le_of_eq key)
  obtain ⟨z', k1, k2, k3, k4⟩ := mul_btw fx hc fy fy (Int.le_of_eq (by rw [Int.mul_comm (sgI x)]; exact key.symm)) (Int.le_of_eq (by rw [Int.mul_comm (sgI x)]; exact key))
  rw [h1, k1]
  exact ⟨congrArg some (word_eq h2 (by rw [← ey2]; omega) hv), congrArg some (word_eq k2 (by rw [← ey2]; omega) hv)⟩
theorem half_word {S : Nat} (h : S < 18446744073709551616) : floatBits .mul .f64 4611686018427387904 (floatOfInt .f64 (halfA S : Int)) = some (floatOfInt .f64 ((18446744073709551616 + S : Nat) : Int)) := by
  have hA := halfA_is h
  have hA1 : 9223372036854775808 ≤ halfA S ∧ halfA S < 18446744073709551616 := by rw [hA]; split <;> omega
  obtain ⟨e1, r1, r2⟩ := foi_at (halfA S) 11 (by rw [show (2 : Nat) ^ (52 + 11) = 9223372036854775808 from by decide]; omega) (by rw [show (2 : Nat) ^ (53 + 11) = 18446744073709551616 from by decide]; omega) (by omega)
  obtain ⟨e2, q1, q2⟩ := foi_at (18446744073709551616 + S) 12 (by rw [show (2 : Nat) ^ (52 + 12) = 18446744073709551616 from by decide]; omega) (by rw [show (2 : Nat) ^ (53 + 12) = 36893488147419103232 from by decide]; omega) (by omega)
  rw [e2, ← rne_half h]
  have := (mul_up (x := floatOfInt .f64 (halfA S : Int)) (c := 4611686018427387904) (e := 1) (by rw [e1]; omega) (by rw [e1]; omega) (fin_lo (by decide)) (by rw [two_val]; rfl)).1
  rw [this, e1]
  congr 1
  omega
theorem quart_word {S : Nat} (h : S < 18446744073709551616) : floatBits .mul .f64 (floatOfInt .f64 (quartB S : Int)) 4616189618054758400 = some (floatOfInt .f64 ((18446744073709551616 + S : Nat) : Int)) := by
  have hA := quartB_is h
  have hA1 : 4611686018427387904 ≤ quartB S ∧ quartB S < 9223372036854775808 := by rw [hA]; split <;> omega
  obtain ⟨e1, r1, r2⟩ := foi_at (quartB S) 10 (by rw [show (2 : Nat) ^ (52 + 10) = 4611686018427387904 from by decide]; omega) (by rw [show (2 : Nat) ^ (53 + 10) = 9223372036854775808 from by decide]; omega) (by omega)
  obtain ⟨e2, q1, q2⟩ := foi_at (18446744073709551616 + S) 12 (by rw [show (2 : Nat) ^ (52 + 12) = 18446744073709551616 from by decide]; omega) (by rw [show (2 : Nat) ^ (53 + 12) = 36893488147419103232 from by decide]; omega) (by omega)
  rw [e2, ← rne_quart h]
  have := (mul_up (x := floatOfInt .f64 (quartB S : Int)) (c := 4616189618054758400) (e := 2) (by rw [e1]; omega) (by rw [e1]; omega) (fin_lo (by decide)) (by rw [four_val]; rfl)).2
  rw [this, e1]
  congr 1
  omega
end Go.Proofs.YtgdmbcfjjdngdaaDoor
