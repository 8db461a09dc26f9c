/- Plain facts on quotients and their products, and on numbers of 53 bits as real ones. -/
import Derived.Test.YtgpkigofbncamabFrom
namespace Go.Proofs.Ytgpkigofbncamab
open Go.RowKit Go.Sort

theorem quo_id {a d : Int} (h : d ≠ 0) : qI a d * d + qR a d = a := by
  have hD : 0 < absI d := by unfold absI; split <;> omega
  have h1 := Int.mul_ediv_add_emod (absI a) (absI d)
  rw [Int.mul_comm] at h1
  have ea : absI a = if a < 0 then -a else a := rfl
  have ed : absI d = if d < 0 then -d else d := rfl
  unfold qI qR qS
  generalize absI a / absI d = q at *
  generalize absI a % absI d = r at *
  by_cases ca : a < 0
  · rw [if_pos ca] at ea
    by_cases cd : d < 0
    · rw [if_pos cd] at ed
      rw [ed, Int.mul_neg] at h1
      simp only [ca, cd, decide_true, true_and]
      by_cases cr : r = 0
      · subst cr
        simp
        omega
      · rw [if_pos cr, if_pos cr, if_neg (by simp), Int.add_mul]
        omega
    · rw [if_neg cd] at ed
      rw [ed] at h1
      simp only [ca, cd, decide_true, decide_false, true_and]
      by_cases cr : r = 0
      · subst cr
        simp
        rw [Int.neg_mul]
        omega
      · rw [if_pos cr, if_pos cr, if_pos (by simp), Int.neg_mul, Int.add_mul]
        omega
  · rw [if_neg ca] at ea
    by_cases cd : d < 0
    · rw [if_pos cd] at ed
      rw [ed, Int.mul_neg] at h1
      simp only [ca, cd, decide_true, decide_false, false_and, if_false]
      rw [if_pos (by simp), Int.neg_mul]
      omega
    · rw [if_neg cd] at ed
      rw [ed] at h1
      simp only [ca, cd, decide_false, false_and, if_false]
      rw [if_neg (by simp)]
      omega
theorem quo_bd {a d : Int} (ha : -9223372036854775808 ≤ a) (ha' : a ≤ 9223372036854775807) (h : d ≠ 0) : inI (qI a d) ∧ 0 ≤ qR a d ∧
    (¬ (-9223372036854775808 ≤ qI a d ∧ qI a d ≤ 9223372036854775807) → d = -1 ∧ a = -9223372036854775808) := by
  have hD : 0 < absI d := by unfold absI; split <;> omega
  have h0 : 0 ≤ absI a := by unfold absI; split <;> omega
  have hA : absI a ≤ 9223372036854775808 := by unfold absI; split <;> omega
  have q0 : 0 ≤ absI a / absI d := Int.ediv_nonneg h0 (by omega)
  have q1 : absI a / absI d ≤ absI a := Int.ediv_le_self _ h0
  have r0 := Int.emod_nonneg (absI a) (show absI d ≠ 0 by omega)
  have r1 := Int.emod_lt_of_pos (absI a) hD
  have q2 : 2 ≤ absI d → absI a / absI d ≤ 4611686018427387904 := fun h2 => by
    have := Int.mul_ediv_add_emod (absI a) (absI d)
    have h3 : 2 * (absI a / absI d) ≤ absI d * (absI a / absI d) := Int.mul_le_mul_of_nonneg_right h2 q0
    omega
  have q3 : absI d = 1 → absI a / absI d = absI a ∧ absI a % absI d = 0 := fun h1 => by rw [h1]; omega
  have ea : absI a = if a < 0 then -a else a := rfl
  have ed : absI d = if d < 0 then -d else d := rfl
  unfold qI qR qS inI
  generalize absI a / absI d = q at *
  generalize absI a % absI d = r at *
  generalize absI a = A at *
  generalize absI d = D at *
  by_cases c : D = 1
  · obtain ⟨e1, e2⟩ := q3 c
    subst e2
    simp only [ne_eq, not_true_eq_false, and_false, if_false]
    by_cases ca : a < 0 <;> by_cases cd : d < 0 <;> simp [ca, cd] at ea ed ⊢ <;> omega
  · have := q2 (by omega)
    by_cases ca : a < 0 <;> by_cases cd : d < 0 <;> by_cases cr : r = 0 <;> simp [ca, cd, cr] <;> omega

theorem neg_word (X : Nat) (h : X < 9223372036854775808) : Op.negFloat .f64 X = X + 9223372036854775808 := by
  show X ^^^ 2 ^ 63 = _
  apply Nat.eq_of_testBit_eq
  intro i
  have e : X + 9223372036854775808 = 2 ^ 63 ||| X := by
    have := Nat.shiftLeft_add_eq_or_of_lt (show X < 2 ^ 63 from h) 1
    rw [Nat.one_shiftLeft] at this
    omega
  rw [e, Nat.testBit_xor, Nat.testBit_or, Nat.testBit_two_pow]
  by_cases hi : 63 = i
  · subst hi
    rw [Nat.testBit_lt_two_pow (show X < 2 ^ 63 from h)]
    rfl
  · simp [hi]
/-- A number of 53 bits goes to the real numbers and back. -/
theorem small_back {s : Int} (h : -4503599627370496 ≤ s) (h' : s ≤ 4503599627370496) : flI s < 18446744073709551616 ∧ ¬ isN (flI s) ∧ ¬ wideB (flI s) ∧ trI (flI s) = s := by
  by_cases h0 : s = 0
  · subst h0
    have e : flI 0 = 0 := by unfold flI; rw [if_neg (by omega)]; exact nearest_zero false 0
    rw [e]
    unfold isN wideB trI
    have : flo (0 % 9223372036854775808) = 0 := by decide
    omega
  · have l1 : 2 ^ s.natAbs.log2 ≤ s.natAbs := Nat.log2_self_le (by omega)
    have l2 : s.natAbs < 2 ^ (s.natAbs.log2 + 1) := Nat.lt_log2_self
    have l3 : s.natAbs.log2 ≤ 52 := by
      have := (Nat.log2_lt (n := s.natAbs) (k := 53) (by omega)).2 (by omega)
      omega
    obtain ⟨n1, n2⟩ := nearest_small false s.natAbs s.natAbs.log2 (s.natAbs.log2 + 1022) 0 l1 l2 l3 (by omega) (by omega)
    obtain ⟨p1, p2⟩ := fw_parts n2
    obtain ⟨w1, w2⟩ := fw_lt n2
    have hX : fw false (s.natAbs * 2 ^ (52 - s.natAbs.log2)) (s.natAbs.log2 + 1022) < 5179139571476070400 := by
      have := n2.hi
      unfold fw; simp only [Bool.false_eq_true, if_false]; omega
    have hF : flo (fw false (s.natAbs * 2 ^ (52 - s.natAbs.log2)) (s.natAbs.log2 + 1022)) = s.natAbs := by
      unfold flo
      rw [if_neg (by omega), p1, p2]
      have lo := n2.lo
      rw [show 4503599627370496 + (s.natAbs * 2 ^ (52 - s.natAbs.log2) - 4503599627370496) = s.natAbs * 2 ^ (52 - s.natAbs.log2) from by omega]
      unfold scl
      generalize s.natAbs.log2 = L at *
      by_cases c : L = 52
      · subst c
        rw [if_neg (by omega), show ((((52 + 1022 + 1 : Nat)) : Int) - 1075).toNat = 0 from rfl, show 52 - 52 = 0 from rfl]
        omega
      · rw [if_pos (by omega), show (-(((L + 1022 + 1 : Nat) : Int) - 1075)).toNat = 52 - L from by omega]
        exact Nat.mul_div_cancel _ (Nat.two_pow_pos _)
    generalize fw false (s.natAbs * 2 ^ (52 - s.natAbs.log2)) (s.natAbs.log2 + 1022) = X at *
    unfold flI
    rw [n1]
    by_cases c : s < 0
    · rw [if_pos c, neg_word X (by omega)]
      unfold isN wideB trI
      rw [if_pos (by omega), show (X + 9223372036854775808) % 9223372036854775808 = X from by omega, hF]
      omega
    · rw [if_neg c]
      unfold isN wideB trI
      rw [if_neg (by omega), show X % 9223372036854775808 = X from by omega, hF]
      omega
end Go.Proofs.Ytgpkigofbncamab
