/- Plain: a product, a sum, a quotient of two middling numbers above 0, and how far it is off. -/
import Derived.Test.YtgdmbcfjjdngdaaDoorEr2
set_option linter.unusedSimpArgs false
namespace Go.Proofs.YtgdmbcfjjdngdaaDoor
open Ieee

theorem log2_mul {m n : Nat} (h1 : 4503599627370496 ≤ m) (h2 : m < 9007199254740992) (h3 : 4503599627370496 ≤ n) (h4 : n < 9007199254740992) : 104 ≤ (m * n).log2 ∧ (m * n).log2 ≤ 106 := by
  have a : 4503599627370496 * 4503599627370496 ≤ m * n := Nat.mul_le_mul h1 h3
  have b : m * n ≤ 9007199254740992 * 9007199254740992 := Nat.mul_le_mul (by omega) (by omega)
  have p : 0 < m * n := by omega
  constructor
  · exact (Nat.le_log2 (by omega)).2 (Nat.le_trans (by decide) a)
  · have : (m * n).log2 < 107 := (Nat.log2_lt (by omega)).2 (Nat.lt_of_le_of_lt b (by decide))
    omega
theorem mul_nb {a b u v : Nat} (ha : Pn a u) (hb : Pn b v) : ∃ c, floatBits .mul .f64 a b = some c ∧ 4503599627370496 ≤ c ∧ c < 9218868437227405312 ∧ Nb 1 (valN c * one1) (u * v) := by
  obtain ⟨m1, k1, e1, v1, l1, g1, p1, q1⟩ := ha.read
  obtain ⟨m2, k2, e2, v2, l2, g2, p2, q2⟩ := hb.read
  obtain ⟨x1, x2⟩ := log2_mul l1 g1 l2 g2
  have pos : 0 < m1 * m2 := Nat.mul_pos (by omega) (by omega)
  obtain ⟨r, r0, r1, r2, r3, r4⟩ := near_any false (m1 * m2) 1126 (k1 + k2) pos (by omega) (by omega)
  refine ⟨r, ?_, r1, r2, ?_⟩
  · show Format.mul double a b = _
    unfold Format.mul
    rw [e1, e2]
    show some (double.nearest _ (m1 * m2) ((k1 : Int) - 1074 + ((k2 : Int) - 1074))) = _
    rw [show ((k1 : Int) - 1074 + ((k2 : Int) - 1074)) = (((k1 + k2 : Nat) : Int) - ((1126 : Nat) : Int) - 1074 + 52) from by omega]
    show some (double.nearest false _ _) = _
    rw [r3]
    rfl
  · rw [← v1, ← v2, one_is']
    obtain ⟨T, hT⟩ : ∃ T : Nat, T = 1074 := ⟨_, rfl⟩
    obtain ⟨S, hS⟩ : ∃ S : Nat, S = 1126 := ⟨_, rfl⟩
    rw [← hT]
    rw [← hS] at r4
    refine Nb.cancel (Nat.two_pow_pos 52) ?_
    have w1 : valN r * 2 ^ T * 2 ^ 52 = valN r * 2 ^ S := by rw [Nat.mul_assoc, ← Nat.pow_add, show T + 52 = S from by omega]
    have w2 : m1 * 2 ^ k1 * (m2 * 2 ^ k2) * 2 ^ 52 = m1 * m2 * 2 ^ (k1 + k2 + 52) := by rw [Nat.mul_mul_mul_comm, ← Nat.pow_add, Nat.mul_assoc, ← Nat.pow_add]
    rw [w1, w2]
    exact r4
theorem add_nb {a b u v : Nat} (ha : Pn a u) (hb : Pn b v) : ∃ c, floatBits .add .f64 a b = some c ∧ 4503599627370496 ≤ c ∧ c < 9218868437227405312 ∧ Nb 1 (valN c) (u + v) := by
  obtain ⟨m1, k1, e1, v1, l1, g1, p1, q1⟩ := ha.read
  obtain ⟨m2, k2, e2, v2, l2, g2, p2, q2⟩ := hb.read
  obtain ⟨z, hz⟩ : ∃ z, z = min k1 k2 := ⟨_, rfl⟩
  obtain ⟨A, hA⟩ : ∃ A, A = m1 * 2 ^ (k1 - z) + m2 * 2 ^ (k2 - z) := ⟨_, rfl⟩
  have b1 : m1 * 2 ^ (k1 - z) < 2 ^ 220 := by
    have h1 : 2 ^ (k1 - z) ≤ 2 ^ 161 := Nat.pow_le_pow_right (by omega) (by omega)
    have h2 : m1 * 2 ^ (k1 - z) ≤ 9007199254740992 * 2 ^ 161 := Nat.mul_le_mul (by omega) h1
    exact Nat.lt_of_le_of_lt h2 (by decide)
  have b2 : m2 * 2 ^ (k2 - z) < 2 ^ 220 := by
    have h1 : 2 ^ (k2 - z) ≤ 2 ^ 161 := Nat.pow_le_pow_right (by omega) (by omega)
    have h2 : m2 * 2 ^ (k2 - z) ≤ 9007199254740992 * 2 ^ 161 := Nat.mul_le_mul (by omega) h1
    exact Nat.lt_of_le_of_lt h2 (by decide)
  have c1 : 0 < m1 * 2 ^ (k1 - z) := Nat.mul_pos (by omega) (Nat.two_pow_pos _)
  have pos : 0 < A := by omega
  have lg : A.log2 < 222 := (Nat.log2_lt (by omega)).2 (by rw [hA]; exact Nat.lt_of_lt_of_le (Nat.add_lt_add b1 b2) (by decide))
  obtain ⟨r, r0, r1, r2, r3, r4⟩ := near_any false A 52 z pos (by omega) (by omega)
  refine ⟨r, ?_, r1, r2, ?_⟩
  · show Format.add double a b = _
    unfold Format.add
    rw [e1, e2]
    simp only [Datum.sum, Option.map_some, Format.write]
    rw [show min ((k1 : Int) - 1074) ((k2 : Int) - 1074) = (z : Int) - 1074 from by omega, show ((k1 : Int) - 1074 - ((z : Int) - 1074)).toNat = k1 - z from by omega, show ((k2 : Int) - 1074 - ((z : Int) - 1074)).toNat = k2 - z from by omega]
    have hs : signed false m1 (k1 - z) + signed false m2 (k2 - z) = (A : Int) := by
      unfold signed
      rw [if_neg (by decide), if_neg (by decide), Nat.shiftLeft_eq, Nat.shiftLeft_eq, hA, Int.natCast_add]
    rw [hs, if_neg (by omega), decide_eq_false (by omega), Int.natAbs_natCast]
    rw [show (z : Int) - 1074 = ((z : Nat) : Int) - ((52 : Nat) : Int) - 1074 + 52 from by omega, r3]
    rfl
  · have w : u + v = A * 2 ^ z := by
      rw [hA, ← v1, ← v2, Nat.add_mul, Nat.mul_assoc, Nat.mul_assoc, ← Nat.pow_add, ← Nat.pow_add, show k1 - z + z = k1 from by omega, show k2 - z + z = k2 from by omega]
    rw [w]
    refine Nb.cancel (Nat.two_pow_pos 52) ?_
    have e : A * 2 ^ z * 2 ^ 52 = A * 2 ^ (z + 52) := by rw [Nat.mul_assoc, ← Nat.pow_add]
    rw [e]
    exact r4
theorem nb_pq {P Q n : Nat} (h1 : P ≤ Q + n) (h2 : Q ≤ P + n) (h3 : n * 9007199254740992 ≤ Q) (h4 : n * 9007199254740992 ≤ P) : Nb 1 P Q := by
  have a1 : P * 9007199254740992 ≤ (Q + n) * 9007199254740992 := Nat.mul_le_mul_right _ h1
  have a2 : Q * 9007199254740992 ≤ (P + n) * 9007199254740992 := Nat.mul_le_mul_right _ h2
  rw [Nat.add_mul] at a1 a2
  refine ⟨?_, ?_⟩
  · rw [Nat.mul_add, Nat.mul_one]; exact Nat.le_trans a1 (Nat.add_le_add_left h3 _)
  · rw [Nat.mul_add, Nat.mul_one]; exact Nat.le_trans a2 (Nat.add_le_add_left h4 _)
theorem nb_st {y n t : Nat} (h : n * 9007199254740992 ≤ y) (h1 : 0 < t) (h2 : t < n) : Nb 1 (2 * y + n) (2 * (y + t)) :=
  nb_pq (by omega) (by omega) (Nat.le_trans h (by omega)) (Nat.le_trans h (by omega))
theorem log2_q {q A : Nat} (h1 : 9007199254740992 ≤ q) (h2 : q < 36028797018963968) (h3 : 2 * q ≤ A) (h4 : A ≤ 2 * q + 1) : 0 < A ∧ 54 ≤ A.log2 ∧ A.log2 < 57 :=
  ⟨by omega, (Nat.le_log2 (by omega)).2 (by omega), (Nat.log2_lt (by omega)).2 (by omega)⟩
set_option maxRecDepth 10000 in
theorem quo_nb {a b u v : Nat} (ha : Pn a u) (hb : Pn b v) : ∃ c, floatBits .quo .f64 a b = some c ∧ 4503599627370496 ≤ c ∧ c < 9218868437227405312 ∧ Nb 3 (valN c * v) (u * one1) := by
  obtain ⟨m1, k1, e1, v1, l1, g1, p1, q1⟩ := ha.read
  obtain ⟨m2, k2, e2, v2, l2, g2, p2, q2⟩ := hb.read
  have lg1 : m1.log2 = 52 := log2_of l1 g1
  have lg2 : m2.log2 = 52 := log2_of l2 g2
  obtain ⟨q, hq⟩ : ∃ q, q = m1 * 2 ^ 54 / m2 := ⟨_, rfl⟩
  obtain ⟨t, ht⟩ : ∃ t, t = m1 * 2 ^ 54 % m2 := ⟨_, rfl⟩
  have hdm := Nat.div_add_mod (m1 * 2 ^ 54) m2
  have htl : t < m2 := by rw [ht]; exact Nat.mod_lt _ (by omega)
  rw [← hq, ← ht] at hdm
  have hql : 9007199254740992 ≤ q := by
    rw [hq, Nat.le_div_iff_mul_le (by omega)]
    omega
  have hqg : q < 36028797018963968 := by
    rw [hq, Nat.div_lt_iff_lt_mul (by omega)]
    omega
  obtain ⟨A, hA⟩ : ∃ A, A = 2 * q + (m1 * 2 ^ 54 % m2 != 0).toNat := ⟨_, rfl⟩
  have hst : (m1 * 2 ^ 54 % m2 != 0).toNat = 0 ∧ t = 0 ∨ (m1 * 2 ^ 54 % m2 != 0).toNat = 1 ∧ 0 < t := by
    rw [← ht]
    by_cases c : t = 0
    · exact .inl ⟨by simp [c], c⟩
    · exact .inr ⟨by simp [c], by omega⟩
  have N1 : Nb 1 (A * m2) (m1 * 2 ^ 55) := by
    have h55 : m1 * 2 ^ 55 = 2 * (m2 * q + t) := by rw [hdm]; omega
    have hbig : m2 * 9007199254740992 ≤ m2 * q := Nat.mul_le_mul_left _ hql
    rcases hst with ⟨h1, h2⟩ | ⟨h1, h2⟩
    · rw [hA, h1, h55, h2, Nat.add_zero, Nat.add_zero, Nat.mul_assoc, Nat.mul_comm q]
      exact (Nb.refl _).mono (by omega)
    · rw [hA, h1, h55, Nat.add_mul, Nat.one_mul, Nat.mul_assoc, Nat.mul_comm q]
      exact nb_st hbig h2 htl
  have hA1 : 2 * q ≤ A ∧ A ≤ 2 * q + 1 := by
    rcases hst with ⟨h1, _⟩ | ⟨h1, _⟩
    · rw [hA, h1]; exact ⟨Nat.le_refl _, Nat.le_succ _⟩
    · rw [hA, h1]; exact ⟨Nat.le_succ _, Nat.le_refl _⟩
  obtain ⟨posA, lgA', lgA⟩ := log2_q hql hqg hA1.1 hA1.2
  have c1 : k2 + 1 ≤ A.log2 + (k1 + 967) := by clear hst hA hdm N1 hA1 hq ht; omega
  have c2 : A.log2 + (k1 + 967) ≤ k2 + 2000 := by clear hst hA hdm N1 hA1 hq ht; omega
  obtain ⟨r, r0, r1, r2, r3, r4⟩ := near_any false A k2 (k1 + 967) posA c1 c2
  refine ⟨r, ?_, r1, r2, ?_⟩
  · show Format.div double a b = _
    unfold Format.div
    rw [e1, e2]
    simp only [Datum.quotient, dbl_frac]
    rw [if_neg (by omega), lg1, lg2, show 52 + 2 + 52 - 52 = 54 from rfl, Nat.shiftLeft_eq]
    show some (double.nearest false (2 * (m1 * 2 ^ 54 / m2) + (m1 * 2 ^ 54 % m2 != 0).toNat) ((k1 : Int) - 1074 - ((k2 : Int) - 1074) - ((54 : Nat) : Int) - 1)) = _
    rw [← hq, ← hA, show ((k1 : Int) - 1074 - ((k2 : Int) - 1074) - ((54 : Nat) : Int) - 1) = (((k1 + 967 : Nat) : Int) - (k2 : Int) - 1074 + 52) from by omega, r3]
    rfl
  · have s1 := r4.mulr m2
    have s2 := N1.mulr (2 ^ (k1 + 967 + 52))
    have w1 : valN r * 2 ^ k2 * m2 = valN r * v := by rw [Nat.mul_assoc, Nat.mul_comm (2 ^ k2), v2]
    have w2 : A * 2 ^ (k1 + 967 + 52) * m2 = A * m2 * 2 ^ (k1 + 967 + 52) := Nat.mul_right_comm _ _ _
    have w3 : m1 * 2 ^ 55 * 2 ^ (k1 + 967 + 52) = u * one1 := by
      obtain ⟨T, hT⟩ : ∃ T : Nat, T = 1074 := ⟨_, rfl⟩
      rw [one_is', ← hT, ← v1, Nat.mul_assoc, Nat.mul_assoc, ← Nat.pow_add, ← Nat.pow_add, show 55 + (k1 + 967 + 52) = k1 + T from by omega]
    rw [w1, w2] at s1
    rw [w3] at s2
    exact s1.trans s2 (by decide)
end Go.Proofs.YtgdmbcfjjdngdaaDoor
