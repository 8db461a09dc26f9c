/- Plain: the root of a square of a whole number, the square rounded, is that number; nothing of the program is in here. -/
import Derived.Test.YtmjfphidcnjklaaEr7
set_option linter.unusedSimpArgs false
namespace Go.Proofs.Ytmjfphidcnjklaa
open Ieee

theorem pow_split {a b c : Nat} (h : a = b + c) : 2 ^ a = 2 ^ b * 2 ^ c := by rw [h, Nat.pow_add]
/-- The root of a word whose value is nearly the square of N. -/
theorem sqrt_near {a v Z m k : Nat} (e1 : double.read a = .number false m ((k : Int) - 1074)) (v1 : m * 2 ^ k = v) (l1 : 4503599627370496 ≤ m) (g1 : m < 9007199254740992) (p1 : 941 ≤ k) (q1 : k ≤ 1109)
    (hZ : 0 < Z) (d1 : 2 * v ≤ 2 * (Z * Z * 2 ^ 1074) + 2 ^ k) (d2 : 2 * (Z * Z * 2 ^ 1074) ≤ 2 * v + 2 ^ k) :
    ∃ c, FloatKind.f64.format.sqrt a = some c ∧ c < 9218868437227405312 ∧ valN c = Z * one1 := by
  have lg : m.log2 = 52 := log2_of l1 g1
  obtain ⟨M, hM⟩ : ∃ M : Nat, M = 56 + (((k : Int) - 1074 - 56) % 2).toNat := ⟨_, rfl⟩
  have hM1 : 56 ≤ M ∧ M ≤ 57 := by omega
  obtain ⟨f, hf⟩ : ∃ f : Nat, k = M + 2 * f := ⟨(k - M) / 2, by omega⟩
  obtain ⟨h, hh⟩ : ∃ h : Nat, f + (h + 11) = 537 := ⟨526 - f, by omega⟩
  obtain ⟨n, hn⟩ : ∃ n, n = m * 2 ^ M := ⟨_, rfl⟩
  obtain ⟨B, hB⟩ : ∃ B, B = Z * 2 ^ (h + 11) := ⟨_, rfl⟩
  have n1 : 2 ^ 108 ≤ n := by
    have h1 : 2 ^ 56 ≤ 2 ^ M := Nat.pow_le_pow_right (by omega) hM1.1
    have h2 : 4503599627370496 * 2 ^ 56 ≤ m * 2 ^ M := Nat.mul_le_mul l1 h1
    rw [hn]; exact Nat.le_trans (by decide) h2
  have n2 : n < 2 ^ 110 := by
    have h1 : 2 ^ M ≤ 2 ^ 57 := Nat.pow_le_pow_right (by omega) hM1.2
    have h2 : m * 2 ^ M < 9007199254740992 * 2 ^ M := Nat.mul_lt_mul_of_pos_right g1 (Nat.two_pow_pos _)
    have h3 : 9007199254740992 * 2 ^ M ≤ 9007199254740992 * 2 ^ 57 := Nat.mul_le_mul_left _ h1
    rw [hn]; exact Nat.lt_of_lt_of_le h2 (Nat.le_trans h3 (by decide))
  -- all in units of 4 ^ f
  have F := Nat.two_pow_pos (2 * f)
  have ev : v = n * 2 ^ (2 * f) := by rw [← v1, hn, hf, Nat.pow_add, Nat.mul_assoc]
  have eZ : Z * Z * 2 ^ 1074 = B * B * 2 ^ (2 * f) := by
    obtain ⟨T, hT⟩ : ∃ T : Nat, T = 1074 := ⟨_, rfl⟩
    rw [← hT, hB, Nat.mul_mul_mul_comm, Nat.mul_assoc (Z * Z) _ (2 ^ (2 * f)), ← Nat.pow_add, ← Nat.pow_add, show h + 11 + (h + 11) + 2 * f = T from by omega]
  have ek : 2 ^ k = 2 * 2 ^ (M - 1) * 2 ^ (2 * f) := by rw [hf, Nat.pow_add, ← Nat.pow_succ', show (M - 1).succ = M from by omega]
  rw [ev, eZ, ek] at d1 d2
  have D1 : n ≤ B * B + 2 ^ (M - 1) := by
    have : n * 2 ^ (2 * f) ≤ (B * B + 2 ^ (M - 1)) * 2 ^ (2 * f) := by
      rw [Nat.add_mul]
      rw [Nat.mul_assoc 2] at d1
      generalize n * 2 ^ (2 * f) = x at *
      generalize B * B * 2 ^ (2 * f) = y at *
      generalize 2 ^ (M - 1) * 2 ^ (2 * f) = z at *
      omega
    exact Nat.le_of_mul_le_mul_right this F
  have D2 : B * B ≤ n + 2 ^ (M - 1) := by
    have : B * B * 2 ^ (2 * f) ≤ (n + 2 ^ (M - 1)) * 2 ^ (2 * f) := by
      rw [Nat.add_mul]
      rw [Nat.mul_assoc 2] at d2
      generalize n * 2 ^ (2 * f) = x at *
      generalize B * B * 2 ^ (2 * f) = y at *
      generalize 2 ^ (M - 1) * 2 ^ (2 * f) = z at *
      omega
    exact Nat.le_of_mul_le_mul_right this F
  have D3 : 2 ^ (M - 1) ≤ 3 * B := big_enough (n := n) (by omega) (by rw [hn]; exact Nat.mul_le_mul_right _ l1) D1
  clear d1 d2 ek eZ ev
  obtain ⟨w, hw⟩ : ∃ w, w = Datum.rootFrom n (n.log2 / 2 + 1) 0 := ⟨_, rfl⟩
  have hsp := rootFrom_ok n (n.log2 / 2 + 1) 0 (by omega) (by
    have h1 : n < 2 ^ (n.log2 + 1) := Nat.lt_log2_self
    have h2 : 2 ^ (n.log2 + 1) ≤ 2 ^ (n.log2 / 2 + 1 + (n.log2 / 2 + 1)) := Nat.pow_le_pow_right (by omega) (by omega)
    rw [Nat.zero_add, ← Nat.pow_add]
    exact Nat.lt_of_lt_of_le h1 h2)
  rw [← hw] at hsp
  have w1 : 18014398509481984 ≤ w := by
    apply Classical.byContradiction
    intro c
    have h1 : (w + 1) * (w + 1) ≤ 18014398509481984 * 18014398509481984 := Nat.mul_le_mul (by omega) (by omega)
    have h2 := Nat.lt_of_lt_of_le hsp.2 h1
    exact absurd (Nat.lt_of_lt_of_le h2 (by decide)) (Nat.not_lt.2 n1)
  have w2 : w < 36028797018963968 := by
    apply Classical.byContradiction
    intro c
    have h1 : 36028797018963968 * 36028797018963968 ≤ w * w := Nat.mul_le_mul (by omega) (by omega)
    exact absurd (Nat.lt_of_le_of_lt (Nat.le_trans (Nat.le_trans (by decide) h1) hsp.1) n2) (Nat.lt_irrefl _)
  have hB8 : 8 ≤ B := by
    have p := Nat.two_pow_pos h
    have : 1 * 2048 ≤ Z * 2 ^ h * 2048 := Nat.mul_le_mul_right _ (Nat.mul_pos hZ p)
    rw [hB, Nat.pow_add, ← Nat.mul_assoc]
    exact Nat.le_trans (by decide) this
  obtain ⟨W1, W2⟩ := root_in D1 D2 D3 hB8 hsp.1 hsp.2
  obtain ⟨A, hA⟩ : ∃ A, A = 2 * w + (w * w != n).toNat := ⟨_, rfl⟩
  have hA1 : 2 * w ≤ A ∧ A ≤ 2 * w + 1 := by
    rw [hA]
    cases (w * w != n) <;> exact ⟨by simp, by simp⟩
  obtain ⟨c, hc⟩ : ∃ c, c = Z * 2 ^ h := ⟨_, rfl⟩
  have hBc : B = 2048 * c := by rw [hB, hc, Nat.pow_add, ← Nat.mul_assoc, Nat.mul_comm]
  have rn : rne A 3 = 512 * c := rne3 (by omega) (by omega)
  have R1 : 4503599627370496 ≤ 512 * c := by omega
  have R2 : 512 * c ≤ 9007199254740992 := by omega
  have hfu : f ≤ 526 := by omega
  refine ⟨(f + 539) * 4503599627370496 + 512 * c, ?_, by omega, ?_⟩
  · show Format.sqrt double a = _
    unfold Format.sqrt
    rw [e1]
    simp only [Datum.root, dbl_frac]
    rw [if_neg (by omega), if_neg (by decide), lg, show 2 * (52 + 2) - 52 = 56 from rfl]
    have eM : 56 + (((k : Int) - 1074 - ((56 : Nat) : Int)) % 2).toNat = M := by rw [hM]; rfl
    rw [eM, Nat.shiftLeft_eq, ← hn, ← hw, ← hA]
    show some (double.nearest false A (((k : Int) - 1074 - (M : Int)) / 2 - 1)) = _
    have t1 : (2 : Nat) ^ (52 + 3) ≤ A := Nat.le_trans (by decide) (Nat.le_trans (Nat.mul_le_mul_left 2 w1) hA1.1)
    have t2 : A < (2 : Nat) ^ (53 + 3) := Nat.lt_of_le_of_lt hA1.2 (Nat.lt_of_lt_of_le (show 2 * w + 1 < 72057594037927936 by omega) (by decide))
    rw [nearest_at false A 3 _ t1 t2 (by omega), rn, show (((k : Int) - 1074 - (M : Int)) / 2 - 1 + ((3 : Nat) : Int) + 1074).toNat = f + 539 from by omega, Nat.min_eq_left (by omega)]
    unfold Format.word
    simp
  · have hv : valN ((f + 539) * 4503599627370496 + 512 * c) = 512 * c * 2 ^ (f + 539) := by
      generalize 512 * c = R at *
      generalize f + 539 = E at *
      unfold valN
      rw [if_neg (by omega)]
      by_cases c : R = 9007199254740992
      · rw [c, show (E * 4503599627370496 + 9007199254740992) % 4503599627370496 = 0 from by omega, show (E * 4503599627370496 + 9007199254740992) / 4503599627370496 - 1 = E + 1 from by omega, Nat.pow_succ]
        omega
      · rw [show (E * 4503599627370496 + R) % 4503599627370496 = R - 4503599627370496 from by omega, show (E * 4503599627370496 + R) / 4503599627370496 - 1 = E from by omega, show 4503599627370496 + (R - 4503599627370496) = R from by omega]
    obtain ⟨T, hT⟩ : ∃ T : Nat, T = 1074 := ⟨_, rfl⟩
    rw [hv, one_is', ← hT, hc, show (512 : Nat) = 2 ^ 9 from rfl, Nat.mul_comm (2 ^ 9), Nat.mul_assoc, Nat.mul_assoc, ← Nat.pow_add, ← Nat.pow_add, show h + (9 + (f + 539)) = T from by omega]
theorem valN_shift' {r : Nat} (h : 4503599627370496 ≤ r) (j : Nat) : valN (r + j * 4503599627370496) = valN r * 2 ^ j := by
  unfold valN
  rw [if_neg (by omega), if_neg (by omega), show (r + j * 4503599627370496) % 4503599627370496 = r % 4503599627370496 from by omega, show (r + j * 4503599627370496) / 4503599627370496 - 1 = (r / 4503599627370496 - 1) + j from by omega, Nat.pow_add, Nat.mul_assoc]
theorem rd_pos {x : Nat} (hx : 4503599627370496 ≤ x) (hh : x < 9218868437227405312) : ∃ m k : Nat, double.read x = .number false m ((k : Int) - 1074) ∧ m * 2 ^ k = valN x ∧ 4503599627370496 ≤ m ∧ m < 9007199254740992 ∧ k = x / 4503599627370496 - 1 := by
  refine ⟨4503599627370496 + x % 4503599627370496, x / 4503599627370496 - 1, ?_, ?_, by omega, by omega, rfl⟩
  · unfold Format.read
    rw [dbl_sw, dbl_bin, dbl_inf, dbl_least]
    simp only []
    rw [show x / 9223372036854775808 % 2 = 0 from by omega, show x % 9223372036854775808 = x from by omega, if_neg (by omega), if_pos hh, show (-1074 : Int) + ((x / 4503599627370496 - 1 : Nat) : Int) = ((x / 4503599627370496 - 1 : Nat) : Int) - 1074 from by omega]
    rfl
  · unfold valN
    rw [if_neg (by omega)]
/-- The root of the word of Z * Z. -/
theorem sqrt_foi {Z : Nat} (h0 : 0 < Z) (h1 : Z ≤ 8796093022208) : (0 < floatOfInt .f64 ((Z : Int) * (Z : Int)) ∧ floatOfInt .f64 ((Z : Int) * (Z : Int)) < 9218868437227405312) ∧ ∃ c, FloatKind.f64.format.sqrt (floatOfInt .f64 ((Z : Int) * (Z : Int))) = some c ∧ c < 9218868437227405312 ∧ valN c = Z * one1 := by
  have eP : (Z : Int) * (Z : Int) = ((Z * Z : Nat) : Int) := by rw [Int.natCast_mul]
  rw [eP]
  have hZ2 : Z * Z ≤ 8796093022208 * 8796093022208 := Nat.mul_le_mul h1 h1
  have hZ0 : 0 < Z * Z := Nat.mul_pos h0 h0
  obtain ⟨P, hP⟩ : ∃ P, P = Z * Z := ⟨_, rfl⟩
  rw [← hP] at hZ2 hZ0 ⊢
  have ef : floatOfInt .f64 (P : Int) = double.nearest false P 0 := by
    show double.nearest (decide ((P : Int) < 0)) (P : Int).natAbs 0 = _
    rw [show decide ((P : Int) < 0) = false from by simp, Int.natAbs_natCast]
  have o := one_is'
  obtain ⟨T, hT⟩ : ∃ T : Nat, T = 1074 := ⟨_, rfl⟩
  by_cases c : P ≤ 9007199254740992
  · have F : Fl (floatOfInt .f64 (P : Int)) (P : Int) := Fl.ofInt (by omega)
    have f1 := F.1.1
    have f2 := F.1.2
    have np : floatOfInt .f64 (P : Int) < 9223372036854775808 := by
      apply Classical.byContradiction
      intro c
      have := F.2
      rw [sgI_of F.1, if_pos (by simp; omega), ← Int.natCast_mul] at this
      have p := Nat.mul_pos hZ0 one_gt
      generalize P * one1 = x at *
      omega
    have hv : valN (floatOfInt .f64 (P : Int)) = P * one1 := by
      have := F.2
      rw [show sgI (floatOfInt .f64 (P : Int)) = (valN (floatOfInt .f64 (P : Int)) : Int) from by unfold sgI; rw [if_pos np], ← Int.natCast_mul] at this
      exact Int.ofNat.inj this
    generalize floatOfInt .f64 (P : Int) = x at *
    have lo : 4607182418800017408 ≤ x := by
      apply Classical.byContradiction
      intro hc
      have := valN_lt (show x < 4607182418800017408 by omega)
      rw [hv] at this
      have t : one1 = valN 4607182418800017408 := rfl
      have c1 : 1 * one1 ≤ P * one1 := Nat.mul_le_mul_right _ hZ0
      rw [← t] at this
      generalize P * one1 = x at *
      generalize one1 = o at *
      omega
    have hi : x < 4845873199050653697 := by
      apply Classical.byContradiction
      intro hc
      have := valN_lt (show 4845873199050653696 < x by omega)
      have s1 := valN_shift' (r := 4607182418800017408) (by decide) 53
      rw [show 4607182418800017408 + 53 * 4503599627370496 = 4845873199050653696 from by decide] at s1
      have t : one1 = valN 4607182418800017408 := rfl
      rw [← t] at s1
      rw [hv, s1] at this
      have c1 : P * one1 ≤ one1 * 2 ^ 53 := by
        rw [Nat.mul_comm one1]
        exact Nat.mul_le_mul_right one1 (show P ≤ 2 ^ 53 from c)
      exact absurd this (Nat.not_lt.2 c1)
    obtain ⟨m, k, e1, v1, l1, g1, hk⟩ := rd_pos (show 4503599627370496 ≤ x by omega) (by omega)
    refine ⟨⟨by omega, by omega⟩, sqrt_near e1 v1 l1 g1 (by omega) (by omega) h0 ?_ ?_⟩
    · rw [hv, ← hP, o]; exact Nat.le_add_right _ _
    · rw [hv, ← hP, o]; exact Nat.le_add_right _ _
  · have l1' : 2 ^ P.log2 ≤ P := Nat.log2_self_le (by omega)
    have l2' : P < 2 ^ (P.log2 + 1) := Nat.lt_log2_self
    have lo : 52 ≤ P.log2 := (Nat.le_log2 (by omega)).2 (by omega)
    have hi : P.log2 < 87 := (Nat.log2_lt (by omega)).2 (Nat.lt_of_le_of_lt hZ2 (by decide))
    obtain ⟨K, hK⟩ : ∃ K, P.log2 = 52 + K := ⟨P.log2 - 52, by omega⟩
    rw [hK] at l1' l2' hi
    obtain ⟨R, e, r1, r2, r3, r4, r5⟩ := near_half P K l1' (by rw [show 53 + K = 52 + K + 1 from by omega]; exact l2') (by omega)
    rw [ef, e]
    obtain ⟨m, k, e1, v1, l1, g1, hk⟩ := rd_pos (x := (K + 1074) * 4503599627370496 + R) (by omega) (by omega)
    have pk : 2 ^ (K + 1074) ≤ 2 ^ k := Nat.pow_le_pow_right (by omega) (by omega)
    have pT := Nat.two_pow_pos 1074
    have e3 : 2 ^ (K + 1074) = 2 ^ K * 2 ^ 1074 := Nat.pow_add _ _ _
    have m1 := Nat.mul_le_mul_right (2 ^ 1074) r3
    have m2 := Nat.mul_le_mul_right (2 ^ 1074) r4
    have er : R * 2 ^ (K + 1074) = R * 2 ^ K * 2 ^ 1074 := by rw [e3, Nat.mul_assoc]
    rw [Nat.add_mul, Nat.mul_assoc 2, Nat.mul_assoc 2, ← e3] at m1 m2
    refine ⟨⟨by omega, by omega⟩, sqrt_near e1 v1 l1 g1 (by omega) (by omega) h0 ?_ ?_⟩
    · rw [r5, er, ← hP]
      exact Nat.le_trans m1 (Nat.add_le_add_left pk _)
    · rw [r5, er, ← hP]
      exact Nat.le_trans m2 (Nat.add_le_add_left pk _)
end Go.Proofs.Ytmjfphidcnjklaa
