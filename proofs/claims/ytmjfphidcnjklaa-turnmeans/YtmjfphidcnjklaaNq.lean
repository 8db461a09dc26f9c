/- Plain facts on the nearest whole number by what is left above the one below. -/
import Derived.Test.YtmjfphidcnjklaaNp
set_option linter.unusedSimpArgs false
namespace Go.Proofs.Ytmjfphidcnjklaa
open Ieee

theorem rung_mk (m k : Nat) (hm : m < 9007199254740992) (hk : k ≤ 1074) : ∃ r, r < 9218868437227405312 ∧ valN r = m * 2 ^ k := by
  by_cases m0 : m = 0
  · exact ⟨0, by decide, by rw [m0, valN_zero, Nat.zero_mul]⟩
  · have l1 : 2 ^ m.log2 ≤ m := Nat.log2_self_le m0
    have l2 : m < 2 ^ (m.log2 + 1) := Nat.lt_log2_self
    have hL : m.log2 ≤ 52 := by
      apply Classical.byContradiction
      intro hc
      have : 2 ^ 53 ≤ 2 ^ m.log2 := Nat.pow_le_pow_right (by omega) (by omega)
      omega
    generalize m.log2 = L at *
    by_cases c : 52 - L ≤ k
    · have b1 : 4503599627370496 ≤ m * 2 ^ (52 - L) := by
        have : 2 ^ L * 2 ^ (52 - L) = 4503599627370496 := by rw [← Nat.pow_add, show L + (52 - L) = 52 from by omega]
        rw [← this]; exact Nat.mul_le_mul_right _ l1
      have b2 : m * 2 ^ (52 - L) < 9007199254740992 := by
        have : 2 ^ (L + 1) * 2 ^ (52 - L) = 9007199254740992 := by rw [← Nat.pow_add, show L + 1 + (52 - L) = 53 from by omega]
        rw [← this]; exact Nat.mul_lt_mul_of_pos_right l2 (Nat.two_pow_pos _)
      have e : m * 2 ^ k = m * 2 ^ (52 - L) * 2 ^ (k - (52 - L)) := by rw [Nat.mul_assoc, ← Nat.pow_add, show 52 - L + (k - (52 - L)) = k from by omega]
      rw [e]
      have hd : k - (52 - L) ≤ 1074 := by omega
      generalize m * 2 ^ (52 - L) = M at *
      generalize k - (52 - L) = d at *
      clear l1 l2 e
      refine ⟨(d + 1) * 4503599627370496 + (M - 4503599627370496), by omega, ?_⟩
      unfold valN
      rw [if_neg (by omega), show ((d + 1) * 4503599627370496 + (M - 4503599627370496)) % 4503599627370496 = M - 4503599627370496 from by omega, show ((d + 1) * 4503599627370496 + (M - 4503599627370496)) / 4503599627370496 - 1 = d from by omega, show 4503599627370496 + (M - 4503599627370496) = M from by omega]
    · have b : m * 2 ^ k < 4503599627370496 := by
        have h1 : m * 2 ^ k < 2 ^ (L + 1) * 2 ^ k := Nat.mul_lt_mul_of_pos_right l2 (Nat.two_pow_pos _)
        have h2 : 2 ^ (L + 1) * 2 ^ k ≤ 2 ^ 52 := by rw [← Nat.pow_add]; exact Nat.pow_le_pow_right (by omega) (by omega)
        omega
      refine ⟨m * 2 ^ k, by omega, ?_⟩
      unfold valN
      rw [if_pos b]
theorem tmod2 (F : Int) : (F.tmod 2 = 0) ↔ (F % 2 = 0) := by
  have h := Int.natAbs_tmod F 2
  have e : (2 : Int).natAbs = 2 := rfl
  rw [e] at h
  constructor
  · intro c; rw [c] at h; have h' : F.natAbs % 2 = 0 := h.symm; omega
  · intro c; have : F.natAbs % 2 = 0 := by omega
    rw [this] at h; omega
/-- The nearest whole number by the one below. -/
theorem rc_floor (s : Int) : rcS s = if (one1 : Int) < 2 * (s % (one1 : Int)) ∨ ((one1 : Int) = 2 * (s % (one1 : Int)) ∧ s / (one1 : Int) % 2 ≠ 0) then s / (one1 : Int) + 1 else s / (one1 : Int) := by
  have hp := one_pos
  unfold rcS rcI
  generalize one1 = U at *
  have d1 := Int.emod_add_mul_ediv s (U : Int)
  have d2 := Int.emod_nonneg s (show (U : Int) ≠ 0 from by omega)
  have d3 := Int.emod_lt_of_pos s (show (0 : Int) < (U : Int) from by omega)
  have n1 := Nat.mod_add_div s.natAbs U
  have n2 := Nat.mod_lt s.natAbs hp
  generalize s % (U : Int) = e at *
  generalize hF : s / (U : Int) = F at *
  generalize s.natAbs % U = r at *
  generalize hq : s.natAbs / U = q at *
  by_cases c : s < 0
  · rw [if_pos c]
    -- |s| = -s
    have key : (r : Int) + (U : Int) * (q : Int) = -(e + (U : Int) * F) := by
      have : ((r + U * q : Nat) : Int) = -s := by rw [n1]; omega
      rw [← d1] at this
      rw [← this, Int.natCast_add, Int.natCast_mul]
    by_cases r0 : r = 0
    · subst r0
      have hFq : F = -(q : Int) ∧ e = 0 := by
        have h1 : (U : Int) * ((q : Int) + F) = -e := by rw [Int.mul_add]; omega
        have h2 : (q : Int) + F = 0 := by
          apply Classical.byContradiction
          intro hc
          rcases Int.lt_or_gt_of_ne hc with c1 | c1
          · have : (U : Int) * ((q : Int) + F) ≤ (U : Int) * (-1) := Int.mul_le_mul_of_nonneg_left (by omega) (by omega)
            omega
          · have : (U : Int) * 1 ≤ (U : Int) * ((q : Int) + F) := Int.mul_le_mul_of_nonneg_left (by omega) (by omega)
            omega
        rw [h2, Int.mul_zero] at h1
        omega
      rw [hFq.1, hFq.2, if_neg (by omega), if_neg (by omega)]
      simp
    · have hFq : F = -(q : Int) - 1 ∧ e = (U : Int) - r := by
        have h1 : (U : Int) * ((q : Int) + F + 1) = (U : Int) - e - r := by rw [Int.mul_add, Int.mul_add]; omega
        have h2 : (q : Int) + F + 1 = 0 := by
          apply Classical.byContradiction
          intro hc
          rcases Int.lt_or_gt_of_ne hc with c1 | c1
          · have : (U : Int) * ((q : Int) + F + 1) ≤ (U : Int) * (-1) := Int.mul_le_mul_of_nonneg_left (by omega) (by omega)
            omega
          · have : (U : Int) * 1 ≤ (U : Int) * ((q : Int) + F + 1) := Int.mul_le_mul_of_nonneg_left (by omega) (by omega)
            omega
        rw [h2, Int.mul_zero] at h1
        omega
      rw [hFq.1, hFq.2]
      by_cases a1 : U < 2 * r
      · rw [if_pos (.inl a1), if_neg (by omega)]; omega
      · by_cases a2 : U = 2 * r
        · by_cases a3 : q % 2 = 1
          · rw [if_pos (.inr ⟨a2, a3⟩), if_neg (by omega)]; omega
          · rw [if_neg (by omega), if_pos (.inr (by omega))]; omega
        · rw [if_neg (by omega), if_pos (.inl (by omega))]; omega
  · rw [if_neg c]
    have key : (r : Int) + (U : Int) * (q : Int) = e + (U : Int) * F := by
      have : ((r + U * q : Nat) : Int) = s := by rw [n1]; omega
      rw [← d1] at this
      rw [← this, Int.natCast_add, Int.natCast_mul]
    have hFq : F = (q : Int) ∧ e = (r : Int) := by
      have h1 : (U : Int) * ((q : Int) - F) = e - r := by rw [Int.mul_sub]; omega
      have h2 : (q : Int) - F = 0 := by
        apply Classical.byContradiction
        intro hc
        rcases Int.lt_or_gt_of_ne hc with c1 | c1
        · have : (U : Int) * ((q : Int) - F) ≤ (U : Int) * (-1) := Int.mul_le_mul_of_nonneg_left (by omega) (by omega)
          omega
        · have : (U : Int) * 1 ≤ (U : Int) * ((q : Int) - F) := Int.mul_le_mul_of_nonneg_left (by omega) (by omega)
          omega
      rw [h2, Int.mul_zero] at h1
      omega
    rw [hFq.1, hFq.2]
    by_cases a1 : U < 2 * r
    · rw [if_pos (.inl a1), if_pos (.inl (by omega))]; omega
    · by_cases a2 : U = 2 * r
      · by_cases a3 : q % 2 = 1
        · rw [if_pos (.inr ⟨a2, a3⟩), if_pos (.inr (by omega))]; omega
        · rw [if_neg (by omega), if_neg (by omega)]; omega
      · rw [if_neg (by omega), if_neg (by omega)]; omega
end Go.Proofs.Ytmjfphidcnjklaa
