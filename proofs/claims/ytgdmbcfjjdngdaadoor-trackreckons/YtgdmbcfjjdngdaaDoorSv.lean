/- Plain facts: an old speed and a new one, and what is between them; nothing of the program is in here. -/
import Derived.Test.YtgdmbcfjjdngdaaDoorSb
set_option linter.unusedSimpArgs false
set_option linter.unusedVariables false
namespace Go.Proofs.YtgdmbcfjjdngdaaDoor
open Ieee

/-- The number 1 - 2^-30, and how many times the least one it is. -/
theorem under_one : ∃ P : Nat, 0 < P ∧ one1 = 1073741824 * P ∧ valN 4607182418791628800 = 1073741823 * P := by
  obtain ⟨K, h1, h2⟩ := one_pow
  obtain ⟨T, hT⟩ : ∃ T : Nat, T + 30 = K := ⟨1044, by omega⟩
  refine ⟨2 ^ T, Nat.two_pow_pos _, ?_, ?_⟩
  · rw [h1, ← hT, Nat.pow_add, Nat.mul_comm]
  · unfold valN
    rw [if_neg (by decide)]
    rw [show (4503599627370496 + 4607182418791628800 % 4503599627370496 : Nat) = 1073741823 * 2 ^ 23 from by decide, show (4607182418791628800 / 4503599627370496 - 1 : Nat) = T - 23 from by omega, Nat.mul_assoc, ← Nat.pow_add, show 23 + (T - 23) = T from by omega]
/-- The word ahead of a great one is near it. -/
theorem pred_near {r : Nat} (h : 9007199254740992 < r) : 1073741823 * valN r ≤ 1073741824 * valN (r - 1) := by
  obtain ⟨q, f, hr, hf, hq⟩ : ∃ q f, r = (q + 2) * 4503599627370496 + f ∧ f < 4503599627370496 ∧ 0 ≤ q := ⟨r / 4503599627370496 - 2, r % 4503599627370496, by omega, by omega, by omega⟩
  have e1 : valN r = (4503599627370496 + f) * 2 ^ (q + 1) := by
    rw [hr, show (q + 2) * 4503599627370496 + f = (q + 1) * 4503599627370496 + (4503599627370496 + f) from by omega, valN_mk (by omega) (by omega)]
  have hP := Nat.two_pow_pos q
  rcases Nat.eq_zero_or_pos f with h0 | h0
  · have e2 : valN (r - 1) = 9007199254740991 * 2 ^ q := by
      rw [hr, h0, show (q + 2) * 4503599627370496 + 0 - 1 = q * 4503599627370496 + 9007199254740991 from by omega, valN_mk (by omega) (by omega)]
    rw [e1, e2, h0, Nat.pow_succ]
    generalize 2 ^ q = P at *
    omega
  · have e2 : valN (r - 1) = (4503599627370496 + (f - 1)) * 2 ^ (q + 1) := by
      rw [hr, show (q + 2) * 4503599627370496 + f - 1 = (q + 1) * 4503599627370496 + (4503599627370496 + (f - 1)) from by omega, valN_mk (by omega) (by omega)]
    rw [e1, e2]
    have hP2 := Nat.two_pow_pos (q + 1)
    generalize 2 ^ (q + 1) = P at *
    rw [← Nat.mul_assoc, ← Nat.mul_assoc]
    exact Nat.mul_le_mul_right _ (by omega)
theorem valN_small {r : Nat} (h : r ≤ 9007199254740992) : valN r = r := by
  have := valN_mk (d := 0) (x := r) (.inl rfl) h
  simpa using this
theorem fin0 : fin 0 := ⟨by decide, by decide⟩
theorem sgI0 : sgI 0 = 0 := by decide
/-- A word without its sign, with a sign. -/
theorem fin_neg {a : Nat} (h : fin a) (h2 : a < 9223372036854775808) : fin (9223372036854775808 + a) ∧ sgI (9223372036854775808 + a) = -sgI a := by
  obtain ⟨h1, h3⟩ := h
  refine ⟨⟨by omega, by omega⟩, ?_⟩
  rw [sgI_lo h2]
  unfold sgI
  rw [if_neg (by omega), show 9223372036854775808 + a - 9223372036854775808 = a from by omega]
/-- The number of a nonnegative word is the number of one without a sign. -/
theorem pos_word {a : Nat} (h : fin a) (h0 : 0 ≤ sgI a) : ∃ r, r < 9218868437227405312 ∧ fin r ∧ sgI r = sgI a ∧ r < 9223372036854775808 ∧ sgI a = (valN r : Int) := by
  obtain ⟨h1, h2⟩ := h
  rcases Nat.lt_or_ge a 9223372036854775808 with c | c
  · exact ⟨a, by omega, ⟨by omega, by omega⟩, rfl, c, sgI_lo c⟩
  · have e : sgI a = -(valN (a - 9223372036854775808) : Int) := by unfold sgI; rw [if_neg (by omega)]
    have e0 : valN (a - 9223372036854775808) = 0 := by omega
    exact ⟨0, by decide, fin0, by rw [e, e0, sgI0]; rfl, by decide, by rw [e, e0, valN_zero]; rfl⟩
theorem key_ar {w : Int} {P R Y : Nat} (w1 : w ≤ ((1073741823 * P : Nat) : Int)) (hn : 1073741823 * R ≤ 1073741824 * Y) : w * (R : Int) ≤ (Y : Int) * (1073741824 * (P : Int)) := by
  have h1 : w * (R : Int) ≤ ((1073741823 * P : Nat) : Int) * (R : Int) := Int.mul_le_mul_of_nonneg_right w1 (by omega)
  have h2 : ((1073741823 * P : Nat) : Int) * (R : Int) = ((1073741823 * R * P : Nat) : Int) := by
    rw [← Int.natCast_mul]; congr 1; rw [Nat.mul_right_comm]
  have h3 : (Y : Int) * (1073741824 * (P : Int)) = ((1073741824 * Y * P : Nat) : Int) := by
    rw [show (1073741824 : Int) * (P : Int) = ((1073741824 * P : Nat) : Int) from by omega, ← Int.natCast_mul]; congr 1; rw [← Nat.mul_assoc, Nat.mul_comm Y]
  have h4 : 1073741823 * R * P ≤ 1073741824 * Y * P := Nat.mul_le_mul_right _ hn
  rw [h2] at h1
  rw [h3]
  omega
/-- From the speed O, by the weight W, towards the speed V: never below 0, never above both. -/
theorem speed_btw {o v w : Nat} (ho : fin o) (hv : fin v) (hw : fin w) (o0 : 0 ≤ sgI o) (v0 : 0 ≤ sgI v) (w0 : 0 ≤ sgI w) (w1 : sgI w ≤ (valN 4607182418791628800 : Int)) :
    ∃ d e s, floatBits .sub .f64 v o = some d ∧ floatBits .mul .f64 w d = some e ∧ floatBits .add .f64 o e = some s ∧ fin s ∧ 0 ≤ sgI s ∧ sgI s ≤ max (sgI o) (sgI v) := by
  obtain ⟨P, hP, p1, p2⟩ := under_one
  generalize valN 4607182418791628800 = U at *
  subst p2
  have hP' : (0 : Int) < (P : Int) := by omega
  have hO : (one1 : Int) = 1073741824 * (P : Int) := by rw [p1]; omega
  have hWO : sgI w ≤ (one1 : Int) := by rw [hO]; rw [Int.natCast_mul] at w1; omega
  rcases Int.lt_or_le (sgI v) (sgI o) with c | c
  · -- down
    obtain ⟨ro, hro, fro, ero, hro2, _⟩ := pos_word ho o0
    obtain ⟨fn, en⟩ := fin_neg fro hro2
    rw [ero] at en
    obtain ⟨d, ed, fd, d1, d2⟩ := sub_btw hv ho fn fin0 (by rw [en]; omega) (by rw [sgI0]; omega)
    rw [sgI0] at d2
    rw [en] at d1
    have hm1 : sgI d * (one1 : Int) ≤ sgI w * sgI d := by
      have := Int.mul_le_mul_of_nonpos_right hWO d2
      rw [Int.mul_comm (one1 : Int)] at this
      exact this
    have hm2 : sgI w * sgI d ≤ 0 := Int.mul_nonpos_of_nonneg_of_nonpos w0 d2
    obtain ⟨e, ee, fe, e1, e2⟩ := mul_btw hw fd fd fin0 (hm1) (by rw [sgI0, Int.zero_mul]; exact hm2)
    rw [sgI0] at e2
    obtain ⟨s, es, fs, s1, s2⟩ := add_btw ho fe fin0 ho (by rw [sgI0]; omega) (by omega)
    rw [sgI0] at s1
    exact ⟨d, e, s, ed, ee, es, fs, s1, by omega⟩
  · obtain ⟨d, ed, fd, d1, d2⟩ := sub_btw hv ho fin0 hv (by rw [sgI0]; omega) (by omega)
    rw [sgI0] at d1
    have hm0 : 0 ≤ sgI w * sgI d := Int.mul_nonneg w0 d1
    have hm1 : sgI w * sgI d ≤ sgI d * (one1 : Int) := by
      have := Int.mul_le_mul_of_nonneg_right hWO d1
      rw [Int.mul_comm (one1 : Int)] at this
      exact this
    obtain ⟨e, ee, fe, e1, e2⟩ := mul_btw hw fd fin0 fd (by rw [sgI0, Int.zero_mul]; exact hm0) (hm1)
    rw [sgI0] at e1
    have key : sgI e ≤ sgI v - sgI o := by
      rcases Int.lt_or_le (sgI v - sgI o) (sgI d) with c2 | c2
      · obtain ⟨rd, hrd, frd, erd, hrd2, evd⟩ := pos_word fd d1
        have r1 : 0 < rd := by
          rcases Nat.eq_zero_or_pos rd with h | h
          · rw [h, valN_zero] at evd; omega
          · exact h
        have fy : fin (rd - 1) := ⟨by omega, by omega⟩
        have ey : sgI (rd - 1) = (valN (rd - 1) : Int) := sgI_lo (by omega)
        have hlt : valN (rd - 1) < valN rd := valN_lt (by omega)
        have hX : sgI (rd - 1) ≤ sgI v - sgI o := by
          apply Classical.byContradiction
          intro hn
          obtain ⟨d', ed', _, _, d2'⟩ := sub_btw hv ho fin0 fy (by rw [sgI0]; omega) (by omega)
          rw [ed] at ed'
          cases ed'
          omega
        have hbig : 9007199254740992 < rd := by
          apply Classical.byContradiction
          intro hn
          have v1 := valN_small (r := rd) (by omega)
          have v2 := valN_small (r := rd - 1) (by omega)
          obtain ⟨d', ed', _, _, d2'⟩ := sub_btw hv ho fin0 fy (by rw [sgI0]; omega) (by omega)
          rw [ed] at ed'
          cases ed'
          omega
        have hnear := pred_near hbig
        have hm : sgI w * sgI d ≤ sgI (rd - 1) * (one1 : Int) := by
          rw [ey, hO, evd]
          exact key_ar w1 hnear
        obtain ⟨e', ee', _, _, e2'⟩ := mul_btw hw fd fin0 fy (by rw [sgI0, Int.zero_mul]; exact hm0) (hm)
        rw [ee] at ee'
        cases ee'
        omega
      · omega
    obtain ⟨s, es, fs, s1, s2⟩ := add_btw ho fe ho hv (by omega) (by omega)
    exact ⟨d, e, s, ed, ee, es, fs, by omega, by omega⟩
end Go.Proofs.YtgdmbcfjjdngdaaDoor
