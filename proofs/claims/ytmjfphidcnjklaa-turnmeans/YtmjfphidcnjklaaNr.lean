/- What is left above the whole number below, held against a half. -/
import Derived.Test.YtmjfphidcnjklaaNq
set_option linter.unusedSimpArgs false
namespace Go.Proofs.Ytmjfphidcnjklaa
open Ieee

theorem half_val : 2 * valN 4602678819172646912 = one1 := by
  obtain ⟨K, hK⟩ : ∃ K : Nat, K = 1021 := ⟨_, rfl⟩
  obtain ⟨T, hT⟩ : ∃ T : Nat, T = 1074 := ⟨_, rfl⟩
  have e : valN 4602678819172646912 = 4503599627370496 * 2 ^ K := by
    unfold valN
    rw [if_neg (by decide), show (4602678819172646912 : Nat) % 4503599627370496 = 0 from by decide, show (4602678819172646912 : Nat) / 4503599627370496 - 1 = K from by omega]
  rw [e, one_is', ← hT, show T = 53 + K from by omega, Nat.pow_add]
  omega
theorem half_fin : fin 4602678819172646912 := by unfold fin; omega
theorem half_sg : sgI 4602678819172646912 = (valN 4602678819172646912 : Int) := by unfold sgI; rw [if_pos (by decide)]
/-- The greater part of the cases: what is left is what a word can hold. -/
theorem left_ok {x : Nat} {F : Int} (hx : fin x) (hF : F = sgI x / (one1 : Int)) (hFb : F.natAbs ≤ 9007199254740992) {r : Nat} (hr : r < 9218868437227405312) (hv : (valN r : Int) = sgI x % (one1 : Int)) :
    fin (fo .sub x (fi F)) ∧ sgI (fo .sub x (fi F)) = sgI x % (one1 : Int) := by
  have W : Fl (fi F) F := fi_fl hFb
  have e : sgI x - sgI (fi F) = sgI x % (one1 : Int) := by
    rw [W.2, hF]
    have := Int.emod_add_mul_ediv (sgI x) (one1 : Int)
    rw [Int.mul_comm] at this
    omega
  obtain ⟨c, h1, h2, h3⟩ := sub_exact hx W.1 hr (by rw [e, ← hv]; omega)
  have e2 : fo .sub x (fi F) = c := by unfold fo; rw [show floatBits .sub .f64 x (fi F) = some c from h1]; rfl
  rw [e2, h3, e]
  exact ⟨h2, rfl⟩
/-- The others: a little below 0. -/
theorem left_near {x m k : Nat} (hx : fin x) (hn : sgI x < 0) (e : double.read x = .number (decide (9223372036854775808 ≤ x)) m ((k : Int) - 1074)) (v : m * 2 ^ k = valN (x % 9223372036854775808)) (lm : m < 9007199254740992) (hk : k + 54 ≤ 1074) :
    fin (fo .sub x (fi (-1))) ∧ sgI 4602678819172646912 ≤ sgI (fo .sub x (fi (-1))) := by
  have hs : 9223372036854775808 ≤ x := by
    apply Classical.byContradiction
    intro c
    rw [sgI_of hx, if_neg (by simpa using c)] at hn
    omega
  have m0 : 0 < m := by
    rcases Nat.eq_zero_or_pos m with c | c
    · subst c
      rw [Nat.zero_mul] at v
      rw [sgI_of hx, ← v] at hn
      split at hn <;> omega
    · exact c
  have rd : double.read (fi (-1)) = .number true 4503599627370496 (-52) := by decide
  obtain ⟨j, hj⟩ : ∃ j, j = 1074 - k := ⟨_, rfl⟩
  obtain ⟨K, hK⟩ : ∃ K, j = 53 + K := ⟨j - 53, by omega⟩
  have hpow : 2 ^ j = 9007199254740992 * 2 ^ K := by rw [hK, Nat.pow_add]
  have hKp := Nat.two_pow_pos K
  have hK2 : 2 * 1 ≤ 2 ^ K := by
    obtain ⟨K', rfl⟩ : ∃ K', K = K' + 1 := ⟨K - 1, by omega⟩
    rw [Nat.pow_succ]
    have := Nat.two_pow_pos K'
    omega
  have E : floatBits .sub .f64 x (fi (-1)) = some (double.nearest false (2 ^ j - m) ((k : Int) - 1074)) := by
    show Format.sub double x (fi (-1)) = _
    unfold Format.sub
    rw [e, rd, decide_eq_true hs]
    simp only [Datum.opposite, Datum.sum, Option.map_some, Format.write, Bool.not_true]
    rw [show min ((k : Int) - 1074) (-52) = (k : Int) - 1074 from by omega, show ((k : Int) - 1074 - ((k : Int) - 1074)).toNat = 0 from by omega, show (-52 - ((k : Int) - 1074)).toNat = j - 52 from by omega]
    have h1 : signed true m 0 + signed false 4503599627370496 (j - 52) = ((2 ^ j - m : Nat) : Int) := by
      unfold signed
      rw [if_pos rfl, if_neg (by decide), Nat.shiftLeft_zero, Nat.shiftLeft_eq]
      have h2 : 4503599627370496 * 2 ^ (j - 52) = 2 ^ j := by
        have : (2 : Nat) ^ j = 2 ^ 52 * 2 ^ (j - 52) := by rw [← Nat.pow_add, show 52 + (j - 52) = j from by omega]
        rw [this]
      rw [h2]
      omega
    rw [h1]
    have hT : 0 < 2 ^ j - m := by omega
    rw [if_neg (by omega), decide_eq_false (by omega), Int.natAbs_natCast]
  have hA1 : 2 ^ (52 + K) ≤ 2 ^ j - m := by
    have : 2 ^ (52 + K) = 4503599627370496 * 2 ^ K := by rw [Nat.pow_add]
    rw [this, hpow]
    omega
  have hA2 : 2 ^ j - m < 2 ^ (53 + K) := by
    rw [← hK]
    have := Nat.two_pow_pos j
    omega
  rw [nearest_at false (2 ^ j - m) K _ hA1 hA2 (by omega), show ((k : Int) - 1074 + (K : Int) + 1074).toNat = 1021 from by omega] at E
  have r1 : 4503599627370496 ≤ rne (2 ^ j - m) K := by
    unfold rne
    have : 4503599627370496 ≤ (2 ^ j - m) / 2 ^ K := by
      rw [Nat.le_div_iff_mul_le hKp]
      have : 2 ^ (52 + K) = 4503599627370496 * 2 ^ K := by rw [Nat.pow_add]
      rw [← this]; exact hA1
    omega
  have r2 : rne (2 ^ j - m) K ≤ 9007199254740992 := by
    unfold rne
    have : (2 ^ j - m) / 2 ^ K < 9007199254740992 := by
      rw [Nat.div_lt_iff_lt_mul hKp]
      have : 2 ^ (53 + K) = 9007199254740992 * 2 ^ K := by rw [Nat.pow_add]
      rw [← this]; exact hA2
    split <;> omega
  generalize rne (2 ^ j - m) K = R at *
  rw [Nat.min_eq_left (by omega)] at E
  have hrl : 1021 * 4503599627370496 + R < 9218868437227405312 := by omega
  have e2 : fo .sub x (fi (-1)) = double.word false (1021 * 4503599627370496 + R) := by unfold fo; rw [E]; rfl
  rw [e2, (word_fin false hrl).2, half_sg]
  refine ⟨(word_fin false hrl).1, ?_⟩
  have := valN_le (r := 4602678819172646912) (t := 1021 * 4503599627370496 + R) (by omega)
  simp
  omega
/-- What is left and a half, and what comes of it. -/
theorem left_half {x : Nat} {F : Int} (hx : fin x) (hb : (sgI x).natAbs < 4503599627370496 * one1) (hF : F = sgI x / (one1 : Int)) :
    fin (fo .sub x (fi F)) ∧ ((sgI 4602678819172646912 < sgI (fo .sub x (fi F)) ∨ (sgI (fo .sub x (fi F)) = sgI 4602678819172646912 ∧ F % 2 ≠ 0)) ↔ ((one1 : Int) < 2 * (sgI x % (one1 : Int)) ∨ ((one1 : Int) = 2 * (sgI x % (one1 : Int)) ∧ F % 2 ≠ 0))) := by
  have hp := one_pos
  have hh := half_val
  have hFb : F.natAbs ≤ 9007199254740992 := by
    have d1 := Int.emod_add_mul_ediv (sgI x) (one1 : Int)
    have d2 := Int.emod_nonneg (sgI x) (show (one1 : Int) ≠ 0 from by omega)
    have d3 := Int.emod_lt_of_pos (sgI x) (show (0 : Int) < (one1 : Int) from by omega)
    rw [← hF] at d1
    apply Classical.byContradiction
    intro hc
    rcases (show F ≤ -4503599627370497 ∨ 4503599627370497 ≤ F from by omega) with c | c
    · have : (one1 : Int) * F ≤ (one1 : Int) * (-4503599627370497) := Int.mul_le_mul_of_nonneg_left c (by omega)
      omega
    · have : (one1 : Int) * 4503599627370497 ≤ (one1 : Int) * F := Int.mul_le_mul_of_nonneg_left c (by omega)
      omega
  have good : ∀ r, r < 9218868437227405312 → (valN r : Int) = sgI x % (one1 : Int) → fin (fo .sub x (fi F)) ∧ ((sgI 4602678819172646912 < sgI (fo .sub x (fi F)) ∨ (sgI (fo .sub x (fi F)) = sgI 4602678819172646912 ∧ F % 2 ≠ 0)) ↔ ((one1 : Int) < 2 * (sgI x % (one1 : Int)) ∨ ((one1 : Int) = 2 * (sgI x % (one1 : Int)) ∧ F % 2 ≠ 0))) := fun r hr hv => by
    obtain ⟨f, e⟩ := left_ok hx hF hFb hr hv
    refine ⟨f, ?_⟩
    rw [e, half_sg]
    generalize sgI x % (one1 : Int) = y at *
    omega
  obtain ⟨m, k, e, v, lm⟩ := read_fin' hx
  obtain ⟨T, hT⟩ : ∃ T : Nat, T = 1074 := ⟨_, rfl⟩
  have hU : one1 = 2 ^ T := by rw [one_is', hT]
  have hs := sgI_of hx
  rw [← v] at hs
  by_cases c : T ≤ k
  · refine good 0 (by decide) ?_
    have : ((m * 2 ^ k : Nat) : Int) = ((m * 2 ^ (k - T) : Nat) : Int) * (one1 : Int) := by
      rw [hU, ← Int.natCast_mul, Nat.mul_assoc, ← Nat.pow_add, show k - T + T = k from by omega]
    rw [this] at hs
    rw [valN_zero, hs]
    split
    · rw [← Int.neg_mul, Int.mul_emod_left]; rfl
    · rw [Int.mul_emod_left]; rfl
  · obtain ⟨j, hj⟩ : ∃ j, T = j + k := ⟨T - k, by omega⟩
    have hU2 : one1 = 2 ^ j * 2 ^ k := by rw [hU, hj, Nat.pow_add]
    have hk' := Nat.two_pow_pos k
    have hj' := Nat.two_pow_pos j
    have hmm : m * 2 ^ k % one1 = m % 2 ^ j * 2 ^ k := by rw [hU2, Nat.mul_mod_mul_right]
    by_cases sg : 9223372036854775808 ≤ x
    · rw [if_pos (by simpa using sg)] at hs
      by_cases z : m % 2 ^ j = 0
      · refine good 0 (by decide) ?_
        rw [z, Nat.zero_mul] at hmm
        rw [hs, valN_zero]
        have : ((m * 2 ^ k : Nat) : Int) % (one1 : Int) = 0 := by rw [← Int.natCast_emod, hmm]; rfl
        have := Int.emod_eq_zero_of_dvd (Int.dvd_neg.2 (Int.dvd_of_emod_eq_zero this))
        rw [this]; rfl
      · have hem : sgI x % (one1 : Int) = ((2 ^ j - m % 2 ^ j) * 2 ^ k : Nat) := by
          have hlt := Nat.mod_lt m hj'
          have d := Nat.div_add_mod (m * 2 ^ k) one1
          rw [hmm] at d
          have hsub : (2 ^ j - m % 2 ^ j) * 2 ^ k = one1 - m % 2 ^ j * 2 ^ k := by rw [hU2, Nat.sub_mul]
          have hlt2 : m % 2 ^ j * 2 ^ k < one1 := by rw [hU2]; exact Nat.mul_lt_mul_of_pos_right hlt hk'
          have hpos : 0 < m % 2 ^ j * 2 ^ k := Nat.mul_pos (by omega) hk'
          rw [hs, hsub]
          generalize m % 2 ^ j * 2 ^ k = y at *
          generalize m * 2 ^ k / one1 = q at *
          have h1 : -((m * 2 ^ k : Nat) : Int) = ((one1 - y : Nat) : Int) + (one1 : Int) * (-(q : Int) - 1) := by
            rw [← d, Int.natCast_add, Int.natCast_mul, Int.mul_sub, Int.mul_neg]
            omega
          rw [h1, Int.add_mul_emod_self_left]
          exact Int.emod_eq_of_lt (by omega) (by omega)
        by_cases cj : j ≤ 53
        · have hjp : 2 ^ j ≤ 2 ^ 53 := Nat.pow_le_pow_right (by omega) cj
          obtain ⟨r, h1, h2⟩ := rung_mk (2 ^ j - m % 2 ^ j) k (by omega) (by omega)
          exact good r h1 (by rw [h2, hem])
        · have hneg : sgI x < 0 := by
            rw [hs]
            have : 0 < m * 2 ^ k := Nat.mul_pos (by rcases Nat.eq_zero_or_pos m with c0 | c0; (subst c0; simp at z); exact c0) hk'
            omega
          have hsmall : 2 * (m * 2 ^ k) < one1 := by
            obtain ⟨d, hd⟩ : ∃ d, j = 54 + d := ⟨j - 54, by omega⟩
            have h1 : 2 ^ j = 18014398509481984 * 2 ^ d := by rw [hd, Nat.pow_add]
            have hd' := Nat.two_pow_pos d
            have h2 : 2 * m < 2 ^ j := by omega
            rw [hU2, ← Nat.mul_assoc]
            exact Nat.mul_lt_mul_of_pos_right h2 hk'
          have hF1 : F = -1 := by
            have d1 := Int.emod_add_mul_ediv (sgI x) (one1 : Int)
            have d2 := Int.emod_nonneg (sgI x) (show (one1 : Int) ≠ 0 from by omega)
            have d3 := Int.emod_lt_of_pos (sgI x) (show (0 : Int) < (one1 : Int) from by omega)
            rw [← hF] at d1
            apply Classical.byContradiction
            intro hc
            rcases (show F ≤ -2 ∨ 0 ≤ F from by omega) with c | c
            · have : (one1 : Int) * F ≤ (one1 : Int) * (-2) := Int.mul_le_mul_of_nonneg_left c (by omega)
              omega
            · have : (one1 : Int) * 0 ≤ (one1 : Int) * F := Int.mul_le_mul_of_nonneg_left c (by omega)
              omega
          subst hF1
          obtain ⟨f, h1⟩ := left_near hx hneg e v lm (by omega)
          refine ⟨f, ?_⟩
          have h2 : (one1 : Int) < 2 * (sgI x % (one1 : Int)) := by
            have d1 := Int.emod_add_mul_ediv (sgI x) (one1 : Int)
            rw [← hF] at d1
            omega
          constructor
          · intro _; exact .inl h2
          · intro _
            rcases Int.lt_or_eq_of_le h1 with c | c
            · exact .inl c
            · exact .inr ⟨c.symm, by decide⟩
    · rw [if_neg (by simpa using sg)] at hs
      obtain ⟨r, h1, h2⟩ := rung_mk (m % 2 ^ j) k (by have := Nat.mod_le m (2 ^ j); omega) (by omega)
      refine good r h1 ?_
      rw [h2, hs, ← Int.natCast_emod, hmm]
end Go.Proofs.Ytmjfphidcnjklaa
