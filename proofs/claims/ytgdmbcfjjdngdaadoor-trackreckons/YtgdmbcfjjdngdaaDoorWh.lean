/- Plain facts on whole numbers in floating-point words: products, quotients of equal sizes; nothing of the program is in here. -/
import Derived.Test.YtgdmbcfjjdngdaaDoorSumP
set_option linter.unusedSimpArgs false
namespace Go.Proofs.YtgdmbcfjjdngdaaDoor
open Ieee

theorem one_is' : one1 = 2 ^ 1074 := by
  obtain ⟨K, e1, e2⟩ := one_pow
  rw [e1, show K = 1074 from by omega]
/-- What a finite word is read as, with a size of at most 53 bits. -/
theorem read_fin' {b : Nat} (h : fin b) : ∃ m k : Nat, double.read b = .number (decide (9223372036854775808 ≤ b)) m ((k : Int) - 1074) ∧ m * 2 ^ k = valN (b % 9223372036854775808) ∧ m < 9007199254740992 := by
  obtain ⟨m, k, e, v⟩ := read_fin h
  refine ⟨m, k, e, v, ?_⟩
  have e' := e
  unfold Format.read at e'
  rw [dbl_sw, dbl_bin, dbl_inf, dbl_least] at e'
  simp only [] at e'
  obtain ⟨h1, h2⟩ := h
  split at e'
  · injection e' with _ e2 _; omega
  · injection e' with _ e2 _; omega
theorem Fl.val {a : Nat} {m : Int} (h : Fl a m) : valN (a % 9223372036854775808) = m.natAbs * one1 := by
  have h2 := h.2
  rw [sgI_of h.1] at h2
  have := congrArg Int.natAbs h2
  rw [Int.natAbs_mul, Int.natAbs_natCast] at this
  rw [← this]
  split <;> omega
theorem Fl.sign {a : Nat} {m : Int} (h : Fl a m) (hm : m ≠ 0) : decide (9223372036854775808 ≤ a) = decide (m < 0) := by
  have h2 := h.2
  have hv := h.val
  have hp := one_pos
  have hpos : 0 < m.natAbs * one1 := Nat.mul_pos (by omega) hp
  rw [sgI_of h.1, hv] at h2
  generalize one1 = u at *
  by_cases c : 9223372036854775808 ≤ a
  · rw [if_pos (by simpa using c)] at h2
    have hneg : m * (u : Int) < 0 := by rw [← h2]; omega
    have : m < 0 := by
      apply Classical.byContradiction
      intro hc
      have := Int.mul_nonneg (show (0 : Int) ≤ m from by omega) (show (0 : Int) ≤ (u : Int) from by omega)
      omega
    simp [c, this]
  · rw [if_neg (by simpa using c)] at h2
    have hpos' : 0 < m * (u : Int) := by rw [← h2]; omega
    have : ¬ m < 0 := by
      intro hc
      have := Int.mul_nonneg (show (0 : Int) ≤ -m from by omega) (show (0 : Int) ≤ (u : Int) from by omega)
      rw [Int.neg_mul] at this
      omega
    simp [c, this]
/-- The place of a whole number's last digit. -/
theorem whole_place {m k n : Nat} (h : m * 2 ^ k = n * one1) (hn : n ≠ 0) (hm : m < 9007199254740992) : 1022 ≤ k := by
  apply Classical.byContradiction
  intro hc
  obtain ⟨T, hT⟩ : ∃ T : Nat, T = 1074 := ⟨_, rfl⟩
  rw [one_is', ← hT] at h
  obtain ⟨d, hd⟩ : ∃ d, T = k + 53 + d := ⟨T - (k + 53), by omega⟩
  have h4 : 2 ^ T = 2 ^ k * 9007199254740992 * 2 ^ d := by rw [hd, Nat.pow_add, Nat.pow_add]
  have hk := Nat.two_pow_pos k
  have hd' := Nat.two_pow_pos d
  have h5 : 2 ^ k * 9007199254740992 * 1 ≤ 2 ^ k * 9007199254740992 * 2 ^ d := Nat.mul_le_mul_left _ hd'
  have h6 : 1 * 2 ^ T ≤ n * 2 ^ T := Nat.mul_le_mul_right _ (by omega)
  have h7 : m * 2 ^ k < 9007199254740992 * 2 ^ k := Nat.mul_lt_mul_of_pos_right hm hk
  rw [h] at h7
  rw [← h4] at h5
  generalize n * 2 ^ T = x at *
  generalize 2 ^ T = y at *
  generalize 2 ^ k = z at *
  omega
theorem word_zero (s : Bool) : Fl (double.word s 0) 0 := by
  have := word_fin s (r := 0) (by decide)
  refine ⟨this.1, ?_⟩
  rw [this.2, valN_zero]
  cases s <;> simp
theorem Fl.mul {a b : Nat} {m n : Int} (ha : Fl a m) (hb : Fl b n) (h : (m * n).natAbs ≤ 9007199254740992) : ∃ c, floatBits .mul .f64 a b = some c ∧ Fl c (m * n) := by
  obtain ⟨ma, ka, ea, va, la⟩ := read_fin' ha.1
  obtain ⟨mb, kb, eb, vb, lb⟩ := read_fin' hb.1
  rw [ha.val] at va
  rw [hb.val] at vb
  have E : floatBits .mul .f64 a b = some (double.nearest (decide (9223372036854775808 ≤ a) ^^ decide (9223372036854775808 ≤ b)) (ma * mb) (((ka : Int) - 1074) + ((kb : Int) - 1074))) := by
    show Format.mul double a b = _
    unfold Format.mul
    rw [ea, eb]
    rfl
  have hp := one_pos
  by_cases m0 : m = 0
  · subst m0
    have : ma = 0 := by
      rcases Nat.eq_zero_or_pos ma with h0 | h0
      · exact h0
      · have := Nat.mul_pos h0 (Nat.two_pow_pos ka); simp at va; omega
    subst this
    rw [Nat.zero_mul, nearest_zero] at E
    exact ⟨_, E, by rw [Int.zero_mul]; exact word_zero _⟩
  · by_cases n0 : n = 0
    · subst n0
      have : mb = 0 := by
        rcases Nat.eq_zero_or_pos mb with h0 | h0
        · exact h0
        · have := Nat.mul_pos h0 (Nat.two_pow_pos kb); simp at vb; omega
      subst this
      rw [Nat.mul_zero, nearest_zero] at E
      exact ⟨_, E, by rw [Int.mul_zero]; exact word_zero _⟩
    · have pa := whole_place va (by omega) la
      have pb := whole_place vb (by omega) lb
      obtain ⟨r, hr, hv⟩ := rung_of h
      have hX : ma * mb * 2 ^ (ka + kb - 1074) = valN r := by
        rw [hv, Int.natAbs_mul]
        have h1 : (ma * 2 ^ ka) * (mb * 2 ^ kb) = (m.natAbs * one1) * (n.natAbs * one1) := by rw [va, vb]
        have h2 : (ma * 2 ^ ka) * (mb * 2 ^ kb) = ma * mb * 2 ^ (ka + kb - 1074) * one1 := by
          obtain ⟨T, hT⟩ : ∃ T : Nat, T = 1074 := ⟨_, rfl⟩
          rw [one_is', ← hT, Nat.mul_assoc (ma * mb), ← Nat.pow_add, show ka + kb - T + T = ka + kb from by omega, Nat.pow_add]
          simp only [Nat.mul_assoc, Nat.mul_left_comm, Nat.mul_comm]
        have h3 : (m.natAbs * one1) * (n.natAbs * one1) = m.natAbs * n.natAbs * one1 * one1 := by simp only [Nat.mul_assoc, Nat.mul_left_comm, Nat.mul_comm]
        rw [h2, h3] at h1
        exact Nat.eq_of_mul_eq_mul_right hp h1
      rw [show ((ka : Int) - 1074) + ((kb : Int) - 1074) = ((ka + kb - 1074 : Nat) : Int) - 1074 from by omega, nearest_exact _ _ _ r hr hX] at E
      refine ⟨_, E, (word_fin _ hr).1, ?_⟩
      rw [(word_fin _ hr).2, hv, ha.sign m0, hb.sign n0, Int.natCast_mul, ← Int.neg_mul]
      have hs : (if (decide (m < 0) ^^ decide (n < 0)) = true then -(((m * n).natAbs : Nat) : Int) else (((m * n).natAbs : Nat) : Int)) = m * n := by
        rw [Int.natAbs_mul, Int.natCast_mul]
        rcases Int.lt_or_gt_of_ne m0 with c1 | c1 <;> rcases Int.lt_or_gt_of_ne n0 with c2 | c2
        · rw [show decide (m < 0) = true from by simpa using c1, show decide (n < 0) = true from by simpa using c2]
          rw [show ((m.natAbs : Nat) : Int) = -m from by omega, show ((n.natAbs : Nat) : Int) = -n from by omega]
          simp [Int.neg_mul, Int.mul_neg]
        · rw [show decide (m < 0) = true from by simpa using c1, show decide (n < 0) = false from by simp; omega]
          rw [show ((m.natAbs : Nat) : Int) = -m from by omega, show ((n.natAbs : Nat) : Int) = n from by omega]
          simp [Int.neg_mul, Int.mul_neg]
        · rw [show decide (m < 0) = false from by simp; omega, show decide (n < 0) = true from by simpa using c2]
          rw [show ((m.natAbs : Nat) : Int) = m from by omega, show ((n.natAbs : Nat) : Int) = -n from by omega]
          simp [Int.neg_mul, Int.mul_neg]
        · rw [show decide (m < 0) = false from by simp; omega, show decide (n < 0) = false from by simp; omega]
          rw [show ((m.natAbs : Nat) : Int) = m from by omega, show ((n.natAbs : Nat) : Int) = n from by omega]
          simp
      conv => rhs; rw [← hs]
      split <;> rfl
end Go.Proofs.YtgdmbcfjjdngdaaDoor
