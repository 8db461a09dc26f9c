/- Plain facts on products of whole numbers that are rounded, and on quotients of numbers of one size; nothing of the program is in here. -/
import Derived.Test.YtgdmbcfjjdngdaaDoorWh
set_option linter.unusedSimpArgs false
namespace Go.Proofs.YtgdmbcfjjdngdaaDoor
open Ieee

/-- A cut does not change where both are scaled. -/
theorem cut_scale (s : Bool) (A b j : Nat) (hA : A ≠ 0) : Toward.even.cut s (A * 2 ^ j) (b + j) = Toward.even.cut s A b := by
  have hj := Nat.two_pow_pos j
  have hl : (A * 2 ^ j).log2 = A.log2 + j := by
    have h1 : 2 ^ A.log2 ≤ A := Nat.log2_self_le hA
    have h2 : A < 2 ^ (A.log2 + 1) := Nat.lt_log2_self
    refine log2_of ?_ ?_
    · rw [Nat.pow_add]; exact Nat.mul_le_mul_right _ h1
    · rw [show A.log2 + j + 1 = A.log2 + 1 + j from by omega, Nat.pow_add]; exact Nat.mul_lt_mul_of_pos_right h2 hj
  unfold Toward.cut
  rw [hl, show min (b + j) (A.log2 + j + 2) = min b (A.log2 + 2) + j from by omega]
  simp only [Nat.one_shiftLeft]
  generalize min b (A.log2 + 2) = c
  rw [Nat.pow_add, Nat.mul_div_mul_right _ _ hj, Nat.mul_mod_mul_right]
  have e1 : (2 ^ c * 2 ^ j < 2 * (A % 2 ^ c * 2 ^ j)) ↔ 2 ^ c < 2 * (A % 2 ^ c) := by
    rw [← Nat.mul_assoc]; exact Nat.mul_lt_mul_right hj
  have e2 : (2 ^ c * 2 ^ j = 2 * (A % 2 ^ c * 2 ^ j)) ↔ 2 ^ c = 2 * (A % 2 ^ c) := by
    rw [← Nat.mul_assoc]; exact ⟨Nat.eq_of_mul_eq_mul_right hj, fun h => congrArg (· * 2 ^ j) h⟩
  have d1 : decide (2 ^ c * 2 ^ j < 2 * (A % 2 ^ c * 2 ^ j)) = decide (2 ^ c < 2 * (A % 2 ^ c)) := by simp only [e1]
  have d2 : (2 ^ c * 2 ^ j == 2 * (A % 2 ^ c * 2 ^ j)) = (2 ^ c == 2 * (A % 2 ^ c)) := by
    rw [Bool.eq_iff_iff]; simp only [beq_iff_eq, e2]
  rw [d1, d2]
theorem cut_exact (s : Bool) (A j : Nat) : Toward.even.cut s (A * 2 ^ j) j = A := by
  by_cases hA : A = 0
  · subst hA
    rw [Nat.zero_mul]
    unfold Toward.cut
    simp [Nat.one_shiftLeft]
  · have := cut_scale s A 0 j hA
    rw [Nat.zero_add, cut_even0] at this
    exact this
theorem nearest_scale (s : Bool) (A j : Nat) (p : Int) : double.nearest s (A * 2 ^ j) (p - j) = double.nearest s A p := by
  by_cases hA : A = 0
  · subst hA; rw [Nat.zero_mul, nearest_zero, nearest_zero]
  · have hj := Nat.two_pow_pos j
    have hne : A * 2 ^ j ≠ 0 := Nat.mul_ne_zero hA (by omega)
    have hl : (A * 2 ^ j).log2 = A.log2 + j := by
      have h1 : 2 ^ A.log2 ≤ A := Nat.log2_self_le hA
      have h2 : A < 2 ^ (A.log2 + 1) := Nat.lt_log2_self
      refine log2_of ?_ ?_
      · rw [Nat.pow_add]; exact Nat.mul_le_mul_right _ h1
      · rw [show A.log2 + j + 1 = A.log2 + 1 + j from by omega, Nat.pow_add]; exact Nat.mul_lt_mul_of_pos_right h2 hj
    unfold Format.nearest
    rw [if_neg hA, if_neg hne, hl, dbl_frac, dbl_least]
    simp only []
    rw [show p - (j : Int) + ((A.log2 + j : Nat) : Int) - ((52 : Nat) : Int) = p + (A.log2 : Int) - ((52 : Nat) : Int) from by omega]
    generalize max (p + (A.log2 : Int) - ((52 : Nat) : Int)) (-1074) = L
    congr 3
    simp only [Nat.shiftLeft_eq]
    by_cases c : L ≤ p
    · rw [show (L - p).toNat = 0 from by omega, cut_even0]
      by_cases c2 : L ≤ p - j
      · rw [show (L - (p - (j : Int))).toNat = 0 from by omega, cut_even0, Nat.mul_assoc, ← Nat.pow_add, show j + (p - (j : Int) - L).toNat = (p - L).toNat from by omega]
      · obtain ⟨t, ht⟩ : ∃ t : Nat, p - L = t := ⟨(p - L).toNat, by omega⟩
        rw [show (p - (j : Int) - L).toNat = 0 from by omega, Nat.pow_zero, Nat.mul_one, show (L - (p - (j : Int))).toNat = j - t from by omega, show (p - L).toNat = t from by omega]
        have : A * 2 ^ j = A * 2 ^ t * 2 ^ (j - t) := by rw [Nat.mul_assoc, ← Nat.pow_add, show t + (j - t) = j from by omega]
        rw [this, cut_exact]
    · rw [show (p - L).toNat = 0 from by omega, show (p - (j : Int) - L).toNat = 0 from by omega, Nat.pow_zero, Nat.mul_one, Nat.mul_one, show (L - (p - (j : Int))).toNat = (L - p).toNat + j from by omega, cut_scale _ _ _ _ hA]
/-- The sign of a rounded number stands for itself. -/
theorem nearest_sign (s : Bool) (A : Nat) (p : Int) : double.nearest s A p = double.word s (double.nearest false A p) := by
  unfold Format.nearest
  split
  · unfold Format.word; simp
  · unfold Format.word Toward.cut; simp
/-- The product of two whole numbers, rounded once. -/
theorem mul_foi {a b : Nat} {m n : Int} (ha : Fl a m) (hb : Fl b n) (m0 : m ≠ 0) (n0 : n ≠ 0) : floatBits .mul .f64 a b = some (floatOfInt .f64 (m * n)) := by
  obtain ⟨ma, ka, ea, va, la⟩ := read_fin' ha.1
  obtain ⟨mb, kb, eb, vb, lb⟩ := read_fin' hb.1
  rw [ha.val] at va
  rw [hb.val] at vb
  have pa := whole_place va (by omega) la
  have pb := whole_place vb (by omega) lb
  have hp := one_pos
  have hs : (decide (9223372036854775808 ≤ a) ^^ decide (9223372036854775808 ≤ b)) = decide (m * n < 0) := by
    rw [ha.sign m0, hb.sign n0]
    rcases Int.lt_or_gt_of_ne m0 with c1 | c1 <;> rcases Int.lt_or_gt_of_ne n0 with c2 | c2
    · have := Int.mul_pos_of_neg_of_neg c1 c2; rw [decide_eq_true c1, decide_eq_true c2, decide_eq_false (by omega)]; rfl
    · have := Int.mul_neg_of_neg_of_pos c1 c2; rw [decide_eq_true c1, decide_eq_false (by omega), decide_eq_true this]; rfl
    · have := Int.mul_neg_of_pos_of_neg c1 c2; rw [decide_eq_false (by omega), decide_eq_true c2, decide_eq_true this]; rfl
    · have := Int.mul_pos c1 c2; rw [decide_eq_false (by omega), decide_eq_false (by omega), decide_eq_false (by omega)]; rfl
  have E : floatBits .mul .f64 a b = some (double.nearest (decide (m * n < 0)) (ma * mb) (((ka : Int) - 1074) + ((kb : Int) - 1074))) := by
    rw [← hs]
    show Format.mul double a b = _
    unfold Format.mul
    rw [ea, eb]
    rfl
  rw [E]
  show _ = some (double.nearest (decide (m * n < 0)) (m * n).natAbs 0)
  obtain ⟨T, hT⟩ : ∃ T : Nat, T = 1074 := ⟨_, rfl⟩
  have hX : ma * mb * 2 ^ (ka + kb) = (m * n).natAbs * 2 ^ (T + T) := by
    rw [Int.natAbs_mul, Nat.pow_add, Nat.pow_add]
    have h1 : (ma * 2 ^ ka) * (mb * 2 ^ kb) = (m.natAbs * one1) * (n.natAbs * one1) := by rw [va, vb]
    rw [one_is', ← hT] at h1
    rw [Nat.mul_mul_mul_comm, Nat.mul_mul_mul_comm m.natAbs] at h1
    exact h1
  congr 1
  by_cases c : T + T ≤ ka + kb
  · have h2 : ma * mb * 2 ^ (ka + kb - (T + T)) = (m * n).natAbs := by
      have hq := Nat.two_pow_pos (T + T)
      refine Nat.eq_of_mul_eq_mul_right hq ?_
      rw [Nat.mul_assoc, ← Nat.pow_add, show ka + kb - (T + T) + (T + T) = ka + kb from by omega]; exact hX
    rw [← h2, show ((ka : Int) - 1074 + ((kb : Int) - 1074)) = ((ka + kb - (T + T) : Nat) : Int) from by omega]
    have := nearest_scale (decide (m * n < 0)) (ma * mb) (ka + kb - (T + T)) ((ka + kb - (T + T) : Nat) : Int)
    rw [Int.sub_self] at this
    exact this.symm
  · have h2 : ma * mb = (m * n).natAbs * 2 ^ (T + T - (ka + kb)) := by
      have hq := Nat.two_pow_pos (ka + kb)
      refine Nat.eq_of_mul_eq_mul_right hq ?_
      rw [Nat.mul_assoc (m * n).natAbs, ← Nat.pow_add, show T + T - (ka + kb) + (ka + kb) = T + T from by omega]; exact hX
    rw [h2, show ((ka : Int) - 1074 + ((kb : Int) - 1074)) = 0 - ((T + T - (ka + kb) : Nat) : Int) from by omega]
    exact nearest_scale _ _ _ _
/-- Two numbers of one size, divided. -/
theorem quo_unit {a b : Nat} (ha : fin a) (hb : fin b) (h : a % 9223372036854775808 = b % 9223372036854775808) (h0 : b % 9223372036854775808 ≠ 0) :
    floatBits .quo .f64 a b = some (double.word (decide (9223372036854775808 ≤ a) ^^ decide (9223372036854775808 ≤ b)) 4607182418800017408) := by
  have same : ∀ x, fin x → ∃ s, double.read x = .number s (if x % 9223372036854775808 < 4503599627370496 then x % 9223372036854775808 else 4503599627370496 + x % 9223372036854775808 % 4503599627370496) (if x % 9223372036854775808 < 4503599627370496 then -1074 else -1074 + ((x % 9223372036854775808 / 4503599627370496 - 1 : Nat) : Int)) ∧ s = decide (9223372036854775808 ≤ x) := fun x hx => by
    obtain ⟨m, k, e, _⟩ := read_fin hx
    refine ⟨_, ?_, rfl⟩
    have e' := e
    unfold Format.read at e' ⊢
    rw [dbl_sw, dbl_bin, dbl_inf, dbl_least] at e' ⊢
    simp only [] at e' ⊢
    by_cases c : x % 9223372036854775808 < 4503599627370496
    · rw [if_pos c] at e' ⊢
      rw [if_pos c, if_pos c]
      injection e' with e1 _ _
      rw [e1]
    · rw [if_neg c, if_pos hx.2] at e' ⊢
      rw [if_neg c, if_neg c]
      injection e' with e1 _ _
      rw [e1]
  obtain ⟨s, ea, hs⟩ := same a ha
  obtain ⟨t, eb, ht⟩ := same b hb
  rw [h] at ea
  rw [← hs, ← ht]
  show Format.div double a b = _
  unfold Format.div
  rw [ea, eb]
  have hm : (if b % 9223372036854775808 < 4503599627370496 then b % 9223372036854775808 else 4503599627370496 + b % 9223372036854775808 % 4503599627370496) ≠ 0 := by split <;> omega
  generalize (if b % 9223372036854775808 < 4503599627370496 then b % 9223372036854775808 else 4503599627370496 + b % 9223372036854775808 % 4503599627370496) = m at *
  generalize (if b % 9223372036854775808 < 4503599627370496 then (-1074 : Int) else -1074 + ((b % 9223372036854775808 / 4503599627370496 - 1 : Nat) : Int)) = i at *
  simp only [Datum.quotient, dbl_frac]
  rw [if_neg hm, show 52 + 2 + m.log2 - m.log2 = 54 from by omega, Nat.shiftLeft_eq]
  have hpos : 0 < m := by omega
  rw [Nat.mul_div_cancel_left _ hpos, Nat.mul_mod_right]
  show some (double.nearest (s ^^ t) (2 * 2 ^ 54 + 0) (i - i - ((54 : Nat) : Int) - 1)) = _
  obtain ⟨K, hK⟩ : ∃ K : Nat, K = 1019 := ⟨_, rfl⟩
  rw [show i - i - ((54 : Nat) : Int) - 1 = (K : Int) - 1074 from by omega]
  have hv : (2 * 2 ^ 54 + 0) * 2 ^ K = valN 4607182418800017408 := by
    show _ = one1
    obtain ⟨T, hT⟩ : ∃ T : Nat, T = 1074 := ⟨_, rfl⟩
    rw [one_is', ← hT, show T = 55 + K from by omega, Nat.pow_add]
  rw [nearest_exact _ _ K _ (by decide) hv]
theorem quo_zero {a b : Nat} (ha : fin a) (hb : fin b) (h : a % 9223372036854775808 = 0) (h0 : b % 9223372036854775808 ≠ 0) : ∃ s, floatBits .quo .f64 a b = some (double.word s 0) := by
  obtain ⟨m, k, ea, va⟩ := read_fin ha
  obtain ⟨n, l, eb, vb⟩ := read_fin hb
  rw [h, valN_zero] at va
  have m0 : m = 0 := by
    rcases Nat.eq_zero_or_pos m with c | c
    · exact c
    · have := Nat.mul_pos c (Nat.two_pow_pos k); omega
  have n0 : n ≠ 0 := by
    intro c
    subst c
    rw [Nat.zero_mul] at vb
    have := valN_pos (r := b % 9223372036854775808) (by omega)
    omega
  subst m0
  refine ⟨decide (9223372036854775808 ≤ a) ^^ decide (9223372036854775808 ≤ b), ?_⟩
  show Format.div double a b = _
  unfold Format.div
  rw [ea, eb]
  simp only [Datum.quotient]
  rw [if_neg n0]
  simp [Nat.zero_shiftLeft, Format.write, nearest_zero]
end Go.Proofs.YtgdmbcfjjdngdaaDoor
