/- Plain facts: a sum of double words that a word can hold is that word; whole numbers of 53 bits and their words; nothing of the program is in here. -/
import Derived.Test.YtgdmbcfjjdngdaaDoorKey
namespace Go.Proofs.YtgdmbcfjjdngdaaDoor
open Ieee

theorem cut_shift (s : Bool) (M X k : Nat) (h : M = X * 2 ^ k) (h0 : 0 < X) : Toward.even.cut s M k = X := by
  subst h
  rw [cut_rne, rne_exact]
  have h1 : 2 ^ k ≤ X * 2 ^ k := Nat.le_mul_of_pos_left _ h0
  have h2 : 0 < 2 ^ k := Nat.two_pow_pos k
  have := (Nat.le_log2 (n := X * 2 ^ k) (k := k) (by omega)).2 h1
  omega
theorem word_min (s : Bool) {r : Nat} (h : r < 9218868437227405312) : double.word s (min r 9218868437227405312) = double.word s r := by
  rw [Nat.min_eq_left (Nat.le_of_lt h)]
/-- The nearest word of what a rung holds is that rung's. -/
theorem nearest_exact (s : Bool) (M k r : Nat) (hr : r < 9218868437227405312) (h : M * 2 ^ k = valN r) : double.nearest s M ((k : Int) - 1074) = double.word s r := by
  have hk := Nat.two_pow_pos k
  by_cases hM : M = 0
  · subst hM
    have : r = 0 := by
      rcases Nat.eq_zero_or_pos r with h0 | h0
      · exact h0
      · have := valN_pos h0; omega
    subst this
    exact nearest_zero s _
  have hl1 : 2 ^ M.log2 ≤ M := Nat.log2_self_le hM
  have hl2 : M < 2 ^ (M.log2 + 1) := Nat.lt_log2_self
  have hk1 : 2 ^ (M.log2 + k) ≤ M * 2 ^ k := by rw [Nat.pow_add]; exact Nat.mul_le_mul_right _ hl1
  have hk2 : M * 2 ^ k < 2 ^ (M.log2 + 1 + k) := by rw [Nat.pow_add]; exact Nat.mul_lt_mul_of_pos_right hl2 hk
  unfold Format.nearest
  rw [if_neg hM, dbl_frac, dbl_least, dbl_bin, dbl_inf]
  generalize M.log2 = L at *
  by_cases c : r < 4503599627370496
  · have e : valN r = r := by unfold valN; rw [if_pos c]
    rw [e] at h
    have hL : L + k < 52 := by
      apply Classical.byContradiction
      intro hc
      have : 2 ^ 52 ≤ 2 ^ (L + k) := Nat.pow_le_pow_right (by omega) (by omega)
      omega
    have e1 : max ((k : Int) - 1074 + (L : Int) - ((52 : Nat) : Int)) (-1074) = -1074 := by omega
    simp only []
    rw [e1, show ((k : Int) - 1074 - -1074).toNat = k from by omega, show ((-1074 : Int) - ((k : Int) - 1074)).toNat = 0 from by omega, Nat.shiftLeft_eq, h, cut_even0, show ((-1074 : Int) - -1074).toNat = 0 from by omega, Nat.zero_mul, Nat.zero_add, word_min s hr]
  · have e : valN r = (4503599627370496 + r % 4503599627370496) * 2 ^ (r / 4503599627370496 - 1) := by unfold valN; rw [if_neg c]
    rw [e] at h
    have hq : 0 < r / 4503599627370496 := by omega
    have hR : r / 4503599627370496 * 4503599627370496 + r % 4503599627370496 = r := by omega
    have hq2 : r / 4503599627370496 ≤ 2046 := by omega
    have hf : r % 4503599627370496 < 4503599627370496 := by omega
    generalize r / 4503599627370496 = q at *
    generalize r % 4503599627370496 = f at *
    obtain ⟨E, rfl⟩ : ∃ E, q = E + 1 := ⟨q - 1, by omega⟩
    rw [Nat.add_sub_cancel] at h
    have hp := Nat.two_pow_pos E
    have hv1 : 2 ^ (52 + E) ≤ M * 2 ^ k := by rw [h, Nat.pow_add]; exact Nat.mul_le_mul_right _ (by omega)
    have hv2 : M * 2 ^ k < 2 ^ (53 + E) := by
      rw [h, Nat.pow_add, show (2 : Nat) ^ 53 = 9007199254740992 from rfl]
      exact (Nat.mul_lt_mul_right hp).2 (by omega)
    have hL : L + k = 52 + E := by
      have a1 : L + k < 53 + E := (Nat.pow_lt_pow_iff_right (a := 2) (by omega)).1 (Nat.lt_of_le_of_lt hk1 hv2)
      have a2 : 52 + E < L + 1 + k := (Nat.pow_lt_pow_iff_right (a := 2) (by omega)).1 (Nat.lt_of_le_of_lt hv1 hk2)
      omega
    have e1 : max ((k : Int) - 1074 + (L : Int) - ((52 : Nat) : Int)) (-1074) = (E : Int) - 1074 := by omega
    simp only []
    rw [e1, show ((E : Int) - 1074 - -1074).toNat = E from by omega]
    have fin1 : E * 4503599627370496 + (4503599627370496 + f) = r := by rw [← hR, Nat.add_mul, Nat.one_mul, Nat.add_assoc]
    by_cases ck : E ≤ k
    · obtain ⟨d, rfl⟩ : ∃ d, k = E + d := ⟨k - E, by omega⟩
      rw [show (((E + d : Nat) : Int) - 1074 - ((E : Int) - 1074)).toNat = d from by omega, show ((E : Int) - 1074 - (((E + d : Nat) : Int) - 1074)).toNat = 0 from by omega, Nat.shiftLeft_eq, cut_even0]
      have : M * 2 ^ d = 4503599627370496 + f := by
        rw [Nat.add_comm E d, Nat.pow_add, ← Nat.mul_assoc] at h
        exact Nat.eq_of_mul_eq_mul_right hp h
      rw [this, fin1, word_min s hr]
    · obtain ⟨d, rfl⟩ : ∃ d, E = k + d := ⟨E - k, by omega⟩
      rw [show ((k : Int) - 1074 - (((k + d : Nat) : Int) - 1074)).toNat = 0 from by omega, show (((k + d : Nat) : Int) - 1074 - ((k : Int) - 1074)).toNat = d from by omega, Nat.shiftLeft_zero]
      have : M = (4503599627370496 + f) * 2 ^ d := by
        rw [Nat.add_comm k d, Nat.pow_add, ← Nat.mul_assoc] at h
        exact Nat.eq_of_mul_eq_mul_right hk h
      rw [cut_shift s M _ d this (by omega), fin1, word_min s hr]

theorem word_fin (s : Bool) {r : Nat} (h : r < 9218868437227405312) : fin (double.word s r) ∧ sgI (double.word s r) = if s then -(valN r : Int) else (valN r : Int) := by
  unfold Format.word
  rw [dbl_sw]
  cases s with
  | false =>
    simp only [Bool.false_eq_true, if_false]
    refine ⟨⟨by omega, by omega⟩, ?_⟩
    unfold sgI
    rw [if_pos (by omega)]
  | true =>
    simp only [if_true]
    refine ⟨⟨by omega, by omega⟩, ?_⟩
    unfold sgI
    rw [if_neg (by omega), show 9223372036854775808 + r - 9223372036854775808 = r from by omega]

/-- The datum of a finite word, as a size at a place. -/
theorem sum_exact (s t : Bool) (m n k l r : Nat) (hr : r < 9218868437227405312)
    (h : ((if s then -((m * 2 ^ k : Nat) : Int) else ((m * 2 ^ k : Nat) : Int)) + (if t then -((n * 2 ^ l : Nat) : Int) else ((n * 2 ^ l : Nat) : Int))).natAbs = valN r) :
    ∃ c, ((Datum.number s m ((k : Int) - 1074)).sum (Datum.number t n ((l : Int) - 1074))).map double.write = some c ∧ fin c ∧
      sgI c = (if s then -((m * 2 ^ k : Nat) : Int) else ((m * 2 ^ k : Nat) : Int)) + (if t then -((n * 2 ^ l : Nat) : Int) else ((n * 2 ^ l : Nat) : Int)) := by
  simp only [Datum.sum, Option.map_some, Format.write]
  have f0 : min ((k : Int) - 1074) ((l : Int) - 1074) = ((min k l : Nat) : Int) - 1074 := by omega
  rw [f0]
  have f1 : ((k : Int) - 1074 - (((min k l : Nat) : Int) - 1074)).toNat = k - min k l := by omega
  have f2 : ((l : Int) - 1074 - (((min k l : Nat) : Int) - 1074)).toNat = l - min k l := by omega
  rw [f1, f2]
  have g1 := signed_scale s m (k - min k l) (min k l)
  have g2 := signed_scale t n (l - min k l) (min k l)
  rw [show k - min k l + min k l = k from by omega] at g1
  rw [show l - min k l + min k l = l from by omega] at g2
  rw [← g1, ← g2, ← Int.add_mul] at h ⊢
  generalize signed s m (k - min k l) + signed t n (l - min k l) = T at *
  generalize min k l = z at *
  have hz := Nat.two_pow_pos z
  rw [Int.natAbs_mul, Int.natAbs_natCast] at h
  rw [nearest_exact _ T.natAbs z r hr h]
  refine ⟨_, rfl, (word_fin _ hr).1, ?_⟩
  rw [(word_fin _ hr).2, ← h, Int.natCast_mul]
  by_cases hT : T = 0
  · subst hT; simp
  · rw [if_neg hT]
    by_cases hn : T < 0
    · rw [if_pos (by simpa using hn), ← Int.neg_mul]; congr 1; omega
    · rw [if_neg (by simpa using hn)]; congr 1; omega

theorem sgI_read {b m k : Nat} (h : fin b) (v : m * 2 ^ k = valN (b % 9223372036854775808)) : sgI b = if decide (9223372036854775808 ≤ b) then -((m * 2 ^ k : Nat) : Int) else ((m * 2 ^ k : Nat) : Int) := by
  rw [sgI_of h, v]
theorem add_exact {a b r : Nat} (ha : fin a) (hb : fin b) (hr : r < 9218868437227405312) (h : (sgI a + sgI b).natAbs = valN r) :
    ∃ c, double.add a b = some c ∧ fin c ∧ sgI c = sgI a + sgI b := by
  obtain ⟨m, k, e1, v1⟩ := read_fin ha
  obtain ⟨n, l, e2, v2⟩ := read_fin hb
  rw [sgI_read ha v1, sgI_read hb v2] at h ⊢
  unfold Format.add
  rw [e1, e2]
  exact sum_exact _ _ m n k l r hr h
theorem sub_exact {a b r : Nat} (ha : fin a) (hb : fin b) (hr : r < 9218868437227405312) (h : (sgI a - sgI b).natAbs = valN r) :
    ∃ c, double.sub a b = some c ∧ fin c ∧ sgI c = sgI a - sgI b := by
  obtain ⟨m, k, e1, v1⟩ := read_fin ha
  obtain ⟨n, l, e2, v2⟩ := read_fin hb
  have e : sgI a - sgI b = (if decide (9223372036854775808 ≤ a) then -((m * 2 ^ k : Nat) : Int) else ((m * 2 ^ k : Nat) : Int)) + (if !decide (9223372036854775808 ≤ b) then -((n * 2 ^ l : Nat) : Int) else ((n * 2 ^ l : Nat) : Int)) := by
    rw [sgI_read ha v1, sgI_read hb v2]
    cases decide (9223372036854775808 ≤ b) <;> simp <;> omega
  rw [e] at h ⊢
  unfold Format.sub
  rw [e1, e2]
  exact sum_exact _ _ m n k l r hr h

/-- How many times the least number above 0 the number 1 is. -/
def one1 : Nat := valN 4607182418800017408
theorem one_pos : 0 < one1 := valN_pos (by decide)
theorem one_pow : ∃ K, one1 = 2 ^ K ∧ K = 1074 := by
  obtain ⟨X, hX⟩ : ∃ X, X = 1022 := ⟨_, rfl⟩
  refine ⟨52 + X, ?_, by omega⟩
  unfold one1 valN
  rw [if_neg (by decide), show 4503599627370496 + 4607182418800017408 % 4503599627370496 = 2 ^ 52 from rfl, show 4607182418800017408 / 4503599627370496 - 1 = X from by omega, Nat.pow_add]
/-- Whole numbers of 53 bits have rungs. -/
theorem rung_of {n : Nat} (h : n ≤ 9007199254740992) : ∃ r, r < 9218868437227405312 ∧ valN r = n * one1 := by
  obtain ⟨K, e1, e2⟩ := one_pow
  by_cases h0 : n = 0
  · exact ⟨0, by decide, by rw [h0, valN_zero, Nat.zero_mul]⟩
  · have hl1 : 2 ^ n.log2 ≤ n := Nat.log2_self_le h0
    have hl2 : n < 2 ^ (n.log2 + 1) := Nat.lt_log2_self
    by_cases hn : n = 9007199254740992
    · refine ⟨1076 * 4503599627370496, by decide, ?_⟩
      rw [e1, hn]
      unfold valN
      rw [if_neg (by decide), show 1076 * 4503599627370496 % 4503599627370496 = 0 from by decide, show 1076 * 4503599627370496 / 4503599627370496 - 1 = 1 + K from by omega, Nat.pow_add, Nat.add_zero, ← Nat.mul_assoc]
    · have hL : n.log2 ≤ 52 := by
        apply Classical.byContradiction
        intro hc
        have : 2 ^ 53 ≤ 2 ^ n.log2 := Nat.pow_le_pow_right (by omega) (by omega)
        omega
      generalize n.log2 = L at *
      have hq := Nat.two_pow_pos (52 - L)
      have e52 : 2 ^ L * 2 ^ (52 - L) = 4503599627370496 := by rw [← Nat.pow_add, show L + (52 - L) = 52 from by omega]
      have e53 : 2 ^ (L + 1) * 2 ^ (52 - L) = 9007199254740992 := by rw [← Nat.pow_add, show L + 1 + (52 - L) = 53 from by omega]
      have m1 : 4503599627370496 ≤ n * 2 ^ (52 - L) := by rw [← e52]; exact Nat.mul_le_mul_right _ hl1
      have m2 : n * 2 ^ (52 - L) < 9007199254740992 := by rw [← e53]; exact Nat.mul_lt_mul_of_pos_right hl2 hq
      have e3 : n * 2 ^ (52 - L) * 2 ^ (L + 1022) = n * 2 ^ K := by
        rw [Nat.mul_assoc, ← Nat.pow_add, show 52 - L + (L + 1022) = K from by omega]
      generalize n * 2 ^ (52 - L) = M at *
      refine ⟨(L + 1022) * 4503599627370496 + M, by omega, ?_⟩
      unfold valN
      rw [if_neg (by omega), e1, show ((L + 1022) * 4503599627370496 + M) / 4503599627370496 - 1 = L + 1022 from by omega, show 4503599627370496 + ((L + 1022) * 4503599627370496 + M) % 4503599627370496 = M from by omega, e3]
/-- A word that holds a whole number. -/
def Fl (b : Nat) (n : Int) : Prop := fin b ∧ sgI b = n * (one1 : Int)
theorem Fl.lt {b : Nat} {n : Int} (h : Fl b n) : b < 18446744073709551616 := h.1.1
theorem natAbs_one (n : Int) : (n * (one1 : Int)).natAbs = n.natAbs * one1 := by rw [Int.natAbs_mul, Int.natAbs_natCast]
theorem Fl.add {a b : Nat} {m n : Int} (ha : Fl a m) (hb : Fl b n) (h : (m + n).natAbs ≤ 9007199254740992) : ∃ c, floatBits .add .f64 a b = some c ∧ Fl c (m + n) := by
  obtain ⟨r, hr, hv⟩ := rung_of h
  obtain ⟨c, h1, h2, h3⟩ := add_exact ha.1 hb.1 hr (by rw [ha.2, hb.2, ← Int.add_mul, natAbs_one, hv])
  exact ⟨c, h1, h2, by rw [h3, ha.2, hb.2, Int.add_mul]⟩
theorem Fl.sub {a b : Nat} {m n : Int} (ha : Fl a m) (hb : Fl b n) (h : (m - n).natAbs ≤ 9007199254740992) : ∃ c, floatBits .sub .f64 a b = some c ∧ Fl c (m - n) := by
  obtain ⟨r, hr, hv⟩ := rung_of h
  obtain ⟨c, h1, h2, h3⟩ := sub_exact ha.1 hb.1 hr (by rw [ha.2, hb.2, ← Int.sub_mul, natAbs_one, hv])
  exact ⟨c, h1, h2, by rw [h3, ha.2, hb.2, Int.sub_mul]⟩
theorem Fl.ofInt {n : Int} (h : n.natAbs ≤ 9007199254740992) : Fl (floatOfInt .f64 n) n := by
  obtain ⟨K, e1, e2⟩ := one_pow
  obtain ⟨r, hr, hv⟩ := rung_of h
  have e : floatOfInt .f64 n = double.word (decide (n < 0)) r := by
    show double.nearest (decide (n < 0)) n.natAbs 0 = _
    have := nearest_exact (decide (n < 0)) n.natAbs K r hr (by rw [← e1]; exact hv.symm)
    rw [show ((K : Int) - 1074) = 0 from by omega] at this
    exact this
  rw [e]
  clear e e1 e2
  refine ⟨(word_fin _ hr).1, ?_⟩
  rw [(word_fin _ hr).2, hv]
  by_cases hn : n < 0
  · rw [decide_eq_true hn, if_pos rfl, Int.natCast_mul, ← Int.neg_mul]; congr 1; omega
  · rw [decide_eq_false hn, if_neg (by decide), Int.natCast_mul]; congr 1; omega
theorem fin_num {b : Nat} (h : fin b) : ¬ isN b := by unfold fin at h; unfold isN; omega
theorem Fl.order {a b : Nat} {m n : Int} (ha : Fl a m) (hb : Fl b n) : double.order a b = some (compare m n) := by
  have h1 : (0 : Int) < (one1 : Int) := by have := one_pos; generalize one1 = u at *; omega
  rw [order_fin ha.1 hb.1, ha.2, hb.2, cmp_scale _ _ _ h1]
theorem Fl.abs {a : Nat} {m : Int} (ha : Fl a m) : Fl (a % 9223372036854775808) (m.natAbs : Int) := by
  obtain ⟨⟨h1, h2⟩, h3⟩ := ha
  have hf : fin (a % 9223372036854775808) := ⟨by omega, by omega⟩
  refine ⟨hf, ?_⟩
  rw [sgI_of ⟨h1, h2⟩] at h3
  have e : sgI (a % 9223372036854775808) = (valN (a % 9223372036854775808) : Int) := by unfold sgI; rw [if_pos (by omega)]
  rw [e]
  have hc : (m.natAbs : Int) * (one1 : Int) = ((m * (one1 : Int)).natAbs : Int) := by rw [natAbs_one, Int.natCast_mul]
  rw [hc, ← h3]
  split <;> omega
end Go.Proofs.YtgdmbcfjjdngdaaDoor
