/- Plain facts on double floating-point words; nothing of the program is in here. -/
import Derived.Laws.FloatArith
namespace Go.Proofs.YtgdmbcfjjdngdaaDoor
open Ieee

/-- The word of M times 2 to the power E - 1074, M of 53 bits, with its sign. -/
def fw (s : Bool) (M E : Nat) : Nat := (if s then 9223372036854775808 else 0) + (E * 4503599627370496 + M)
/-- M has 53 bits, and E is none of an infinite number. -/
structure Nrm (M E : Nat) : Prop where
  lo : 4503599627370496 ≤ M
  hi : M < 9007199254740992
  e : E ≤ 2045

theorem dbl_sw : double.signWeight = 9223372036854775808 := by decide
theorem dbl_bin : double.binade = 4503599627370496 := by decide
theorem dbl_inf : double.infRung = 9218868437227405312 := by decide
theorem dbl_least : double.leastPlace = -1074 := by decide
theorem dbl_frac : double.fractionBits = 52 := rfl

theorem read_fw (s : Bool) {M E : Nat} (h : Nrm M E) : double.read (fw s M E) = .number s M ((E : Int) - 1074) := by
  obtain ⟨h1, h2, h3⟩ := h
  unfold Format.read fw
  rw [dbl_sw, dbl_bin, dbl_inf, dbl_least]
  cases s with
  | false =>
    have e1 : (0 + (E * 4503599627370496 + M)) / 9223372036854775808 % 2 = 0 := by omega
    have e2 : (0 + (E * 4503599627370496 + M)) % 9223372036854775808 = E * 4503599627370496 + M := by omega
    simp only [Bool.false_eq_true, if_false, e1, e2]
    rw [if_neg (by omega), if_pos (by omega)]
    have e3 : 4503599627370496 + (E * 4503599627370496 + M) % 4503599627370496 = M := by omega
    have e4 : (E * 4503599627370496 + M) / 4503599627370496 - 1 = E := by omega
    rw [e3, e4, show (-1074 : Int) + (E : Int) = (E : Int) - 1074 from by omega]
    rfl
  | true =>
    have e1 : (9223372036854775808 + (E * 4503599627370496 + M)) / 9223372036854775808 % 2 = 1 := by omega
    have e2 : (9223372036854775808 + (E * 4503599627370496 + M)) % 9223372036854775808 = E * 4503599627370496 + M := by omega
    simp only [if_true, e1, e2]
    rw [if_neg (by omega), if_pos (by omega)]
    have e3 : 4503599627370496 + (E * 4503599627370496 + M) % 4503599627370496 = M := by omega
    have e4 : (E * 4503599627370496 + M) / 4503599627370496 - 1 = E := by omega
    rw [e3, e4, show (-1074 : Int) + (E : Int) = (E : Int) - 1074 from by omega]
    rfl

/-- A size divided by a power of 2, rounded to the nearest, to the even one between two. -/
def rne (A K : Nat) : Nat := A / 2 ^ K + (if 2 ^ K < 2 * (A % 2 ^ K) ∨ (2 ^ K = 2 * (A % 2 ^ K) ∧ A / 2 ^ K % 2 = 1) then 1 else 0)
theorem cut_rne (s : Bool) (A K : Nat) (h : K ≤ A.log2 + 2) : Toward.even.cut s A K = rne A K := by
  unfold Toward.cut rne
  rw [Nat.min_eq_left h, Nat.one_shiftLeft]
  simp only []
  congr 1
  by_cases c : 2 ^ K < 2 * (A % 2 ^ K) ∨ (2 ^ K = 2 * (A % 2 ^ K) ∧ A / 2 ^ K % 2 = 1)
  · rw [if_pos c]
    have : (decide (2 ^ K < 2 * (A % 2 ^ K)) || (2 ^ K == 2 * (A % 2 ^ K) && A / 2 ^ K % 2 == 1)) = true := by simpa using c
    rw [this]; rfl
  · rw [if_neg c]
    have : (decide (2 ^ K < 2 * (A % 2 ^ K)) || (2 ^ K == 2 * (A % 2 ^ K) && A / 2 ^ K % 2 == 1)) = false := by
      rw [Bool.eq_false_iff]; simpa using c
    rw [this]; rfl
theorem rne_exact (M K : Nat) : rne (M * 2 ^ K) K = M := by
  unfold rne
  have hp := Nat.two_pow_pos K
  rw [Nat.mul_div_cancel _ hp, Nat.mul_mod_left, if_neg (by omega)]
  omega

/-- The nearest word of a size A of 53 + K bits, at a place. -/
theorem nearest_at (s : Bool) (A K : Nat) (p : Int) (hA : 2 ^ (52 + K) ≤ A) (hA' : A < 2 ^ (53 + K)) (hp : -1074 ≤ p + K) :
    double.nearest s A p = double.word s (min ((p + K + 1074).toNat * 4503599627370496 + rne A K) 9218868437227405312) := by
  have hpos : 0 < 2 ^ (52 + K) := Nat.two_pow_pos _
  have hl : A.log2 = 52 + K := by
    have h1 : 52 + K ≤ A.log2 := (Nat.le_log2 (by omega)).2 hA
    have h2 : A.log2 < 53 + K := (Nat.log2_lt (by omega)).2 hA'
    omega
  unfold Format.nearest
  rw [if_neg (by omega), dbl_frac, dbl_least, dbl_bin, dbl_inf, hl]
  have e : max (p + ((52 + K : Nat) : Int) - ((52 : Nat) : Int)) (-1074) = p + K := by omega
  simp only []
  rw [e]
  have e1 : (p - (p + (K : Int))).toNat = 0 := by omega
  have e2 : (p + (K : Int) - p).toNat = K := by omega
  have e3 : (p + (K : Int) - -1074).toNat = (p + K + 1074).toNat := by omega
  rw [e1, e2, e3, Nat.shiftLeft_zero, cut_rne _ _ _ (by omega)]
theorem word_fw (s : Bool) {M E : Nat} (h : Nrm M E) : double.word s (min (E * 4503599627370496 + M) 9218868437227405312) = fw s M E := by
  obtain ⟨h1, h2, h3⟩ := h
  have e : min (E * 4503599627370496 + M) 9218868437227405312 = E * 4503599627370496 + M := by omega
  rw [e]
  unfold Format.word fw
  rw [dbl_sw]
  cases s <;> simp
/-- The nearest word of what a word can hold. -/
theorem nearest_fw (s : Bool) {M E : Nat} (h : Nrm M E) (j : Nat) : double.nearest s (M * 2 ^ j) ((E : Int) - 1074 - j) = fw s M E := by
  have hp := Nat.two_pow_pos j
  have a1 : 2 ^ (52 + j) ≤ M * 2 ^ j := by
    rw [Nat.pow_add]; exact Nat.mul_le_mul_right _ h.lo
  have a2 : M * 2 ^ j < 2 ^ (53 + j) := by
    rw [Nat.pow_add]; exact Nat.mul_lt_mul_of_pos_right h.hi hp
  rw [nearest_at s _ j _ a1 a2 (by omega), rne_exact]
  have e : ((E : Int) - 1074 - j + j + 1074).toNat = E := by omega
  rw [e, word_fw s h]
theorem nearest_zero (s : Bool) (p : Int) : double.nearest s 0 p = double.word s 0 := by unfold Format.nearest; rw [if_pos rfl]

theorem log2_of {A L : Nat} (h : 2 ^ L ≤ A) (h' : A < 2 ^ (L + 1)) : A.log2 = L := by
  have hp := Nat.two_pow_pos L
  have h1 : L ≤ A.log2 := (Nat.le_log2 (by omega)).2 h
  have h2 : A.log2 < L + 1 := (Nat.log2_lt (by omega)).2 h'
  omega
theorem cut_even0 (s : Bool) (A : Nat) : Toward.even.cut s A 0 = A := by
  rw [cut_rne _ _ _ (by omega)]
  have := rne_exact A 0
  rw [Nat.pow_zero, Nat.mul_one] at this
  exact this
/-- The nearest word of a size of at most 53 bits. -/
theorem nearest_small (s : Bool) (A L E : Nat) (p : Int) (h : 2 ^ L ≤ A) (h' : A < 2 ^ (L + 1)) (hL : L ≤ 52) (hE : (E : Int) = p + L + 1022) (hE' : E ≤ 2045) :
    double.nearest s A p = fw s (A * 2 ^ (52 - L)) E ∧ Nrm (A * 2 ^ (52 - L)) E := by
  have hp := Nat.two_pow_pos L
  have hq := Nat.two_pow_pos (52 - L)
  have e52 : 2 ^ L * 2 ^ (52 - L) = 4503599627370496 := by rw [← Nat.pow_add, show L + (52 - L) = 52 from by omega]
  have e53 : 2 ^ (L + 1) * 2 ^ (52 - L) = 9007199254740992 := by rw [← Nat.pow_add, show L + 1 + (52 - L) = 53 from by omega]
  have hn : Nrm (A * 2 ^ (52 - L)) E := ⟨by rw [← e52]; exact Nat.mul_le_mul_right _ h, by rw [← e53]; exact Nat.mul_lt_mul_of_pos_right h' hq, hE'⟩
  refine ⟨?_, hn⟩
  unfold Format.nearest
  rw [if_neg (by omega), dbl_frac, dbl_least, dbl_bin, dbl_inf, log2_of h h']
  have e : max (p + (L : Int) - ((52 : Nat) : Int)) (-1074) = p + L - 52 := by omega
  simp only []
  rw [e]
  have e1 : (p - (p + (L : Int) - 52)).toNat = 52 - L := by omega
  have e2 : (p + (L : Int) - 52 - p).toNat = 0 := by omega
  have e3 : (p + (L : Int) - 52 - -1074).toNat = E := by omega
  rw [e1, e2, e3, cut_even0, Nat.shiftLeft_eq, word_fw s hn]

theorem mul_pow2 (s : Bool) {M E E1 E2 : Nat} (h2 : Nrm M E2) (h1 : E1 ≤ 2045) (hE : E + 1022 = E1 + E2) (hE' : E ≤ 2045) :
    floatBits .mul .f64 (fw false 4503599627370496 E1) (fw s M E2) = some (fw s M E) := by
  show Format.mul double (fw false 4503599627370496 E1) (fw s M E2) = _
  unfold Format.mul
  rw [read_fw false ⟨by omega, by omega, h1⟩, read_fw s h2]
  show some (double.nearest (false ^^ s) (4503599627370496 * M) ((E1 : Int) - 1074 + ((E2 : Int) - 1074))) = _
  rw [Bool.false_xor, Nat.mul_comm, show (4503599627370496 : Nat) = 2 ^ 52 from rfl, show (E1 : Int) - 1074 + ((E2 : Int) - 1074) = (E : Int) - 1074 - (52 : Nat) from by omega, nearest_fw s ⟨h2.lo, h2.hi, hE'⟩ 52]
theorem mul_pow2' (s : Bool) {M E E1 E2 : Nat} (h2 : Nrm M E2) (h1 : E1 ≤ 2045) (hE : E + 1022 = E1 + E2) (hE' : E ≤ 2045) :
    floatBits .mul .f64 (fw s M E2) (fw false 4503599627370496 E1) = some (fw s M E) := by
  show Format.mul double (fw s M E2) (fw false 4503599627370496 E1) = _
  unfold Format.mul
  rw [read_fw false ⟨by omega, by omega, h1⟩, read_fw s h2]
  show some (double.nearest (s ^^ false) (M * 4503599627370496) ((E2 : Int) - 1074 + ((E1 : Int) - 1074))) = _
  rw [Bool.xor_false, show (4503599627370496 : Nat) = 2 ^ 52 from rfl, show (E2 : Int) - 1074 + ((E1 : Int) - 1074) = (E : Int) - 1074 - (52 : Nat) from by omega, nearest_fw s ⟨h2.lo, h2.hi, hE'⟩ 52]

theorem half_word2 (s : Bool) {M E : Nat} (h : Nrm M (E + 1)) : floatBits .quo .f64 (fw s M (E + 1)) 4611686018427387904 = some (fw s M E) := by
  show Format.div double (fw s M (E + 1)) 4611686018427387904 = _
  unfold Format.div
  have e2 : double.read 4611686018427387904 = .number false 4503599627370496 (-51) := by decide
  have hl : M.log2 = 52 := log2_of h.lo h.hi
  rw [read_fw s h, e2]
  simp only [Datum.quotient, dbl_frac]
  have hl2 : Nat.log2 4503599627370496 = 52 := log2_of (by decide) (by decide)
  rw [if_neg (by decide), hl, hl2, Nat.shiftLeft_eq, show 52 + 2 + 52 - 52 = 54 from rfl]
  have e3 : M * 2 ^ 54 / 4503599627370496 = M * 4 := by
    rw [show M * 2 ^ 54 = M * 4 * 4503599627370496 from by omega]; exact Nat.mul_div_cancel _ (by decide)
  have e4 : M * 2 ^ 54 % 4503599627370496 = 0 := by
    rw [show M * 2 ^ 54 = M * 4 * 4503599627370496 from by omega]; exact Nat.mul_mod_left _ _
  rw [e3, e4]
  show some (double.nearest (s ^^ false) (2 * (M * 4) + 0) _) = _
  rw [Bool.xor_false, show 2 * (M * 4) + 0 = M * 2 ^ 3 from by omega, show ((E + 1 : Nat) : Int) - 1074 - -51 - ((54 : Nat) : Int) - 1 = (E : Int) - 1074 - (3 : Nat) from by omega, nearest_fw s ⟨h.lo, h.hi, by have := h.e; omega⟩ 3]

theorem cut_zero (s : Bool) (A K : Nat) : Toward.zero.cut s A K = A / 2 ^ K := by
  unfold Toward.cut
  simp only [Bool.toNat_false, Nat.add_zero, Nat.one_shiftLeft]
  by_cases h : K ≤ A.log2 + 2
  · rw [Nat.min_eq_left h]
  · rw [Nat.min_eq_right (by omega)]
    have h1 : A < 2 ^ (A.log2 + 1) := Nat.lt_log2_self
    have h2 : 2 ^ (A.log2 + 1) ≤ 2 ^ (A.log2 + 2) := Nat.pow_le_pow_right (by omega) (by omega)
    have h3 : 2 ^ (A.log2 + 1) ≤ 2 ^ K := Nat.pow_le_pow_right (by omega) (by omega)
    rw [Nat.div_eq_of_lt (by omega), Nat.div_eq_of_lt (by omega)]

/-- How many times the least number above 0 a rung is. -/
def valN (r : Nat) : Nat := if r < 4503599627370496 then r else (4503599627370496 + r % 4503599627370496) * 2 ^ (r / 4503599627370496 - 1)
/-- The same of a word, with its sign. -/
def sgI (b : Nat) : Int := if b < 9223372036854775808 then (valN b : Int) else -(valN (b - 9223372036854775808) : Int)
/-- The word of a number that is not infinite. -/
def fin (b : Nat) : Prop := b < 18446744073709551616 ∧ b % 9223372036854775808 < 9218868437227405312
theorem valN_top (r : Nat) (h : 4503599627370496 ≤ r) : valN r < 4503599627370496 * 2 ^ (r / 4503599627370496) := by
  unfold valN
  rw [if_neg (by omega)]
  have e : 2 ^ (r / 4503599627370496) = 2 * 2 ^ (r / 4503599627370496 - 1) := by
    have : r / 4503599627370496 = r / 4503599627370496 - 1 + 1 := by omega
    conv => lhs; rw [this, Nat.pow_succ]
    omega
  rw [e, ← Nat.mul_assoc]
  exact Nat.mul_lt_mul_of_pos_right (by omega) (Nat.two_pow_pos _)
theorem valN_low (r : Nat) (h : 4503599627370496 ≤ r) : 4503599627370496 * 2 ^ (r / 4503599627370496 - 1) ≤ valN r := by
  unfold valN
  rw [if_neg (by omega)]
  exact Nat.mul_le_mul_right _ (by omega)
theorem valN_lt {r t : Nat} (h : r < t) : valN r < valN t := by
  by_cases hr : r < 4503599627370496
  · by_cases ht : t < 4503599627370496
    · unfold valN; rw [if_pos hr, if_pos ht]; exact h
    · have h1 := valN_low t (by omega)
      have h2 := Nat.two_pow_pos (t / 4503599627370496 - 1)
      have h3 : 4503599627370496 * 1 ≤ 4503599627370496 * 2 ^ (t / 4503599627370496 - 1) := Nat.mul_le_mul_left _ h2
      have h4 : valN r = r := by unfold valN; rw [if_pos hr]
      omega
  · by_cases hq : r / 4503599627370496 = t / 4503599627370496
    · unfold valN
      rw [if_neg hr, if_neg (by omega), hq]
      exact Nat.mul_lt_mul_of_pos_right (by omega) (Nat.two_pow_pos _)
    · have h1 := valN_top r (by omega)
      have h2 := valN_low t (by omega)
      have h3 : 2 ^ (r / 4503599627370496) ≤ 2 ^ (t / 4503599627370496 - 1) := Nat.pow_le_pow_right (by omega) (by omega)
      have h4 := Nat.mul_le_mul_left 4503599627370496 h3
      omega
theorem valN_lt_iff (r t : Nat) : valN r < valN t ↔ r < t := by
  constructor
  · intro h
    apply Classical.byContradiction
    intro hc
    rcases Nat.lt_or_eq_of_le (Nat.le_of_not_lt hc) with h1 | h1
    · have := valN_lt h1; omega
    · subst h1; omega
  · exact valN_lt
theorem valN_zero : valN 0 = 0 := by decide
theorem read_fin {b : Nat} (h : fin b) : ∃ m k : Nat, double.read b = .number (decide (9223372036854775808 ≤ b)) m ((k : Int) - 1074) ∧ m * 2 ^ k = valN (b % 9223372036854775808) := by
  obtain ⟨h1, h2⟩ := h
  unfold Format.read
  rw [dbl_sw, dbl_bin, dbl_inf, dbl_least]
  have es : (b / 9223372036854775808 % 2 == 1) = decide (9223372036854775808 ≤ b) := by
    by_cases c : 9223372036854775808 ≤ b
    · rw [decide_eq_true c]
      have : b / 9223372036854775808 % 2 = 1 := by omega
      rw [this]; rfl
    · rw [decide_eq_false c]
      have : b / 9223372036854775808 % 2 = 0 := by omega
      rw [this]; rfl
  simp only [es]
  generalize b % 9223372036854775808 = r at *
  by_cases hr : r < 4503599627370496
  · rw [if_pos hr]
    refine ⟨r, 0, by rw [show ((0 : Nat) : Int) - 1074 = -1074 from rfl], ?_⟩
    unfold valN
    rw [if_pos hr]
    omega
  · rw [if_neg hr, if_pos (by omega)]
    refine ⟨4503599627370496 + r % 4503599627370496, r / 4503599627370496 - 1, by congr 1, ?_⟩
    unfold valN
    rw [if_neg hr]
theorem cmp_scale (x y c : Int) (h : 0 < c) : compare (x * c) (y * c) = compare x y := by
  have e1 : x * c < y * c ↔ x < y := Int.mul_lt_mul_right h
  have e2 : x * c = y * c ↔ x = y := ⟨fun e => Int.eq_of_mul_eq_mul_right (by omega) e, fun e => by rw [e]⟩
  show compareOfLessAndEq (x * c) (y * c) = compareOfLessAndEq x y
  unfold compareOfLessAndEq
  simp only [e1, e2]
theorem signed_scale (s : Bool) (m up n : Nat) : signed s m up * (2 ^ n : Nat) = if s then -((m * 2 ^ (up + n) : Nat) : Int) else ((m * 2 ^ (up + n) : Nat) : Int) := by
  unfold signed
  rw [Nat.shiftLeft_eq, Nat.pow_add, ← Nat.mul_assoc]
  cases s
  · simp only [Bool.false_eq_true, if_false]; rw [← Int.natCast_mul]
  · simp only [if_true]; rw [Int.neg_mul, ← Int.natCast_mul]
theorem sgI_of {b : Nat} (h : fin b) : sgI b = if decide (9223372036854775808 ≤ b) then -(valN (b % 9223372036854775808) : Int) else (valN (b % 9223372036854775808) : Int) := by
  unfold sgI
  by_cases c : b < 9223372036854775808
  · rw [if_pos c, if_neg (by simp; omega), Nat.mod_eq_of_lt c]
  · rw [if_neg c, if_pos (by simp; omega)]
    have := h.1
    have e : b % 9223372036854775808 = b - 9223372036854775808 := by omega
    rw [e]
theorem order_fin {a b : Nat} (ha : fin a) (hb : fin b) : double.order a b = some (compare (sgI a) (sgI b)) := by
  obtain ⟨m, k, e1, v1⟩ := read_fin ha
  obtain ⟨n, l, e2, v2⟩ := read_fin hb
  rw [sgI_of ha, sgI_of hb, ← v1, ← v2]
  unfold Format.order
  rw [e1, e2]
  generalize decide (9223372036854775808 ≤ a) = s
  generalize decide (9223372036854775808 ≤ b) = t
  simp only [Datum.order]
  have f1 : ((k : Int) - 1074 - min ((k : Int) - 1074) ((l : Int) - 1074)).toNat = k - min k l := by omega
  have f2 : ((l : Int) - 1074 - min ((k : Int) - 1074) ((l : Int) - 1074)).toNat = l - min k l := by omega
  rw [f1, f2]
  have hp : (0 : Int) < ((2 ^ (min k l) : Nat) : Int) := by have := Nat.two_pow_pos (min k l); omega
  rw [← cmp_scale _ _ _ hp, signed_scale, signed_scale, show k - min k l + min k l = k from by omega, show l - min k l + min k l = l from by omega]
end Go.Proofs.YtgdmbcfjjdngdaaDoor
