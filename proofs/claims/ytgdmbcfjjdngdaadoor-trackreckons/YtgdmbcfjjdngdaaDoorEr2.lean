/- Plain facts on how far a product, a sum, a quotient and a root of floating-point numbers are off; nothing of the program is in here. -/
import Derived.Test.YtgdmbcfjjdngdaaDoorEr
set_option linter.unusedSimpArgs false
namespace Go.Proofs.YtgdmbcfjjdngdaaDoor
open Ieee

/-- The nearest word of any size, its place told by two numbers. -/
theorem near_any (s : Bool) (A a b : Nat) (hA : 0 < A) (h1 : a + 1 ≤ A.log2 + b) (h2 : A.log2 + b ≤ a + 2000) :
    ∃ r, 0 < r ∧ 4503599627370496 ≤ r ∧ r < 9218868437227405312 ∧ double.nearest s A ((b : Int) - a - 1074 + 52) = double.word s r ∧ Nb 1 (valN r * 2 ^ a) (A * 2 ^ (b + 52)) := by
  have l1 : 2 ^ A.log2 ≤ A := Nat.log2_self_le (by omega)
  have l2 : A < 2 ^ (A.log2 + 1) := Nat.lt_log2_self
  generalize A.log2 = L at *
  have hA1 : 2 ^ (52 + (L + 1)) ≤ A * 2 ^ 53 := by
    rw [show 52 + (L + 1) = L + 53 from by omega, Nat.pow_add]
    exact Nat.mul_le_mul_right _ l1
  have hA2 : A * 2 ^ 53 < 2 ^ (53 + (L + 1)) := by
    rw [show 53 + (L + 1) = L + 1 + 53 from by omega, Nat.pow_add]
    exact Nat.mul_lt_mul_of_pos_right l2 (by decide)
  obtain ⟨E, hE⟩ : ∃ E : Nat, E + a = L + b := ⟨L + b - a, by omega⟩
  obtain ⟨r, r0, r1, r2, r3⟩ := near_nb s (A * 2 ^ 53) (L + 1) E ((b : Int) - a - 1074 + 52 - (53 : Nat)) hA1 hA2 (by omega) (by omega)
  rw [nearest_scale] at r2
  have hr : 4503599627370496 ≤ r := by
    apply Classical.byContradiction
    intro hc
    have hv : valN r = r := by unfold valN; rw [if_pos (by omega)]
    have := r3.r
    rw [hv] at this
    have hP := Nat.two_pow_pos (L + 1)
    have hE1 := Nat.two_pow_pos E
    have e1 : 2 ^ (52 + (L + 1)) = 4503599627370496 * 2 ^ (L + 1) := by rw [Nat.pow_add]
    rw [e1] at hA1
    have h3 : 4503599627370496 * 2 ^ (L + 1) * 2 ^ E ≤ A * 2 ^ 53 * 2 ^ E := Nat.mul_le_mul_right _ hA1
    have hE2 : 2 * 1 ≤ 2 ^ E := by
      obtain ⟨E', rfl⟩ : ∃ E', E = E' + 1 := ⟨E - 1, by omega⟩
      rw [Nat.pow_succ]
      have := Nat.two_pow_pos E'
      omega
    have h4 : 4503599627370496 * 2 ^ (L + 1) * 2 ≤ 4503599627370496 * 2 ^ (L + 1) * 2 ^ E := Nat.mul_le_mul_left _ hE2
    have h5 : r * 2 ^ (L + 1) ≤ 4503599627370495 * 2 ^ (L + 1) := Nat.mul_le_mul_right _ (by omega)
    generalize A * 2 ^ 53 * 2 ^ E = x at *
    generalize 4503599627370496 * 2 ^ (L + 1) * 2 ^ E = y at *
    generalize r * 2 ^ (L + 1) = z at *
    generalize 2 ^ (L + 1) = u at *
    omega
  refine ⟨r, r0, hr, r1, r2, ?_⟩
  have hP := Nat.two_pow_pos (L + 1)
  refine Nb.cancel hP ?_
  have := r3.mulr (2 ^ a)
  have e1 : valN r * 2 ^ (L + 1) * 2 ^ a = valN r * 2 ^ a * 2 ^ (L + 1) := Nat.mul_right_comm _ _ _
  have e2 : A * 2 ^ 53 * 2 ^ E * 2 ^ a = A * 2 ^ (b + 52) * 2 ^ (L + 1) := by
    rw [Nat.mul_assoc, Nat.mul_assoc, Nat.mul_assoc, ← Nat.pow_add, ← Nat.pow_add, ← Nat.pow_add, show 53 + (E + a) = b + 52 + (L + 1) from by omega]
  rw [e1, e2] at this
  exact this
/-- A number above 0 that is neither too great nor too small, by how many times the least number it is. -/
structure Pn (x v : Nat) : Prop where
  lo : 4503599627370496 ≤ x
  hi : x < 9218868437227405312
  e : valN x = v
  l : one1 ≤ v * 1208925819614629174706176
  g : v ≤ one1 * 1208925819614629174706176
theorem Pn.read {x v : Nat} (h : Pn x v) : ∃ m k : Nat, double.read x = .number false m ((k : Int) - 1074) ∧ m * 2 ^ k = v ∧ 4503599627370496 ≤ m ∧ m < 9007199254740992 ∧ 941 ≤ k ∧ k ≤ 1102 := by
  have hf : fin x := ⟨by have := h.hi; omega, by have := h.hi; omega⟩
  have hx := h.lo
  have hh := h.hi
  have e := h.e
  unfold valN at e
  rw [if_neg (by omega)] at e
  have rd : double.read x = .number false (4503599627370496 + x % 4503599627370496) (((x / 4503599627370496 - 1 : Nat) : Int) - 1074) := by
    unfold Format.read
    rw [dbl_sw, dbl_bin, dbl_inf, dbl_least]
    simp only []
    rw [show x / 9223372036854775808 % 2 = 0 from by omega, show x % 9223372036854775808 = x from by omega, if_neg (by omega), if_pos hh, show (-1074 : Int) + ((x / 4503599627370496 - 1 : Nat) : Int) = ((x / 4503599627370496 - 1 : Nat) : Int) - 1074 from by omega]
    rfl
  refine ⟨_, _, rd, e, by omega, by omega, ?_, ?_⟩
  · generalize x / 4503599627370496 - 1 = k at *
    have hl := h.l
    have hm : 4503599627370496 + x % 4503599627370496 < 9007199254740992 := by omega
    generalize 4503599627370496 + x % 4503599627370496 = m at *
    apply Classical.byContradiction
    intro hc
    obtain ⟨T, hT⟩ : ∃ T : Nat, T = 1074 := ⟨_, rfl⟩
    rw [one_is', ← hT, ← e] at hl
    obtain ⟨d, hd⟩ : ∃ d, T = k + 133 + 1 + d := ⟨T - (k + 134), by omega⟩
    have e3 : (2 : Nat) ^ T = 2 ^ k * 2 ^ 133 * 2 * 2 ^ d := by rw [hd, Nat.pow_add, Nat.pow_add, Nat.pow_add]
    have hk := Nat.two_pow_pos k
    have hd' := Nat.two_pow_pos d
    have h5 : 2 ^ k * 2 ^ 133 * 2 * 1 ≤ 2 ^ k * 2 ^ 133 * 2 * 2 ^ d := Nat.mul_le_mul_left _ hd'
    have h6 : m * 2 ^ k ≤ 9007199254740992 * 2 ^ k := Nat.mul_le_mul_right _ (by omega)
    rw [← e3] at h5
    rw [show (2 : Nat) ^ 133 = 9007199254740992 * 1208925819614629174706176 from by decide] at h5
    generalize 2 ^ T = y at *
    generalize m * 2 ^ k = z at *
    generalize 2 ^ k = u at *
    omega
  · generalize x / 4503599627370496 - 1 = k at *
    have hg := h.g
    have hm : 4503599627370496 ≤ 4503599627370496 + x % 4503599627370496 := by omega
    generalize 4503599627370496 + x % 4503599627370496 = m at *
    apply Classical.byContradiction
    intro hc
    obtain ⟨T, hT⟩ : ∃ T : Nat, T = 1074 := ⟨_, rfl⟩
    rw [one_is', ← hT, ← e] at hg
    obtain ⟨d, hd⟩ : ∃ d, k = T + 28 + 1 + d := ⟨k - (T + 29), by omega⟩
    have e3 : (2 : Nat) ^ k = 2 ^ T * 2 ^ 28 * 2 * 2 ^ d := by rw [hd, Nat.pow_add, Nat.pow_add, Nat.pow_add]
    have hk := Nat.two_pow_pos T
    have hd' := Nat.two_pow_pos d
    have h5 : 2 ^ T * 2 ^ 28 * 2 * 1 ≤ 2 ^ T * 2 ^ 28 * 2 * 2 ^ d := Nat.mul_le_mul_left _ hd'
    have h6 : 4503599627370496 * 2 ^ k ≤ m * 2 ^ k := Nat.mul_le_mul_right _ hm
    rw [← e3] at h5
    generalize m * 2 ^ k = z at *
    generalize 2 ^ k = u at *
    generalize 2 ^ T = y at *
    omega
end Go.Proofs.YtgdmbcfjjdngdaaDoor
