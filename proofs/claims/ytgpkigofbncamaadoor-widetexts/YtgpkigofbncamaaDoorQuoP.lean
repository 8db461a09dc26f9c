/- Plain facts on dividing a number of two words by one word, a half word of the quotient at a time. -/
import Derived.Test.YtgpkigofbncamaaDoorPlain
namespace Go.Proofs.YtgpkigofbncamaaDoor
open Go.RowKit

/-- What a half of the quotient is guessed with: the divisor y, the word U ahead, the half word c behind; the guess q and what is left r. -/
structure Gs (y U c q r : Int) : Prop where
  sum : q * (y / 4294967296) + r = U
  low : U * 4294967296 + c < (q + 1) * y
  top : q ≤ 4294967297
  nn : 0 ≤ q
  rn : 0 ≤ r
  rt : r < 4294967296
/-- What is fixed. -/
structure Gk (y U c : Int) : Prop where
  y0 : 9223372036854775808 ≤ y
  y1 : y < 18446744073709551616
  u0 : 0 ≤ U
  u1 : U < y
  c0 : 0 ≤ c
  c1 : c < 4294967296

theorem y_split (q y : Int) : q * y = q * (y / 4294967296) * 4294967296 + q * (y % 4294967296) := by
  have h : y = y / 4294967296 * 4294967296 + y % 4294967296 := by omega
  generalize y / 4294967296 = a at *
  generalize y % 4294967296 = b at *
  subst h
  grind
theorem Gk.start {y U c : Int} (h : Gk y U c) : Gs y U c (U / (y / 4294967296)) (U - U / (y / 4294967296) * (y / 4294967296)) := by
  obtain ⟨y0, y1, u0, u1, c0, c1⟩ := h
  have ha : 2147483648 ≤ y / 4294967296 := by omega
  have ha' : y / 4294967296 < 4294967296 := by omega
  have hy : y < (y / 4294967296 + 1) * 4294967296 := by omega
  have e := y_split (U / (y / 4294967296) + 1) y
  have hb : 0 ≤ y % 4294967296 := by omega
  generalize hb' : y % 4294967296 = b at *
  generalize ha'' : y / 4294967296 = a at *
  have h1 := Int.mul_ediv_add_emod U a
  have h2 := Int.emod_nonneg U (show a ≠ 0 by omega)
  have h3 := Int.emod_lt_of_pos U (show 0 < a by omega)
  have h4 : 0 ≤ U / a := Int.ediv_nonneg u0 (by omega)
  have h5 : 0 ≤ (U / a + 1) * b := Int.mul_nonneg (by omega) hb
  have h6 : a * (U / a) = U / a * a := Int.mul_comm _ _
  have h7 : (U / a + 1) * a = U / a * a + a := by rw [Int.add_mul, Int.one_mul]
  rw [h7] at e
  have h8 : U / a ≤ 4294967297 := by
    have : U < 4294967298 * a := by omega
    have := Int.ediv_lt_of_lt_mul (show 0 < a by omega) this
    omega
  refine ⟨?_, ?_, h8, h4, ?_, ?_⟩
  · rw [ha'']; omega
  · omega
  · omega
  · omega

theorem Gs.test {y U c q r : Int} (k : Gk y U c) (h : Gs y U c q r) : (q * y ≤ U * 4294967296 + c) ↔ (q < 4294967296 ∧ q * (y % 4294967296) ≤ 4294967296 * r + c) := by
  obtain ⟨y0, y1, u0, u1, c0, c1⟩ := k
  have e := y_split q y
  have hs := h.sum
  have hn := h.nn
  constructor
  · intro hle
    have : q < 4294967296 := by
      apply Classical.byContradiction
      intro hc
      have : 4294967296 * y ≤ q * y := Int.mul_le_mul_of_nonneg_right (by omega) (by omega)
      omega
    refine ⟨this, ?_⟩
    omega
  · intro ⟨_, h2⟩
    omega
theorem Gs.done {y U c q r : Int} (k : Gk y U c) (h : Gs y U c q r) (h1 : q < 4294967296) (h2 : q * (y % 4294967296) ≤ 4294967296 * r + c) : (U * 4294967296 + c) / y = q ∧ (U * 4294967296 + c) % y = U * 4294967296 + c - q * y := by
  have hle := (h.test k).2 ⟨h1, h2⟩
  have hlt := h.low
  have y0 := k.y0
  rw [Int.add_mul, Int.one_mul] at hlt
  exact (Int.ediv_emod_unique (by omega) (a := U * 4294967296 + c) (r := U * 4294967296 + c - q * y) (q := q)).2 ⟨by rw [Int.mul_comm y q]; omega, by omega, by omega⟩
theorem Gs.more {y U c q r : Int} (k : Gk y U c) (h : Gs y U c q r) (h1 : ¬ (q < 4294967296 ∧ q * (y % 4294967296) ≤ 4294967296 * r + c)) : 1 ≤ q ∧ (q - 1) * (y / 4294967296) + (r + y / 4294967296) = U ∧ U * 4294967296 + c < (q - 1 + 1) * y ∧ q - 1 ≤ 4294967296 := by
  have hlt : ¬ (q * y ≤ U * 4294967296 + c) := fun hc => h1 ((h.test k).1 hc)
  have y0 := k.y0
  have hn := h.nn
  have ht := h.top
  have u0 := k.u0
  have c0 := k.c0
  have hq : 1 ≤ q := by
    apply Classical.byContradiction
    intro hc
    have : q = 0 := by omega
    subst this
    rw [Int.zero_mul] at hlt
    omega
  refine ⟨hq, ?_, ?_, by omega⟩
  · have := h.sum
    rw [Int.sub_mul, Int.one_mul]
    omega
  · rw [Int.sub_add_cancel]; omega
theorem Gs.last {y U c q r : Int} (k : Gk y U c) (h : Gs y U c q r) (h1 : ¬ (q < 4294967296 ∧ q * (y % 4294967296) ≤ 4294967296 * r + c)) (h2 : 4294967296 ≤ r + y / 4294967296) : (U * 4294967296 + c) / y = q - 1 ∧ (U * 4294967296 + c) % y = U * 4294967296 + c - (q - 1) * y := by
  obtain ⟨g1, g2, g3, g4⟩ := h.more k h1
  obtain ⟨y0, y1, u0, u1, c0, c1⟩ := k
  have e := y_split (q - 1) y
  have hb : (q - 1) * (y % 4294967296) ≤ 4294967296 * (y % 4294967296) := Int.mul_le_mul_of_nonneg_right g4 (by omega)
  rw [Int.add_mul, Int.one_mul] at g3
  exact (Int.ediv_emod_unique (by omega) (a := U * 4294967296 + c) (r := U * 4294967296 + c - (q - 1) * y) (q := q - 1)).2 ⟨by rw [Int.mul_comm y (q - 1)]; omega, by omega, by omega⟩
theorem Gs.next {y U c q r : Int} (k : Gk y U c) (h : Gs y U c q r) (h1 : ¬ (q < 4294967296 ∧ q * (y % 4294967296) ≤ 4294967296 * r + c)) (h2 : r + y / 4294967296 < 4294967296) : Gs y U c (q - 1) (r + y / 4294967296) := by
  obtain ⟨g1, g2, g3, g4⟩ := h.more k h1
  have rn := h.rn
  have y0 := k.y0
  exact ⟨g2, g3, by omega, by omega, by omega, h2⟩

theorem two_halves {y U c d : Int} (hy : 0 < y) :
    ((U * 4294967296 + c) * 4294967296 + d) / y = (U * 4294967296 + c) / y * 4294967296 + ((U * 4294967296 + c) % y * 4294967296 + d) / y ∧
    ((U * 4294967296 + c) * 4294967296 + d) % y = ((U * 4294967296 + c) % y * 4294967296 + d) % y := by
  generalize U * 4294967296 + c = N
  have h1 := Int.mul_ediv_add_emod N y
  have h2 := Int.emod_nonneg N (show y ≠ 0 by omega)
  have h3 := Int.emod_lt_of_pos N hy
  have h4 := Int.mul_ediv_add_emod (N % y * 4294967296 + d) y
  have h5 := Int.emod_nonneg (N % y * 4294967296 + d) (show y ≠ 0 by omega)
  have h6 := Int.emod_lt_of_pos (N % y * 4294967296 + d) hy
  refine (Int.ediv_emod_unique hy).2 ⟨?_, h5, h6⟩
  rw [Int.mul_add, ← Int.mul_assoc]
  omega

/-- A quotient of numbers that were both shifted. -/
theorem scaled {v y S : Int} (hS : 0 < S) : v * S / (y * S) = v / y ∧ v * S % (y * S) / S = v % y := by
  constructor
  · exact Int.mul_ediv_mul_of_pos_left _ _ hS
  · rw [show v * S % (y * S) = v % y * S by rw [Int.mul_comm v, Int.mul_comm y, Int.mul_emod_mul_of_pos _ _ hS, Int.mul_comm]]
    exact Int.mul_ediv_cancel _ (by omega)
/-- The number shifted, as words. -/
theorem shifted_words {hi lo S T : Int} (hS : 0 < S) (e : S * T = 18446744073709551616) :
    (hi * 18446744073709551616 + lo) * S = ((hi * S + lo / T) * 4294967296 + lo * S % 18446744073709551616 / 4294967296) * 4294967296 + lo * S % 18446744073709551616 % 4294967296 := by
  have h : lo / T = lo * S / 18446744073709551616 := by
    rw [← e, Int.mul_comm S T]
    exact (Int.mul_ediv_mul_of_pos_left _ _ hS).symm
  rw [h]
  have e1 : (hi * 18446744073709551616 + lo) * S = hi * S * 18446744073709551616 + lo * S := by grind
  rw [e1]
  generalize hi * S = A
  generalize lo * S = B
  omega
end Go.Proofs.YtgpkigofbncamaaDoor
