/- Plain: fractions and scaled numbers tell alike how far points are off a segment. -/
import Derived.Test.YtljdnahomhbenaaTh3J
namespace Go.Proofs.Ytljdnahomhbenaa
section
open Go.RowKit Go.Sort

/-- The reference's fraction. -/
def refF (a b p : Int × Int) : Int × Int := if a = b ∨ al a b p ≤ 0 then (d2 a p, 1) else if al b a p ≤ 0 then (d2 b p, 1) else (cr a b p * cr a b p, d2 a b)
theorem sq_nonneg (x : Int) : 0 ≤ x * x := by
  rcases Int.le_total 0 x with h | h
  · exact Int.mul_nonneg h h
  · exact Int.mul_nonneg_of_nonpos_of_nonpos h h
theorem sq_zero {x : Int} (h : x * x = 0) : x = 0 := by
  rcases Int.mul_eq_zero.mp h with h | h <;> exact h
theorem d2_nonneg (a b : Int × Int) : 0 ≤ d2 a b := by
  have h1 := sq_nonneg (b.1 - a.1)
  have h2 := sq_nonneg (b.2 - a.2)
  unfold d2; omega
theorem d2_zero {a b : Int × Int} (h : d2 a b = 0) : a = b := by
  have h1 := sq_nonneg (b.1 - a.1)
  have h2 := sq_nonneg (b.2 - a.2)
  unfold d2 at h
  have e1 := sq_zero (x := b.1 - a.1) (by omega)
  have e2 := sq_zero (x := b.2 - a.2) (by omega)
  exact Prod.ext (by omega) (by omega)
theorem scl_eq {a b : Int × Int} (h : a ≠ b) : scl a b = d2 a b := by
  have h0 := d2_nonneg a b
  have h1 : d2 a b ≠ 0 := fun e => h (d2_zero e)
  unfold scl
  split <;> omega
theorem scl_pos (a b : Int × Int) : 0 < scl a b := by unfold scl; split <;> omega
theorem al_rev (a b p : Int × Int) : al b a p = d2 a b - al a b p := by unfold al d2; grind
theorem al_same (a p : Int × Int) : al a a p = 0 := by unfold al; grind
theorem refF_pos (a b p : Int × Int) : 0 < (refF a b p).2 := by
  unfold refF
  split
  · simp
  · split
    · simp
    · rename_i h _
      have : a ≠ b := fun e => h (Or.inl e)
      have h1 := d2_nonneg a b
      have h2 : d2 a b ≠ 0 := fun e => this (d2_zero e)
      simp only
      omega
/-- The fraction times the scale is the scaled number. -/
theorem ref_scale (a b p : Int × Int) : offI a b p * (refF a b p).2 = (refF a b p).1 * scl a b := by
  unfold offI refF
  by_cases hab : a = b
  · subst hab
    rw [if_pos (by rw [al_same]; omega), if_pos (Or.inl rfl)]
    simp
  · have hs := scl_eq hab
    by_cases h1 : al a b p ≤ 0
    · rw [if_pos h1, if_pos (Or.inr h1)]
      simp
    · have h1' : ¬ (a = b ∨ al a b p ≤ 0) := fun h => Or.elim h hab h1
      have hr := al_rev a b p
      rw [hs]
      simp only [if_neg h1, if_neg h1']
      by_cases h2 : d2 a b ≤ al a b p
      · have h3 : al b a p ≤ 0 := by omega
        simp only [if_pos h2, if_pos h3, Int.mul_one]
      · have h3 : ¬ al b a p ≤ 0 := by omega
        simp only [if_neg h2, if_neg h3]
/-- Two fractions of one segment, held against one another. -/
theorem cmp_scale (a b p q : Int × Int) : (refF a b q).1 * (refF a b p).2 < (refF a b p).1 * (refF a b q).2 ↔ offI a b q < offI a b p := by
  have e1 := ref_scale a b p
  have e2 := ref_scale a b q
  have d1 := refF_pos a b p
  have d2 := refF_pos a b q
  have s := scl_pos a b
  generalize (refF a b p).1 = n1 at *
  generalize (refF a b p).2 = m1 at *
  generalize (refF a b q).1 = n2 at *
  generalize (refF a b q).2 = m2 at *
  generalize offI a b p = o1 at *
  generalize offI a b q = o2 at *
  generalize scl a b = S at *
  have hm : 0 < m1 * m2 := Int.mul_pos d1 d2
  have k : (n1 * m2 - n2 * m1) * S = (o1 - o2) * (m1 * m2) := by
    have a1 : n1 * S * m2 = o1 * m1 * m2 := by rw [e1]
    have a2 : n2 * S * m1 = o2 * m2 * m1 := by rw [e2]
    grind
  constructor
  · intro h
    apply Int.not_le.mp
    intro hle
    have x := Int.mul_pos (show 0 < n1 * m2 - n2 * m1 by omega) s
    have y := Int.mul_nonpos_of_nonpos_of_nonneg (show o1 - o2 ≤ 0 by omega) (Int.le_of_lt hm)
    omega
  · intro h
    apply Int.not_le.mp
    intro hle
    have x := Int.mul_nonpos_of_nonpos_of_nonneg (show n1 * m2 - n2 * m1 ≤ 0 by omega) (Int.le_of_lt s)
    have y := Int.mul_pos (show 0 < o1 - o2 by omega) hm
    omega
/-- At most so far off. -/
theorem within_scale (a b p : Int × Int) (T : Int) : (refF a b p).1 ≤ T * (refF a b p).2 ↔ offI a b p ≤ T * scl a b := by
  have e1 := ref_scale a b p
  have d1 := refF_pos a b p
  have s := scl_pos a b
  generalize (refF a b p).1 = n1 at *
  generalize (refF a b p).2 = m1 at *
  generalize offI a b p = o1 at *
  generalize scl a b = S at *
  have k : (n1 - T * m1) * S = (o1 - T * S) * m1 := by grind
  constructor
  · intro h
    apply Int.not_lt.mp
    intro hlt
    have x := Int.mul_nonpos_of_nonpos_of_nonneg (show n1 - T * m1 ≤ 0 by omega) (Int.le_of_lt s)
    have y := Int.mul_pos (show 0 < o1 - T * S by omega) d1
    omega
  · intro h
    apply Int.not_lt.mp
    intro hlt
    have x := Int.mul_pos (show 0 < n1 - T * m1 by omega) s
    have y := Int.mul_nonpos_of_nonpos_of_nonneg (show o1 - T * S ≤ 0 by omega) (Int.le_of_lt d1)
    omega
end
end Go.Proofs.Ytljdnahomhbenaa
