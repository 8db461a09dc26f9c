/- Plain: the reference's foot and its distance, in fractions. -/
import Derived.Test.YtagabccaipfjeaaSegS
namespace Go.Proofs.Ytagabccaipfjeaa

/-- Where along a segment the nearest point is, as the reference has it. -/
def rft (p a b : P2) : Fr := if a = b then (0, 1) else if dtt a b p < 0 then (0, 1) else if dd a b < dtt a b p then (1, 1) else (dtt a b p, dd a b)
theorem rft_pos (p a b : P2) : 0 < (rft p a b).2 := by
  unfold rft
  split
  · decide
  · next h =>
    split
    · decide
    · split
      · decide
      · exact dd_pos h
theorem rft_low (p a b : P2) : lowF (rft p a b).1 (rft p a b).2 = footF p a b := by
  unfold rft footF
  by_cases h : a = b
  · rw [if_pos h, if_pos h]; rfl
  · rw [if_neg h, if_neg h]
    have hN := dd_pos h
    unfold clampT
    by_cases h1 : dtt a b p < 0
    · rw [if_pos h1]
      exact lowF_eq (by decide) (by omega) (by rw [show min (max (dtt a b p) 0) (dd a b) = 0 by omega]; simp)
    · rw [if_neg h1]
      by_cases h2 : dd a b < dtt a b p
      · rw [if_pos h2]
        exact lowF_eq (by decide) (by omega) (by rw [show min (max (dtt a b p) 0) (dd a b) = dd a b by omega]; simp)
      · rw [if_neg h2, show min (max (dtt a b p) 0) (dd a b) = dtt a b p by omega]
/-- The square of the distance from that point, as a fraction. -/
def rdX (p a b : P2) : Int := (p.1 - a.1) * (rft p a b).2 - (rft p a b).1 * (b.1 - a.1)
def rdY (p a b : P2) : Int := (p.2 - a.2) * (rft p a b).2 - (rft p a b).1 * (b.2 - a.2)
def rdN (p a b : P2) : Int := rdX p a b * rdX p a b * ((rft p a b).2 * (rft p a b).2) + rdY p a b * rdY p a b * ((rft p a b).2 * (rft p a b).2)
def rdD (p a b : P2) : Int := (rft p a b).2 * (rft p a b).2 * ((rft p a b).2 * (rft p a b).2)
theorem rdD_pos (p a b : P2) : 0 < rdD p a b := by
  have := rft_pos p a b
  exact Int.mul_pos (Int.mul_pos this this) (Int.mul_pos this this)
theorem rd_gen {p a b : P2} {T D s : Int} (hT : dtt a b p = T) (hD : dd a b = D) (h : 0 < D) (e : rft p a b = (T, D)) : rdN p a b ≤ s * rdD p a b ↔ crs a b p * crs a b p ≤ s * D := by
  have e1 : rdX p a b * rdX p a b + rdY p a b * rdY p a b = D * (crs a b p * crs a b p) := by
    unfold rdX rdY
    rw [e, ← hT, ← hD]
    unfold dtt dd crs
    grind
  have e2 : rdN p a b = (crs a b p * crs a b p) * (D * D * D) := by
    have : rdN p a b = (rdX p a b * rdX p a b + rdY p a b * rdY p a b) * (D * D) := by
      unfold rdN
      rw [e]
      generalize rdX p a b * rdX p a b = x
      generalize rdY p a b * rdY p a b = y
      show x * (D * D) + y * (D * D) = (x + y) * (D * D)
      grind
    rw [this, e1]
    generalize crs a b p * crs a b p = c
    grind
  have e3 : s * rdD p a b = (s * D) * (D * D * D) := by
    unfold rdD
    rw [e]
    show s * (D * D * (D * D)) = (s * D) * (D * D * D)
    grind
  have hp : 0 < D * D * D := Int.mul_pos (Int.mul_pos h h) h
  rw [e2, e3]
  exact ⟨fun q => Int.le_of_mul_le_mul_right q hp, fun q => Int.mul_le_mul_of_nonneg_right q (by omega)⟩
theorem rd_iff (p a b : P2) (s : Int) : rdN p a b ≤ s * rdD p a b ↔ (dtt a b p ≤ 0 ∧ dd p a ≤ s) ∨ (0 < dtt a b p ∧ dd a b ≤ dtt a b p ∧ dd p b ≤ s) ∨ (0 < dtt a b p ∧ dtt a b p < dd a b ∧ crs a b p * crs a b p ≤ s * dd a b) := by
  have py := pyth p a b
  have od := dd_other p a b
  by_cases h : a = b
  · have e : rft p a b = (0, 1) := by unfold rft; rw [if_pos h]
    have z : dtt a b p = 0 := by rw [h]; unfold dtt; grind
    have n : rdN p a b = dd p a := by unfold rdN rdX rdY; rw [e]; unfold dd; grind
    have d : rdD p a b = 1 := by unfold rdD; rw [e]; rfl
    rw [n, d, z]
    omega
  · have hN := dd_pos h
    by_cases h1 : dtt a b p < 0
    · have e : rft p a b = (0, 1) := by unfold rft; rw [if_neg h, if_pos h1]
      have n : rdN p a b = dd p a := by unfold rdN rdX rdY; rw [e]; unfold dd; grind
      have d : rdD p a b = 1 := by unfold rdD; rw [e]; rfl
      rw [n, d]
      omega
    · by_cases h2 : dd a b < dtt a b p
      · have e : rft p a b = (1, 1) := by unfold rft; rw [if_neg h, if_neg h1, if_pos h2]
        have n : rdN p a b = dd p b := by unfold rdN rdX rdY; rw [e]; unfold dd; grind
        have d : rdD p a b = 1 := by unfold rdD; rw [e]; rfl
        rw [n, d]
        omega
      · have e : rft p a b = (dtt a b p, dd a b) := by unfold rft; rw [if_neg h, if_neg h1, if_neg h2]
        rw [rd_gen rfl rfl hN e]
        generalize crs a b p * crs a b p = c at *
        by_cases k1 : dtt a b p = 0
        · rw [k1] at py od ⊢
          have q : c ≤ s * dd a b ↔ dd p a ≤ s := by
            have : c = dd p a * dd a b := by rw [Int.mul_comm]; omega
            rw [this]
            exact ⟨fun g => Int.le_of_mul_le_mul_right g hN, fun g => Int.mul_le_mul_of_nonneg_right g (by omega)⟩
          rw [q]
          omega
        · by_cases k2 : dtt a b p = dd a b
          · have q : c ≤ s * dd a b ↔ dd p b ≤ s := by
              have : c = dd p b * dd a b := by
                rw [od, k2]
                rw [k2] at py
                have : (dd p a - 2 * dd a b + dd a b) * dd a b = dd a b * dd p a - dd a b * dd a b := by grind
                omega
              rw [this]
              exact ⟨fun g => Int.le_of_mul_le_mul_right g hN, fun g => Int.mul_le_mul_of_nonneg_right g (by omega)⟩
            rw [q]
            omega
          · omega
/-- The reference's answer is the program's. -/
theorem near_rd {p a b : P2} {r : Int} (lp : lat p) (la : lat a) (h0 : 0 ≤ r) : decide (rdN p a b ≤ r * r * rdD p a b) = nearB p a b r := by
  rw [Bool.eq_iff_iff, decide_eq_true_iff]
  by_cases h : r ≤ farI
  · have e : sqR r = r * r := by unfold sqR; rw [show min r farI = r by omega]
    rw [rd_iff, near_iff, e]
  · have f : sqR r = sqR farI := by unfold sqR; rw [show min r farI = farI by omega, show min farI farI = farI by omega]
    have t : nearB p a b farI = true := near_far lp la
    have t' : nearB p a b r = true := by rw [near_iff, f, ← near_iff]; exact t
    have u : rdN p a b ≤ sqR farI * rdD p a b := by rw [rd_iff, ← near_iff]; exact t
    refine ⟨fun _ => t', fun _ => Int.le_trans u ?_⟩
    refine Int.mul_le_mul_of_nonneg_right ?_ (by have := rdD_pos p a b; omega)
    have hf : 0 ≤ farI := by unfold farI; decide
    unfold sqR
    rw [show min farI farI = farI by omega]
    exact Int.mul_le_mul (by omega) (by omega) hf h0
end Go.Proofs.Ytagabccaipfjeaa
