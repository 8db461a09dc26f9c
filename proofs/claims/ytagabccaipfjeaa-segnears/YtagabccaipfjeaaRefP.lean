/- Plain: the reference's meeting of two segments of one line, and of two that cross, is the meeting from the words. -/
import Derived.Test.YtagabccaipfjeaaSegM
namespace Go.Proofs.Ytagabccaipfjeaa

def rfF (d F : Int) : Fr := if F < 0 then (0, 1) else (F, d)
def rfT (d T : Int) : Fr := if d < T then (1, 1) else (T, d)
/-- Two segments of one line, as the reference reckons. -/
def refLine (d F T : Int) : Mt := if (rfT d T).1 * (rfF d F).2 < (rfF d F).1 * (rfT d T).2 then mt0 else ((if (rfF d F).1 * (rfT d T).2 = (rfT d T).1 * (rfF d F).2 then 1 else 2), false, lowF (rfF d F).1 (rfF d F).2, lowF (rfT d T).1 (rfT d T).2)

theorem rat_lt {d N p q x y : Int} (hd : 0 < d) (hN : 0 < N) (h1 : x * d = p * N) (h2 : y * d = q * N) : x < y ↔ p < q := by
  constructor
  · intro h
    have := Int.mul_lt_mul_of_pos_right h hd
    rw [h1, h2] at this
    exact Int.lt_of_mul_lt_mul_right this (by omega)
  · intro h
    have := Int.mul_lt_mul_of_pos_right h hN
    rw [← h1, ← h2] at this
    exact Int.lt_of_mul_lt_mul_right this (by omega)
theorem rf_from {d N F lo x : Int} (hd : 0 < d) (hN : 0 < N) (h : x * d = F * N) (hl : lo = max 0 x) : lo * (rfF d F).2 = (rfF d F).1 * N ∧ 0 < (rfF d F).2 := by
  have z := rat_lt hd hN h (show (0 : Int) * d = 0 * N by omega)
  unfold rfF
  by_cases k : F < 0
  · rw [if_pos k]; have : lo = 0 := by omega
    subst this; simp
  · rw [if_neg k]; have : lo = x := by omega
    subst this; exact ⟨h, hd⟩
theorem rf_to {d N T hi y : Int} (hd : 0 < d) (hN : 0 < N) (h : y * d = T * N) (hh : hi = min N y) : hi * (rfT d T).2 = (rfT d T).1 * N ∧ 0 < (rfT d T).2 := by
  have z := rat_lt hd hN (show N * d = d * N by rw [Int.mul_comm]) h
  unfold rfT
  by_cases k : d < T
  · rw [if_pos k]; have : hi = N := by omega
    subst this; simp
  · rw [if_neg k]; have : hi = y := by omega
    subst this; exact ⟨h, hd⟩
theorem line_ref {d N p q x y : Int} (hd : 0 < d) (hN : 0 < N) (h1 : x * d = p * N) (h2 : y * d = q * N) : refLine d (min p q) (max p q) = lineM N x y := by
  have z := rat_lt hd hN h1 h2
  have z' := rat_lt hd hN h2 h1
  have m1 : min x y * d = min p q * N := by
    by_cases k : x < y
    · rw [show min x y = x by omega, show min p q = p by have := z.mp k; omega]; exact h1
    · by_cases k' : y < x
      · rw [show min x y = y by omega, show min p q = q by have := z'.mp k'; omega]; exact h2
      · have e : x = y := by omega
        have e' : p = q := by omega
        rw [e, e', show min y y = y by omega, show min q q = q by omega]; exact h2
  have m2 : max x y * d = max p q * N := by
    by_cases k : x < y
    · rw [show max x y = y by omega, show max p q = q by have := z.mp k; omega]; exact h2
    · by_cases k' : y < x
      · rw [show max x y = x by omega, show max p q = p by have := z'.mp k'; omega]; exact h1
      · have e : x = y := by omega
        have e' : p = q := by omega
        rw [e, e', show max y y = y by omega, show max q q = q by omega]; exact h2
  obtain ⟨f1, f2⟩ := rf_from hd hN m1 rfl
  obtain ⟨t1, t2⟩ := rf_to hd hN m2 rfl
  unfold refLine lineM
  generalize max 0 (min x y) = lo at *
  generalize min N (max x y) = hi at *
  generalize (rfF d (min p q)).1 = a at *
  generalize (rfF d (min p q)).2 = b at *
  generalize (rfT d (max p q)).1 = c at *
  generalize (rfT d (max p q)).2 = e at *
  have hbe : 0 < b * e := Int.mul_pos f2 t2
  have q1 : lo * (b * e) = a * e * N := by have : lo * (b * e) = lo * b * e := by grind
                                           rw [this, f1]; grind
  have q2 : hi * (b * e) = c * b * N := by have : hi * (b * e) = hi * e * b := by grind
                                           rw [this, t1]; grind
  have w1 := rat_lt hbe hN q2 q1
  have w2 := rat_lt hbe hN q1 q2
  have l1 : lowF a b = lowF lo N := lowF_eq (by omega) (by omega) f1.symm
  have l2 : lowF c e = lowF hi N := lowF_eq (by omega) (by omega) t1.symm
  rw [l1, l2]
  by_cases k : hi < lo
  · rw [if_pos (w1.mp k), if_pos k]
  · rw [if_neg (fun g => k (w1.mpr g)), if_neg k]
    by_cases k2 : lo = hi
    · rw [if_pos k2, if_pos (by have a1 : ¬ (c * b < a * e) := fun g => k (w1.mpr g); have a2 : ¬ (a * e < c * b) := fun g => by have := w2.mpr g; omega
                                omega), k2]
      rfl
    · rw [if_neg k2, if_neg (fun g => k2 (by have a1 : ¬ (lo < hi) := fun g2 => by have := w2.mp g2; omega
                                             omega))]

def sgN (n d : Int) : Int := if d < 0 then -n else n
/-- Two segments of two lines, as the reference reckons. -/
def refCross (t s den : Int) : Mt := if den = 0 then mt0 else if sgN t den < 0 ∨ sgN den den < sgN t den ∨ sgN s den < 0 ∨ sgN den den < sgN s den then mt0 else (1, decide ((0 < sgN t den ∧ sgN t den < sgN den den) ∧ (0 < sgN s den ∧ sgN s den < sgN den den)), lowF (sgN t den) (sgN den den), lowF (sgN t den) (sgN den den))
theorem cross_ref {A B C D : Int} (h : A - B = D - C) : refCross A (-C) (A - B) = crossM A B C D := by
  unfold refCross crossM
  by_cases h0 : A - B = 0
  · rw [if_pos h0, if_neg (by omega)]
  · rw [if_neg h0]
    have hl : lowF (sgN A (A - B)) (sgN (A - B) (A - B)) = lowF A (A - B) := by
      unfold sgN
      split
      · refine lowF_eq (by omega) h0 (by grind)
      · rfl
    rw [hl]
    have e1 : (sgN A (A - B) < 0 ∨ sgN (A - B) (A - B) < sgN A (A - B) ∨ sgN (-C) (A - B) < 0 ∨ sgN (A - B) (A - B) < sgN (-C) (A - B)) ↔ ¬ (A ≠ B ∧ oppB A B = true ∧ oppB C D = true) := by
      rw [oppB_iff, oppB_iff]
      unfold sgN opp
      split <;> omega
    have e2 : A ≠ B ∧ oppB A B = true ∧ oppB C D = true → (((0 < sgN A (A - B) ∧ sgN A (A - B) < sgN (A - B) (A - B)) ∧ (0 < sgN (-C) (A - B) ∧ sgN (-C) (A - B) < sgN (A - B) (A - B))) ↔ (A ≠ 0 ∧ B ≠ 0 ∧ C ≠ 0 ∧ D ≠ 0)) := by
      rw [oppB_iff, oppB_iff]
      unfold sgN opp
      intro q
      split <;> omega
    by_cases k : A ≠ B ∧ oppB A B = true ∧ oppB C D = true
    · rw [if_neg (fun g => (e1.mp g) k), if_pos k]
      simp only [decide_eq_decide.mpr (e2 k)]
    · rw [if_pos (e1.mpr k), if_neg k]
end Go.Proofs.Ytagabccaipfjeaa
