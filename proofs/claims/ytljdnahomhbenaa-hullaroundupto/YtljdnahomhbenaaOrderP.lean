/- Plain facts on the order of directions. -/
import Derived.Test.YtljdnahomhbenaaTurnsP
namespace Go.Proofs.Ytljdnahomhbenaa
section
open Go.RowKit Go.Sort

theorem around_back (ox oy ax ay bx by_ : Int) : aroundI ox oy bx by_ ax ay = -aroundI ox oy ax ay bx by_ := by
  have h := cmpI_neg (halfI ox oy ax ay) (halfI ox oy bx by_)
  have t := turn_back ox oy ax ay bx by_
  unfold aroundI
  rw [t]
  split <;> split <;> omega
theorem around_self (ox oy ax ay : Int) : aroundI ox oy ax ay ax ay = 0 := by
  unfold aroundI
  rw [turn_aa, if_pos (by rw [cmpI_zero])]; rfl
theorem around_bd (ox oy ax ay bx by_ : Int) : -1 ≤ aroundI ox oy ax ay bx by_ ∧ aroundI ox oy ax ay bx by_ ≤ 1 := by
  have h := cmpI_bd (halfI ox oy ax ay) (halfI ox oy bx by_)
  have t := turnI_bd ox oy ax ay bx by_
  unfold aroundI
  split <;> omega

theorem nonneg_of_mul {v c : Int} (hv : 0 < v) (h : 0 ≤ v * c) : 0 ≤ c := by
  rcases Int.lt_or_le c 0 with k | k
  · have := Int.mul_neg_of_pos_of_neg hv k
    omega
  · exact k
/-- Three directions of the upper half. -/
theorem cross_up {ux uy vx vy wx wy : Int} (hu : 0 < uy ∨ (uy = 0 ∧ 0 < ux)) (hv : 0 < vy ∨ (vy = 0 ∧ 0 < vx)) (hw : 0 < wy ∨ (wy = 0 ∧ 0 < wx))
    (h1 : 0 ≤ ux * vy - uy * vx) (h2 : 0 ≤ vx * wy - vy * wx) : 0 ≤ ux * wy - uy * wx := by
  rcases hv with hv | ⟨rfl, hv⟩
  · apply nonneg_of_mul hv
    have e : vy * (ux * wy - uy * wx) = uy * (vx * wy - vy * wx) + wy * (ux * vy - uy * vx) := by grind
    rw [e]
    have a := Int.mul_nonneg (show 0 ≤ uy by omega) h2
    have b := Int.mul_nonneg (show 0 ≤ wy by omega) h1
    omega
  · rcases hu with hu | ⟨rfl, hu⟩
    · have := Int.mul_pos hu hv
      simp only [Int.mul_zero] at h1
      omega
    · have := Int.mul_nonneg (show 0 ≤ ux by omega) (show 0 ≤ wy by omega)
      simp only [Int.zero_mul]
      omega
theorem cross_down {ux uy vx vy wx wy : Int} (hu : uy < 0 ∨ (uy = 0 ∧ ux < 0)) (hv : vy < 0 ∨ (vy = 0 ∧ vx < 0)) (hw : wy < 0 ∨ (wy = 0 ∧ wx < 0))
    (h1 : 0 ≤ ux * vy - uy * vx) (h2 : 0 ≤ vx * wy - vy * wx) : 0 ≤ ux * wy - uy * wx := by
  have h := cross_up (ux := -ux) (uy := -uy) (vx := -vx) (vy := -vy) (wx := -wx) (wy := -wy) (by omega) (by omega) (by omega)
    (by simp only [Int.neg_mul_neg]; exact h1) (by simp only [Int.neg_mul_neg]; exact h2)
  simpa only [Int.neg_mul_neg] using h

theorem half_cases (ox oy px py : Int) : (halfI ox oy px py = 0 ∧ px - ox = 0 ∧ py - oy = 0) ∨ (halfI ox oy px py = 1 ∧ (0 < py - oy ∨ (py - oy = 0 ∧ 0 < px - ox))) ∨ (halfI ox oy px py = 2 ∧ (py - oy < 0 ∨ (py - oy = 0 ∧ px - ox < 0))) := by
  unfold halfI
  split
  · left; omega
  · split
    · right; left; omega
    · right; right; omega
theorem turn_le (ox oy ax ay bx by_ : Int) : -turnI ox oy ax ay bx by_ ≤ 0 ↔ 0 ≤ (ax - ox) * (by_ - oy) - (ay - oy) * (bx - ox) := by
  unfold turnI cmpI
  split <;> (try split) <;> omega
theorem around_tri (ox oy ax ay bx by_ px py : Int) (h1 : aroundI ox oy ax ay bx by_ ≤ 0) (h2 : aroundI ox oy bx by_ px py ≤ 0) : aroundI ox oy ax ay px py ≤ 0 := by
  have ca := half_cases ox oy ax ay
  have cb := half_cases ox oy bx by_
  have cp := half_cases ox oy px py
  unfold aroundI at *
  generalize halfI ox oy ax ay = A at *
  generalize halfI ox oy bx by_ = B at *
  generalize halfI ox oy px py = P at *
  simp only [cmpI_zero] at h1 h2 ⊢
  have t1 := turn_le ox oy ax ay bx by_
  have t2 := turn_le ox oy bx by_ px py
  have t3 := turn_le ox oy ax ay px py
  generalize turnI ox oy ax ay bx by_ = T1 at *
  generalize turnI ox oy bx by_ px py = T2 at *
  generalize turnI ox oy ax ay px py = T3 at *
  by_cases hAB : A = B
  · by_cases hBP : B = P
    · subst hAB hBP
      rw [if_pos rfl] at *
      rw [t1] at h1
      rw [t2] at h2
      rw [t3]
      generalize ax - ox = ux at *
      generalize ay - oy = uy at *
      generalize bx - ox = vx at *
      generalize by_ - oy = vy at *
      generalize px - ox = wx at *
      generalize py - oy = wy at *
      rcases ca with ⟨rfl, rfl, rfl⟩ | ⟨rfl, ca⟩ | ⟨rfl, ca⟩
      · simp
      · rcases cb with ⟨e, _, _⟩ | ⟨_, cb⟩ | ⟨e, _⟩
        · omega
        · rcases cp with ⟨e, _, _⟩ | ⟨_, cp⟩ | ⟨e, _⟩
          · omega
          · exact cross_up ca cb cp h1 h2
          · omega
        · omega
      · rcases cb with ⟨e, _, _⟩ | ⟨e, _⟩ | ⟨_, cb⟩
        · omega
        · omega
        · rcases cp with ⟨e, _, _⟩ | ⟨e, _⟩ | ⟨_, cp⟩
          · omega
          · omega
          · exact cross_down ca cb cp h1 h2
    · subst hAB
      rw [if_neg hBP] at h2 ⊢
      exact h2
  · rw [if_neg hAB] at h1
    by_cases hBP : B = P
    · subst hBP
      rw [if_neg hAB]
      exact h1
    · rw [if_neg hBP] at h2
      have : cmpI A P ≤ 0 ∧ A ≠ P := by
        unfold cmpI at *
        split at h1 <;> split at h2 <;> (try split at h1) <;> (try split at h2) <;> (try split) <;> (try split) <;> omega
      rw [if_neg this.2]
      exact this.1
theorem around_right (ox oy ax ay : Int) (h : ¬ (ax = ox ∧ ay = oy)) : aroundI ox oy (ox + 1) oy ax ay ≤ 0 ∧ ((aroundI ox oy (ox + 1) oy ax ay = 0) ↔ (ay = oy ∧ ox < ax)) := by
  have h1 : halfI ox oy (ox + 1) oy = 1 := by
    unfold halfI; rw [if_neg (by omega), if_pos (by omega)]
  unfold aroundI
  rw [h1]
  have t : turnI ox oy (ox + 1) oy ax ay = cmpI (ay - oy) 0 := by
    unfold turnI
    rw [show ox + 1 - ox = 1 by omega, show oy - oy = 0 by omega, Int.one_mul, Int.zero_mul]
  rw [t]
  have ha := half_cases ox oy ax ay
  generalize halfI ox oy ax ay = A at *
  rcases ha with ⟨rfl, _⟩ | ⟨rfl, _⟩ | ⟨rfl, _⟩ <;> unfold cmpI <;> simp <;> (try split) <;> (try split) <;> omega
end
end Go.Proofs.Ytljdnahomhbenaa
