/- Plain facts on turns: a turn told from another point on, backwards, shifted; what is on a segment; products of the lattice. -/
import Derived.Test.YtljdnahomhbenaaBox1J
namespace Go.Proofs.Ytljdnahomhbenaa
section
open Go.RowKit Go.Sort

theorem cmpI_sub {m n m' n' : Int} (h : m - n = m' - n') : cmpI m n = cmpI m' n' := by
  unfold cmpI; split <;> split <;> (try split) <;> (try split) <;> omega
theorem turn_cyc (ox oy ax ay bx by_ : Int) : turnI ax ay bx by_ ox oy = turnI ox oy ax ay bx by_ := by
  unfold turnI; apply cmpI_sub; grind
theorem turn_back (ox oy ax ay bx by_ : Int) : turnI ox oy bx by_ ax ay = -turnI ox oy ax ay bx by_ := by
  unfold turnI
  rw [← cmpI_neg]
  apply cmpI_sub; grind
theorem turn_oo (ox oy ax ay : Int) : turnI ox oy ox oy ax ay = 0 := by
  unfold turnI; rw [cmpI_zero]; grind
theorem turn_aa (ox oy ax ay : Int) : turnI ox oy ax ay ax ay = 0 := by
  unfold turnI; rw [cmpI_zero]; grind
theorem turn_aba (ax ay bx by_ : Int) : turnI ax ay bx by_ ax ay = 0 := by
  unfold turnI; rw [cmpI_zero]; grind
theorem on_a (ax ay bx by_ : Int) : onB ax ay ax ay bx by_ = true := by
  unfold onB; rw [turn_aba]
  unfold hasB rightB minI maxI; grind
theorem on_b (ax ay bx by_ : Int) : onB bx by_ ax ay bx by_ = true := by
  unfold onB; rw [turn_aa]
  unfold hasB rightB minI maxI; grind

theorem prod_bd' {x y M : Int} (h1 : -M ≤ x) (h2 : x ≤ M) (h3 : -M ≤ y) (h4 : y ≤ M) : -(M * M) ≤ x * y ∧ x * y ≤ M * M := by
  have a : x.natAbs ≤ M.toNat := by omega
  have b : y.natAbs ≤ M.toNat := by omega
  have c : (x * y).natAbs ≤ M.toNat * M.toNat := by rw [Int.natAbs_mul]; exact Nat.mul_le_mul a b
  have d : ((M.toNat * M.toNat : Nat) : Int) = M * M := by rw [Int.natCast_mul, Int.toNat_of_nonneg (by omega)]
  omega
theorem lat_bd {v : Int} (h : latB v = true) : -1073741823 ≤ v ∧ v ≤ 1073741823 := by unfold latB at h; simpa using h
theorem cross_fits {ox oy ax ay bx by_ : Int} (h1 : latB ox = true) (h2 : latB oy = true) (h3 : latB ax = true) (h4 : latB ay = true) (h5 : latB bx = true) (h6 : latB by_ = true) :
    wrap64 ((ax - ox) * (by_ - oy) - (ay - oy) * (bx - ox)) = (ax - ox) * (by_ - oy) - (ay - oy) * (bx - ox) := by
  have := lat_bd h1; have := lat_bd h2; have := lat_bd h3; have := lat_bd h4; have := lat_bd h5; have := lat_bd h6
  have p := prod_bd' (x := ax - ox) (y := by_ - oy) (M := 2147483646) (by omega) (by omega) (by omega) (by omega)
  have q := prod_bd' (x := ay - oy) (y := bx - ox) (M := 2147483646) (by omega) (by omega) (by omega) (by omega)
  unfold wrap64; omega
theorem cross_sign (ox oy ax ay bx by_ : Int) : ((0 < (ax - ox) * (by_ - oy) - (ay - oy) * (bx - ox)) ↔ 0 < turnI ox oy ax ay bx by_) ∧ (((ax - ox) * (by_ - oy) - (ay - oy) * (bx - ox) < 0) ↔ turnI ox oy ax ay bx by_ < 0) := by
  unfold turnI cmpI
  constructor <;> split <;> (try split) <;> omega
theorem sq_nonneg (x : Int) : 0 ≤ x * x := by
  rcases Int.le_total 0 x with h | h
  · exact Int.mul_nonneg h h
  · have := Int.mul_nonneg (show (0 : Int) ≤ -x by omega) (show (0 : Int) ≤ -x by omega)
    rwa [Int.neg_mul_neg] at this
theorem sq_zero {x : Int} (h : x * x = 0) : x = 0 := by rcases Int.mul_eq_zero.mp h with h | h <;> exact h
theorem dist_fits {ox oy ax ay : Int} (h1 : latB ox = true) (h2 : latB oy = true) (h3 : latB ax = true) (h4 : latB ay = true) :
    wrap64 ((ax - ox) * (ax - ox) + (ay - oy) * (ay - oy)) = (ax - ox) * (ax - ox) + (ay - oy) * (ay - oy) := by
  have := lat_bd h1; have := lat_bd h2; have := lat_bd h3; have := lat_bd h4
  have p := prod_bd' (x := ax - ox) (y := ax - ox) (M := 2147483646) (by omega) (by omega) (by omega) (by omega)
  have q := prod_bd' (x := ay - oy) (y := ay - oy) (M := 2147483646) (by omega) (by omega) (by omega) (by omega)
  unfold wrap64; omega
theorem dist_zero (ox oy ax ay : Int) : (((ax - ox) * (ax - ox) + (ay - oy) * (ay - oy)) == 0) = (ox == ax && oy == ay) := by
  have p := sq_nonneg (ax - ox)
  have q := sq_nonneg (ay - oy)
  by_cases h : (ax - ox) * (ax - ox) + (ay - oy) * (ay - oy) = 0
  · have h1 := sq_zero (x := ax - ox) (by omega)
    have h2 := sq_zero (x := ay - oy) (by omega)
    rw [show ((ax - ox) * (ax - ox) + (ay - oy) * (ay - oy) == 0) = true by simp [h], show (ox == ax) = true by simp; omega, show (oy == ay) = true by simp; omega]
    rfl
  · rw [show ((ax - ox) * (ax - ox) + (ay - oy) * (ay - oy) == 0) = false by simp [h]]
    by_cases h1 : ox = ax
    · by_cases h2 : oy = ay
      · subst h1 h2; simp at h
      · simp [h2]
    · simp [h1]
theorem dist_nonneg (ox oy ax ay : Int) : 0 ≤ (ax - ox) * (ax - ox) + (ay - oy) * (ay - oy) := by
  have p := sq_nonneg (ax - ox)
  have q := sq_nonneg (ay - oy)
  omega
theorem turn_shift (ox oy ax ay bx by_ u v : Int) : turnI (ox + u) (oy + v) (ax + u) (ay + v) (bx + u) (by_ + v) = turnI ox oy ax ay bx by_ := by
  unfold turnI
  rw [show ax + u - (ox + u) = ax - ox by omega, show by_ + v - (oy + v) = by_ - oy by omega, show ay + v - (oy + v) = ay - oy by omega, show bx + u - (ox + u) = bx - ox by omega]
end
end Go.Proofs.Ytljdnahomhbenaa
