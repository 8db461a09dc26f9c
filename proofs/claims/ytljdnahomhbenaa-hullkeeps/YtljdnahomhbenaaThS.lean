/- Plain: the furthest of those between, the first of several, and whether it is cut at. -/
import Derived.Test.YtljdnahomhbenaaThR
namespace Go.Proofs.Ytljdnahomhbenaa
open Go.RowKit Go.Sort

abbrev offL (L : List (Int × Int)) (k : Nat) : Int := offI (L.getD 0 (0, 0)) (L.getD (L.length - 1) (0, 0)) (L.getD k (0, 0))
/-- The place of the first furthest among the places 1 to k (0, if there are none). -/
def bst (L : List (Int × Int)) : Nat → Nat
  | 0 => 0
  | k + 1 => if k = 0 ∨ offL L (bst L k) < offL L (k + 1) then k + 1 else bst L k
theorem bst_pos (L : List (Int × Int)) : ∀ k, 0 < k → 0 < bst L k ∧ bst L k ≤ k
  | 0, h => by omega
  | k + 1, _ => by
    unfold bst
    split
    · omega
    · rename_i h
      have := bst_pos L k (by omega)
      omega
theorem cut_best (L : List (Int × Int)) (m0 : Int) : ∀ k, 0 < k → cutS L m0 k = if m0 < offL L (bst L k) then (offL L (bst L k), bst L k) else (m0, 0)
  | 0, h => by omega
  | k + 1, _ => by
    by_cases h0 : k = 0
    · subst h0
      have e : bst L 1 = 1 := by unfold bst; simp
      rw [e]
      rfl
    · have ih := cut_best L m0 k (by omega)
      have eb : bst L (k + 1) = if offL L (bst L k) < offL L (k + 1) then k + 1 else bst L k := by
        rw [bst]
        simp [h0]
      have ec : cutS L m0 (k + 1) = if (cutS L m0 k).1 < offL L (k + 1) then (offL L (k + 1), k + 1) else cutS L m0 k := rfl
      rw [ec, ih, eb]
      by_cases c1 : m0 < offL L (bst L k)
      · rw [if_pos c1]
        by_cases c2 : offL L (bst L k) < offL L (k + 1)
        · rw [if_pos c2, if_pos c2, if_pos (by omega)]
        · rw [if_neg c2, if_neg c2, if_pos c1]
      · rw [if_neg c1]
        by_cases c2 : m0 < offL L (k + 1)
        · have c3 : offL L (bst L k) < offL L (k + 1) := by omega
          rw [if_pos c2, if_pos c3, if_pos c2]
        · rw [if_neg c2]
          by_cases c3 : offL L (bst L k) < offL L (k + 1)
          · rw [if_pos c3, if_neg c2]
          · rw [if_neg c3, if_neg c1]
/-- Where a line is cut: at the first furthest of those between, if it is further off than the tolerance. -/
theorem cut_ref (L : List (Int × Int)) (tol : Int) (h3 : 3 ≤ L.length) : cutP L tol = if offL L (bst L (L.length - 2)) ≤ tol * tol * scl (L.getD 0 (0, 0)) (L.getD (L.length - 1) (0, 0)) then 0 else bst L (L.length - 2) := by
  unfold cutP
  rw [cut_best L _ _ (by omega)]
  by_cases c : offL L (bst L (L.length - 2)) ≤ tol * tol * scl (L.getD 0 (0, 0)) (L.getD (L.length - 1) (0, 0))
  · rw [if_pos c, if_neg (by omega)]
  · rw [if_neg c, if_pos (by omega)]
theorem cut_few (L : List (Int × Int)) (tol : Int) (h3 : L.length < 3) : cutP L tol = 0 := by
  unfold cutP
  rw [show L.length - 2 = 0 by omega]
  rfl
/-- No point of the lattice is further off than the greatest tolerance. -/
theorem far_cut (L : List (Int × Int)) (hL : ∀ p ∈ L, latP p) : cutP L 3037000498 = 0 := by
  by_cases h3 : L.length < 3
  · exact cut_few L _ h3
  · rw [cut_ref L _ (by omega), if_pos ?_]
    have hb := bst_pos L (L.length - 2) (by omega)
    have mem : ∀ k, k < L.length → latP (L.getD k (0, 0)) := fun k hk => hL _ (by rw [show L.getD k (0, 0) = L[k] by simp [List.getD, hk]]; exact List.getElem_mem hk)
    have la := mem 0 (by omega)
    have lz := mem (L.length - 1) (by omega)
    have lp := mem (bst L (L.length - 2)) (by omega)
    have s := scl_bd la lz
    rw [← within_scale]
    have f := refF_pos (L.getD 0 (0, 0)) (L.getD (L.length - 1) (0, 0)) (L.getD (bst L (L.length - 2)) (0, 0))
    generalize L.getD (bst L (L.length - 2)) (0, 0) = p at *
    generalize L.getD 0 (0, 0) = a at *
    generalize L.getD (L.length - 1) (0, 0) = z at *
    have e : (3037000498 : Int) * 3037000498 = 9223372024852248004 := by decide
    rw [e]
    have d1 := d2_bd la lp
    have d2' := d2_bd lz lp
    unfold refF at f ⊢
    by_cases h1 : a = z ∨ al a z p ≤ 0
    · simp only [if_pos h1]
      omega
    · simp only [if_neg h1] at f ⊢
      by_cases h2 : al z a p ≤ 0
      · simp only [if_pos h2]
        omega
      · simp only [if_neg h2] at f ⊢
        have lag : cr a z p * cr a z p = d2 a z * d2 a p - al a z p * al a z p := by unfold cr d2 al; grind
        have q := sq_nonneg (al a z p)
        have m := Int.mul_le_mul_of_nonneg_left (show d2 a p ≤ 9223372024852248004 by omega) (d2_nonneg a z)
        have c := Int.mul_comm (d2 a z) 9223372024852248004
        omega
end Go.Proofs.Ytljdnahomhbenaa
