/- Plain: thinning, as the document says it: places that are kept between two places of a line. Plain: the furthest of those between, the first of several, and whether it is cut at. -/
import Derived.Test.YtljdnahomhbenaaThQ
namespace Go.Proofs.Ytljdnahomhbenaa
section
open Go.RowKit Go.Sort

/-- The stretch from the place i to the place j. -/
def sub (V : List (Int × Int)) (i j : Nat) : List (Int × Int) := (V.drop i).take (j + 1 - i)
theorem sub_len {V : List (Int × Int)} {i j : Nat} (hij : i ≤ j) (hj : j < V.length) : (sub V i j).length = j + 1 - i := by
  unfold sub
  rw [List.length_take, List.length_drop]
  omega
theorem sub_get {V : List (Int × Int)} {i j k : Nat} (hk : k < j + 1 - i) : (sub V i j).getD k (0, 0) = V.getD (i + k) (0, 0) := by
  unfold sub
  simp only [List.getD]
  rw [List.getElem?_take_of_lt hk, List.getElem?_drop]
def cutQ (V : List (Int × Int)) (tol : Int) (i j : Nat) : Nat := cutP (sub V i j) tol
theorem cutQ_lt {V : List (Int × Int)} {tol : Int} {i j : Nat} (hc : 0 < cutQ V tol i j) : cutQ V tol i j < j - i := by
  have h := cutS_le (sub V i j) (tol * tol * scl ((sub V i j).getD 0 (0, 0)) ((sub V i j).getD ((sub V i j).length - 1) (0, 0))) ((sub V i j).length - 2)
  have hl : (sub V i j).length ≤ j + 1 - i := by unfold sub; rw [List.length_take]; omega
  have e : cutQ V tol i j ≤ (sub V i j).length - 2 := h
  omega
/-- The places between i and j that are kept. -/
def thinP (V : List (Int × Int)) (tol : Int) (i j : Nat) : List Nat :=
  if _h : 0 < cutQ V tol i j then thinP V tol i (i + cutQ V tol i j) ++ (i + cutQ V tol i j) :: thinP V tol (i + cutQ V tol i j) j else []
  termination_by j - i
  decreasing_by
    all_goals
      have := cutQ_lt _h
      omega
theorem thin_yes {V : List (Int × Int)} {tol : Int} {i j : Nat} (h : 0 < cutQ V tol i j) : thinP V tol i j = thinP V tol i (i + cutQ V tol i j) ++ (i + cutQ V tol i j) :: thinP V tol (i + cutQ V tol i j) j := by
  rw [thinP, dif_pos h]
theorem thin_not {V : List (Int × Int)} {tol : Int} {i j : Nat} (h : ¬ 0 < cutQ V tol i j) : thinP V tol i j = [] := by
  rw [thinP, dif_neg h]
theorem thin_bd (V : List (Int × Int)) (tol : Int) : ∀ (n i j : Nat), j - i = n → ∀ k ∈ thinP V tol i j, i < k ∧ k < j := by
  intro n
  induction n using Nat.strongRecOn with
  | ind n ih =>
    intro i j hn k hk
    by_cases h : 0 < cutQ V tol i j
    · have hlt := cutQ_lt h
      rw [thin_yes h] at hk
      rcases List.mem_append.mp hk with h1 | h1
      · have := ih _ (by omega) i (i + cutQ V tol i j) rfl k h1
        omega
      · rcases List.mem_cons.mp h1 with h2 | h2
        · omega
        · have := ih _ (by omega) (i + cutQ V tol i j) j rfl k h2
          omega
    · rw [thin_not h] at hk
      cases hk
/-- What a stack of stretches (its top first) still tells. -/
def stackP (V : List (Int × Int)) (tol : Int) (st : List (Nat × Nat)) : List Nat := st.flatMap fun s => s.1 :: thinP V tol s.1 s.2
theorem stack_cut {V : List (Int × Int)} {tol : Int} {i j : Nat} {st : List (Nat × Nat)} (h : 0 < cutQ V tol i j) : stackP V tol ((i, j) :: st) = stackP V tol ((i, i + cutQ V tol i j) :: (i + cutQ V tol i j, j) :: st) := by
  unfold stackP
  simp only [List.flatMap_cons]
  rw [thin_yes h]
  simp
theorem stack_keep {V : List (Int × Int)} {tol : Int} {i j : Nat} {st : List (Nat × Nat)} (h : ¬ 0 < cutQ V tol i j) : stackP V tol ((i, j) :: st) = i :: stackP V tol st := by
  unfold stackP
  simp only [List.flatMap_cons]
  rw [thin_not h]
  simp
end
section
open Go.RowKit Go.Sort

abbrev offL (L : List (Int × Int)) (k : Nat) : Int := offI (L.getD 0 (0, 0)) (L.getD (L.length - 1) (0, 0)) (L.getD k (0, 0))
/-- The place of the first furthest among the places 1 to k (0, if there are none). -/
def bst (L : List (Int × Int)) : Nat → Nat
  | 0 => 0
  | k + 1 => if k = 0 ∨ offL L (bst L k) < offL L (k + 1) then k + 1 else bst L k
theorem bst_pos (L : List (Int × Int)) : ∀ k, 0 < k → 0 < bst L k ∧ bst L k ≤ k
  | 0, h => by omega
  | k + 1, _ => by
    unfold bst
    split
    · omega
    · rename_i h
      have := bst_pos L k (by omega)
      omega
theorem cut_best (L : List (Int × Int)) (m0 : Int) : ∀ k, 0 < k → cutS L m0 k = if m0 < offL L (bst L k) then (offL L (bst L k), bst L k) else (m0, 0)
  | 0, h => by omega
  | k + 1, _ => by
    by_cases h0 : k = 0
    · subst h0
      have e : bst L 1 = 1 := by unfold bst; simp
      rw [e]
      rfl
    · have ih := cut_best L m0 k (by omega)
      have eb : bst L (k + 1) = if offL L (bst L k) < offL L (k + 1) then k + 1 else bst L k := by
        rw [bst]
        simp [h0]
      have ec : cutS L m0 (k + 1) = if (cutS L m0 k).1 < offL L (k + 1) then (offL L (k + 1), k + 1) else cutS L m0 k := rfl
      rw [ec, ih, eb]
      by_cases c1 : m0 < offL L (bst L k)
      · rw [if_pos c1]
        by_cases c2 : offL L (bst L k) < offL L (k + 1)
        · rw [if_pos c2, if_pos c2, if_pos (by omega)]
        · rw [if_neg c2, if_neg c2, if_pos c1]
      · rw [if_neg c1]
        by_cases c2 : m0 < offL L (k + 1)
        · have c3 : offL L (bst L k) < offL L (k + 1) := by omega
          rw [if_pos c2, if_pos c3, if_pos c2]
        · rw [if_neg c2]
          by_cases c3 : offL L (bst L k) < offL L (k + 1)
          · rw [if_pos c3, if_neg c2]
          · rw [if_neg c3, if_neg c1]
/-- Where a line is cut: at the first furthest of those between, if it is further off than the tolerance. -/
theorem cut_ref (L : List (Int × Int)) (tol : Int) (h3 : 3 ≤ L.length) : cutP L tol = if offL L (bst L (L.length - 2)) ≤ tol * tol * scl (L.getD 0 (0, 0)) (L.getD (L.length - 1) (0, 0)) then 0 else bst L (L.length - 2) := by
  unfold cutP
  rw [cut_best L _ _ (by omega)]
  by_cases c : offL L (bst L (L.length - 2)) ≤ tol * tol * scl (L.getD 0 (0, 0)) (L.getD (L.length - 1) (0, 0))
  · rw [if_pos c, if_neg (by omega)]
  · rw [if_neg c, if_pos (by omega)]
theorem cut_few (L : List (Int × Int)) (tol : Int) (h3 : L.length < 3) : cutP L tol = 0 := by
  unfold cutP
  rw [show L.length - 2 = 0 by omega]
  rfl
/-- No point of the lattice is further off than the greatest tolerance. -/
theorem far_cut (L : List (Int × Int)) (hL : ∀ p ∈ L, latP p) : cutP L 3037000498 = 0 := by
  by_cases h3 : L.length < 3
  · exact cut_few L _ h3
  · rw [cut_ref L _ (by omega), if_pos ?_]
    have hb := bst_pos L (L.length - 2) (by omega)
    have mem : ∀ k, k < L.length → latP (L.getD k (0, 0)) := fun k hk => hL _ (by rw [show L.getD k (0, 0) = L[k] by simp [List.getD, hk]]; exact List.getElem_mem hk)
    have la := mem 0 (by omega)
    have lz := mem (L.length - 1) (by omega)
    have lp := mem (bst L (L.length - 2)) (by omega)
    have s := scl_bd la lz
    rw [← within_scale]
    have f := refF_pos (L.getD 0 (0, 0)) (L.getD (L.length - 1) (0, 0)) (L.getD (bst L (L.length - 2)) (0, 0))
    generalize L.getD (bst L (L.length - 2)) (0, 0) = p at *
    generalize L.getD 0 (0, 0) = a at *
    generalize L.getD (L.length - 1) (0, 0) = z at *
    have e : (3037000498 : Int) * 3037000498 = 9223372024852248004 := by decide
    rw [e]
    have d1 := d2_bd la lp
    have d2' := d2_bd lz lp
    unfold refF at f ⊢
    by_cases h1 : a = z ∨ al a z p ≤ 0
    · simp only [if_pos h1]
      omega
    · simp only [if_neg h1] at f ⊢
      by_cases h2 : al z a p ≤ 0
      · simp only [if_pos h2]
        omega
      · simp only [if_neg h2] at f ⊢
        have lag : cr a z p * cr a z p = d2 a z * d2 a p - al a z p * al a z p := by unfold cr d2 al; grind
        have q := sq_nonneg (al a z p)
        have m := Int.mul_le_mul_of_nonneg_left (show d2 a p ≤ 9223372024852248004 by omega) (d2_nonneg a z)
        have c := Int.mul_comm (d2 a z) 9223372024852248004
        omega
end
end Go.Proofs.Ytljdnahomhbenaa
