/- CellAll, plain: where the cells of a line lie. -/
import Derived.Test.YtmoddfikhipagaaAp
set_option linter.unusedSimpArgs false
set_option linter.unusedVariables false
namespace Go.Proofs.Ytmoddfikhipagaa
open Go.RowKit Go.Sort Go.Shelf

/-- The rows at which a column is entered and left lie between those of the ends. -/
theorem rows_in {p q : C2} {s : Int} {k i : Nat} (hs : 1 ≤ s) (hk : q.1 / s = p.1 / s + k) (hi : i ≤ k) :
    (min (p.2 / s) (q.2 / s) ≤ (entP p q s i).2 ∧ (entP p q s i).2 ≤ max (p.2 / s) (q.2 / s)) ∧ min (p.2 / s) (q.2 / s) ≤ (leaP p q s k i).2 ∧ (leaP p q s k i).2 ≤ max (p.2 / s) (q.2 / s) := by
  have hs0 : 0 < s := by omega
  have key : ∀ x : Int, p.1 < x * s → x * s ≤ q.1 → (min (p.2 / s) (q.2 / s) ≤ (theP p q s x).2 ∧ (theP p q s x).2 ≤ max (p.2 / s) (q.2 / s)) ∧ min (p.2 / s) (q.2 / s) ≤ (befP p q s x).2 ∧ (befP p q s x).2 ≤ max (p.2 / s) (q.2 / s) := by
    intro x h1 h2
    have hr := ris_bd (u := q.2 - p.2) (t := x * s - p.1) (A := q.1 - p.1) (by omega) (by omega) (by omega)
    have mono : ∀ v : Int, (p.2 ≤ v ∧ v ≤ q.2) ∨ (q.2 ≤ v ∧ v ≤ p.2) → min (p.2 / s) (q.2 / s) ≤ v / s ∧ v / s ≤ max (p.2 / s) (q.2 / s) := by
      rintro v (⟨a, b⟩ | ⟨a, b⟩)
      · have c := Int.ediv_le_ediv hs0 a
        have d := Int.ediv_le_ediv hs0 b
        omega
      · have c := Int.ediv_le_ediv hs0 a
        have d := Int.ediv_le_ediv hs0 b
        omega
    have eth : (theP p q s x).2 = (p.2 + (q.2 - p.2) * (x * s - p.1) / (q.1 - p.1)) / s := rfl
    have n1 : (p.2 ≤ p.2 + (q.2 - p.2) * (x * s - p.1) / (q.1 - p.1) ∧ p.2 + (q.2 - p.2) * (x * s - p.1) / (q.1 - p.1) ≤ q.2) ∨ (q.2 ≤ p.2 + (q.2 - p.2) * (x * s - p.1) / (q.1 - p.1) ∧ p.2 + (q.2 - p.2) * (x * s - p.1) / (q.1 - p.1) ≤ p.2) := by
      by_cases h : 0 ≤ q.2 - p.2
      · have := hr.1 h; left; omega
      · have := hr.2.1 (by omega); right; omega
    refine ⟨by rw [eth]; exact mono _ n1, ?_⟩
    unfold befP rowP risP
    dsimp only
    split
    · rename_i h
      have := hr.2.2 h
      exact mono _ (.inl (by omega))
    · exact mono _ n1
  constructor
  · cases i with
    | zero => show min (p.2 / s) (q.2 / s) ≤ p.2 / s ∧ p.2 / s ≤ max (p.2 / s) (q.2 / s); omega
    | succ j =>
      obtain ⟨h1, h2⟩ := edge_at (i := j) hs hk (by omega)
      exact (key _ h1 h2).1
  · unfold leaP
    split
    · rename_i h
      obtain ⟨h1, h2⟩ := edge_at (i := i) hs hk h
      exact (key _ h1 h2).2
    · show min (p.2 / s) (q.2 / s) ≤ q.2 / s ∧ q.2 / s ≤ max (p.2 / s) (q.2 / s); omega
theorem col_in {p q : C2} {s : Int} {k i : Nat} (hs : 1 ≤ s) (hk : q.1 / s = p.1 / s + k) (hi : i ≤ k) :
    min (p.2 / s) (q.2 / s) ≤ (colP p q s k i).1.2 ∧ (colP p q s k i).2.2 ≤ max (p.2 / s) (q.2 / s) := by
  obtain ⟨⟨a1, a2⟩, a3, a4⟩ := rows_in hs hk hi
  unfold colP byH
  split <;> dsimp only <;> omega
/-- How many cells the first columns hold. -/
def stC (p q : C2) (s : Int) (k i : Nat) : Nat := ((colsL p q s k i).flatMap colC).length
def hC (p q : C2) (s : Int) (k i : Nat) : Nat := ((colP p q s k i).2.2 - (colP p q s k i).1.2).toNat
theorem runL_len (f s : C2) (k : Nat) : (runL f s k).length = k := by simp [runL]
theorem stC_zero (p q : C2) (s : Int) (k : Nat) : stC p q s k 0 = 0 := rfl
theorem stC_succ (p q : C2) (s : Int) (k i : Nat) : stC p q s k (i + 1) = stC p q s k i + hC p q s k i + 1 := by
  unfold stC
  rw [colsL_succ, List.flatMap_append, List.length_append, List.flatMap_cons, List.flatMap_nil, List.append_nil]
  unfold colC hC
  rw [runL_len]
  omega
theorem stC_at {p q : C2} {s : Int} {k i j : Nat} (hk : q.1 / s = p.1 / s + k) (hi : i ≤ k) (hj : j ≤ hC p q s k i) :
    ((colsL p q s k (k + 1)).flatMap colC).getD (stC p q s k i + j) (0, 0) = (p.1 / s + i, (colP p q s k i).1.2 + j) := by
  obtain ⟨t, ht⟩ := colsL_pre p q s k (show i + 1 ≤ k + 1 by omega)
  rw [← ht, colsL_succ]
  simp only [List.flatMap_append, List.flatMap_cons, List.flatMap_nil, List.append_nil, List.append_assoc]
  rw [List.getD_eq_getElem?_getD, List.getElem?_append_right (by unfold stC; omega)]
  have e : stC p q s k i + j - ((colsL p q s k i).flatMap colC).length = j := by unfold stC; omega
  rw [e]
  have hl : j < (colC (colP p q s k i)).length := by unfold colC; rw [runL_len]; unfold hC at hj; omega
  rw [List.getElem?_append_left hl]
  have e2 : (colC (colP p q s k i))[j]? = some (rAt (colP p q s k i).1 (0, 1) j) := by
    unfold colC runL
    rw [List.getElem?_map, List.getElem?_range (by unfold hC at hj; omega)]
    rfl
  rw [e2]
  show rAt _ _ _ = _
  unfold rAt
  rw [← col_x hk hi]
  simp
/-- Every place of the line lies in one of its columns. -/
theorem stC_of (p q : C2) (s : Int) (k : Nat) : ∀ m n, n < stC p q s k m → ∃ i j, i < m ∧ j ≤ hC p q s k i ∧ n = stC p q s k i + j := by
  intro m
  induction m with
  | zero => intro n hn; rw [stC_zero] at hn; omega
  | succ m ih =>
    intro n hn
    by_cases h : n < stC p q s k m
    · obtain ⟨i, j, a, b, c⟩ := ih n h
      exact ⟨i, j, by omega, b, c⟩
    · rw [stC_succ] at hn
      exact ⟨m, n - stC p q s k m, by omega, by omega, by omega⟩
end Go.Proofs.Ytmoddfikhipagaa
