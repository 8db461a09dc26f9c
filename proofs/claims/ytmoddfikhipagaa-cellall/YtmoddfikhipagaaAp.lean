/- CellAll, plain: what the cells of a line keep. -/
import Derived.Test.YtmoddfikhipagaaIh
set_option linter.unusedSimpArgs false
set_option linter.unusedVariables false
namespace Go.Proofs.Ytmoddfikhipagaa
open Go.RowKit Go.Sort Go.Shelf

theorem byH_comm {a b : C2} (h : a.1 = b.1) : byH a b = byH b a := by
  obtain ⟨ax, ay⟩ := a
  obtain ⟨bx', by'⟩ := b
  simp only at h
  subst h
  unfold byH
  dsimp only
  by_cases h1 : by' < ay
  · rw [if_pos h1, if_neg (by omega)]
  · by_cases h2 : ay < by'
    · rw [if_neg h1, if_pos h2]
    · have : ay = by' := by omega
      subst this
      simp
/-- A line told from its other end tells the same cells, in the same order. -/
theorem line_turned (p q : C2) (s : Int) : lineL p q s = lineL q p s := by
  have hb : (szB s && plB p.1 p.2 && plB q.1 q.2) = (szB s && plB q.1 q.2 && plB p.1 p.2) := by
    cases szB s <;> cases plB p.1 p.2 <;> cases plB q.1 q.2 <;> rfl
  by_cases h : p.1 = q.1
  · have e1 : ordP p q = (p, q) := by unfold ordP; rw [if_neg (by omega)]
    have e2 : ordP q p = (q, p) := by unfold ordP; rw [if_neg (by omega)]
    unfold lineL
    rw [hb, e1, e2]
    dsimp only
    have k1 : kOf p q s = 0 := by unfold kOf; rw [h]; omega
    have k2 : kOf q p s = 0 := by unfold kOf; rw [h]; omega
    rw [k1, k2]
    have ec : colsL p q s 0 (0 + 1) = colsL q p s 0 (0 + 1) := by
      show [colP p q s 0 0] = [colP q p s 0 0]
      have : colP p q s 0 0 = colP q p s 0 0 := by
        show byH (hol p s) (hol q s) = byH (hol q s) (hol p s)
        exact byH_comm (by show p.1 / s = q.1 / s; rw [h])
      rw [this]
    rw [ec]
  · have e : ordP p q = ordP q p := by
      unfold ordP
      by_cases h1 : q.1 < p.1
      · rw [if_pos h1, if_neg (by omega)]
      · rw [if_neg h1, if_pos (by omega)]
    unfold lineL
    rw [hb, e]
/-- Where a line goes over to the next column its row is the same or the next. -/
theorem step_row {p q : C2} {s x : Int} (hA : p.1 < q.1) (hs : 1 ≤ s) : (befP p q s x).2 ≤ (theP p q s x).2 ∧ (theP p q s x).2 ≤ (befP p q s x).2 + 1 := by
  unfold befP theP rowP
  dsimp only
  generalize risP p q s x = r
  have hd : 0 < q.1 - p.1 := by omega
  split
  · have h1 : (r - 1) / (q.1 - p.1) ≤ r / (q.1 - p.1) := Int.ediv_le_ediv hd (by omega)
    have h2 : r / (q.1 - p.1) ≤ (r - 1) / (q.1 - p.1) + 1 := by
      have : r / (q.1 - p.1) ≤ (r - 1 + 1 * (q.1 - p.1)) / (q.1 - p.1) := Int.ediv_le_ediv hd (by omega)
      rw [Int.add_mul_ediv_right _ _ (by omega)] at this
      exact this
    generalize r / (q.1 - p.1) = u at *
    generalize (r - 1) / (q.1 - p.1) = v at *
    refine ⟨Int.ediv_le_ediv (by omega) (by omega), ?_⟩
    have : (p.2 + u) / s ≤ (p.2 + v + 1 * s) / s := Int.ediv_le_ediv (by omega) (by omega)
    rw [Int.add_mul_ediv_right _ _ (by omega)] at this
    exact this
  · omega
theorem ent_in (p q : C2) (s : Int) (k i : Nat) : (colP p q s k i).1.2 ≤ (entP p q s i).2 ∧ (entP p q s i).2 ≤ (colP p q s k i).2.2 ∧ (colP p q s k i).1.2 ≤ (leaP p q s k i).2 ∧ (leaP p q s k i).2 ≤ (colP p q s k i).2.2 := by
  unfold colP byH
  split <;> dsimp only <;> omega
/-- Columns that follow touch. -/
theorem cols_touch {p q : C2} {s : Int} {k i : Nat} (hs : 1 ≤ s) (hk : q.1 / s = p.1 / s + k) (hi : i < k) :
    (colP p q s k (i + 1)).1.2 ≤ (colP p q s k i).2.2 + 1 ∧ (colP p q s k i).1.2 - 1 ≤ (colP p q s k (i + 1)).2.2 := by
  obtain ⟨h1, h2⟩ := edge_at (i := i) hs hk hi
  obtain ⟨a1, a2⟩ := step_row (p := p) (q := q) (s := s) (x := p.1 / s + (i + 1 : Nat)) (by omega) hs
  obtain ⟨b1, b2, b3, b4⟩ := ent_in p q s k i
  obtain ⟨c1, c2, c3, c4⟩ := ent_in p q s k (i + 1)
  have e1 : leaP p q s k i = befP p q s (p.1 / s + (i + 1 : Nat)) := by unfold leaP; rw [if_pos hi]
  have e2 : entP p q s (i + 1) = theP p q s (p.1 / s + (i + 1 : Nat)) := rfl
  rw [e1] at b3 b4
  rw [e2] at c1 c2
  omega
end Go.Proofs.Ytmoddfikhipagaa
