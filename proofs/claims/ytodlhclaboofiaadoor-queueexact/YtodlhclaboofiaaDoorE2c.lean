/- The law's kept iterators read. -/
import Derived.Test.YtodlhclaboofiaaDoorE2b
set_option linter.unusedSimpArgs false
set_option linter.unusedVariables false
namespace Go.Proofs.YtodlhclaboofiaaDoor
open Go.RowKit Go.Sort

theorem own_cells {W : World} {base e size n : Nat} {v : Value} {xs : List Value} (h : W.ownsRow base e size v n xs) {j : Nat} {u : Value} (hu : xs[j]? = some u) : ∃ g cap, v = .slice (some ⟨g, 0, none⟩) n cap ∧ W.cell? ⟨g, j, none⟩ = some u := by
  obtain ⟨hl, h⟩ := h
  have hj := (List.getElem?_eq_some_iff.1 hu).1
  rcases h with ⟨rfl, h0⟩ | ⟨g, cap, cur, rfl, hg, hk, _, _, _, ht⟩
  · rw [hl, h0] at hj; omega
  · refine ⟨g, cap, rfl, ?_⟩
    rw [← ht, List.getElem?_take] at hu
    split at hu
    · simp [World.cell?, hk]
      simpa using hu
    · cases hu
theorem own_slice {W : World} {base e size n : Nat} {v : Value} {xs : List Value} (h : W.ownsRow base e size v n xs) : ∃ aa cc, v = .slice aa n cc := by
  obtain ⟨_, h⟩ := h
  rcases h with ⟨rfl, rfl⟩ | ⟨g, cap, cur, rfl, _⟩
  · exact ⟨none, 0, rfl⟩
  · exact ⟨_, _, rfl⟩
theorem flatK_at : ∀ (ks : List Kp4) (k : Nat) (x : Kp4), ks[k]? = some x → (flatK ks)[k * 2]? = some x.f ∧ (flatK ks)[k * 2 + 1]? = some x.2.2.1
  | [], k, x, h => by simp at h
  | y :: ks, 0, x, h => by
    simp at h
    subst h
    simp [flatK]
  | y :: ks, k + 1, x, h => by
    have := flatK_at ks k x (by simpa using h)
    rw [show (k + 1) * 2 = k * 2 + 1 + 1 by omega]
    simpa [flatK] using this
end Go.Proofs.YtodlhclaboofiaaDoor
