/- A row of points of the call's own. -/
import Derived.Test.YtljdnahomhbenaaLst2
namespace Go.Proofs.Ytljdnahomhbenaa
section
open Go.RowKit Go.Sort

abbrev OwnP (w : World) (base g n cap : Nat) (L : List (Int × Int)) : Prop := w.ownsRow base 28 2 (.slice (some ⟨g, 0, none⟩) n cap) n (flat L)
theorem flat_set (L : List (Int × Int)) (i : Nat) (x y : Int) (h : i < L.length) : ((flat L).set (i * 2) (.int .i32 x)).set (i * 2 + 1) (.int .i32 y) = flat (L.set i (x, y)) := by
  induction L generalizing i with
  | nil => simp at h
  | cons p r ih =>
    cases i with
    | zero => simp [flat]
    | succ j =>
      have := ih j (by simpa using h)
      rw [show (j + 1) * 2 = j * 2 + 1 + 1 by omega]
      simpa [flat] using this
theorem OwnP.shape {w : World} {base g n cap : Nat} {L : List (Int × Int)} (h : OwnP w base g n cap L) : ∃ cur : Array Value, w.heap[g]? = some (.cells cur 28 (0, 0)) ∧ n ≤ cap ∧ cap ≤ maxLen ∧ cur.size = cap * 2 ∧ cur.toList.take (n * 2) = flat L ∧ base ≤ g ∧ (flat L).length = n * 2 := by
  rcases h.2 with ⟨e, _⟩ | ⟨g', cap', cur, e, h1, h2, h3, h4, h5, h6⟩
  · cases e
  · cases e; exact ⟨cur, h2, h3, h4, h5, h6, h1, h.1⟩
theorem OwnP.len {w : World} {base g n cap : Nat} {L : List (Int × Int)} (h : OwnP w base g n cap L) : L.length = n := by
  have := h.1
  rw [flat_len] at this
  omega
theorem OwnP.at {w : World} {base g n cap : Nat} {L : List (Int × Int)} (h : OwnP w base g n cap L) (i : Nat) (hi : i < n) :
    w.cell? ⟨g, i * 2, none⟩ = some (.int .i32 (L.getD i (0, 0)).1) ∧ w.cell? ⟨g, i * 2 + 1, none⟩ = some (.int .i32 (L.getD i (0, 0)).2) ∧ w.frozen? ⟨g, i * 2, none⟩ = false ∧ w.frozen? ⟨g, i * 2 + 1, none⟩ = false := by
  have hl := h.len
  obtain ⟨f0, f1⟩ := flat_at L i (by omega)
  have c0 := h.cells (g := g) rfl _ _ f0
  have c1 := h.cells (g := g) rfl _ _ f1
  have e : ∀ k, (⟨g, 0, none⟩ : Addr).add k = ⟨g, 0 + k, none⟩ := fun k => by unfold Addr.add; split <;> simp_all
  rw [e, Nat.zero_add] at c0 c1
  obtain ⟨cur, hc, _⟩ := h.shape
  exact ⟨c0, c1, by simp [World.frozen?, hc], by simp [World.frozen?, hc]⟩
theorem OwnP.set {w : World} {base g n cap : Nat} {L : List (Int × Int)} (h : OwnP w base g n cap L) (i : Nat) (hi : i < n) (x y : Int) :
    OwnP ((w.setCell ⟨g, i * 2, none⟩ (.int .i32 x)).setCell ⟨g, i * 2 + 1, none⟩ (.int .i32 y)) base g n cap (L.set i (x, y)) := by
  have hl := h.len
  obtain ⟨cur, hc, h3, h4, h5, h6, h1, h7⟩ := h.shape
  have e1 := setCell_eq_setRow w g (i * 2) cur 28 (0, 0) (.int .i32 x) hc
  have hc1 := setRow_heap w g cur (cur.setIfInBounds (i * 2) (.int .i32 x)) 28 (0, 0) hc
  rw [← e1] at hc1
  have e2 := setCell_eq_setRow (w.setCell ⟨g, i * 2, none⟩ (.int .i32 x)) g (i * 2 + 1) (cur.setIfInBounds (i * 2) (.int .i32 x)) 28 (0, 0) (.int .i32 y) hc1
  have hc2 := setRow_heap (w.setCell ⟨g, i * 2, none⟩ (.int .i32 x)) g (cur.setIfInBounds (i * 2) (.int .i32 x)) ((cur.setIfInBounds (i * 2) (.int .i32 x)).setIfInBounds (i * 2 + 1) (.int .i32 y)) 28 (0, 0) hc1
  rw [← e2] at hc2
  refine ⟨by rw [flat_len]; simp [hl], .inr ⟨g, cap, _, rfl, h1, hc2, h3, h4, by simp [h5], ?_⟩⟩
  rw [← flat_set L i x y (by omega)]
  simp only [Array.toList_setIfInBounds, List.take_set, h6]
theorem OwnP.gr {w w' : World} {base g n cap : Nat} {L : List (Int × Int)} (h : OwnP w base g n cap L) (k : Gr w w') : OwnP w' base g n cap L := own2_gr h k
end
end Go.Proofs.Ytljdnahomhbenaa
