/- The contract of the reference's box around points: for every list what Bounds answers; the memory that was there is as it was. -/
import Derived.Test.YtpdhknclhpifkaaBnd
namespace Go.Proofs.Ytpdhknclhpifkaa
open Go.RowKit Go.Sort

theorem bndL_nil : bndL [] = (0, 0, 0, 0) := rfl
theorem bndL_one (l : List (Int × Int)) (h : 0 < l.length) : bndL (l.take (0 + 1)) = ((l.getD 0 (0, 0)).1, (l.getD 0 (0, 0)).2, (l.getD 0 (0, 0)).1, (l.getD 0 (0, 0)).2) := by
  cases l with
  | nil => simp at h
  | cons p r => rfl
theorem bndL_step (l : List (Int × Int)) (k : Nat) (h0 : 0 < k) (h : k < l.length) : bndL (l.take (k + 1)) = bndS (bndL (l.take k)) (l.getD k (0, 0)) := by
  obtain ⟨j, rfl⟩ : ∃ j, k = j + 1 := ⟨k - 1, by omega⟩
  exact bndL_take l j h

end Go.Proofs.Ytpdhknclhpifkaa
