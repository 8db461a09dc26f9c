/- Plain: dues, their order, what a comparing function tells. -/
import Derived.Test.YtaapdkjmlplhgaaBa
import Derived.Sort.Statements
import Derived.Shelf.SlSortCmp.Insertion
namespace Go.Proofs.Ytaapdkjmlplhgaa
open Go.RowKit Go.Sort

/-- A due: At, Object, Fence. -/
abbrev Du := Int × Int × Int
def u32 (x : Int) : Prop := 0 ≤ x ∧ x < 4294967296
def okD (x : Du) : Prop := u32 x.1 ∧ u32 x.2.1 ∧ u32 x.2.2
def c2 (a b : Int) : Int := if a < b then -1 else if b < a then 1 else 0
/-- What order tells. -/
def cfD (x y : Du) : Int := if c2 x.1 y.1 ≠ 0 then c2 x.1 y.1 else if c2 x.2.1 y.2.1 ≠ 0 then c2 x.2.1 y.2.1 else c2 x.2.2 y.2.2
/-- x comes first. -/
def ltD (x y : Du) : Bool := decide (x.1 < y.1 ∨ (x.1 = y.1 ∧ (x.2.1 < y.2.1 ∨ (x.2.1 = y.2.1 ∧ x.2.2 < y.2.2))))
theorem c2_neg {a b : Int} : c2 a b < 0 ↔ a < b := by unfold c2; split <;> (try split) <;> omega
theorem c2_pos {a b : Int} : 0 < c2 a b ↔ b < a := by unfold c2; split <;> (try split) <;> omega
theorem c2_zero {a b : Int} : c2 a b = 0 ↔ a = b := by unfold c2; split <;> (try split) <;> omega
theorem cfD_lt (x y : Du) : decide (cfD x y < 0) = ltD x y := by
  unfold cfD ltD
  by_cases h1 : c2 x.1 y.1 = 0
  · by_cases h2 : c2 x.2.1 y.2.1 = 0
    · simp only [h1, h2, ne_eq, not_true, if_false, c2_neg]
      rw [c2_zero] at h1 h2
      exact decide_eq_decide.2 (by omega)
    · simp only [h1, h2, ne_eq, not_true, if_false, not_false_eq_true, if_true, c2_neg]
      rw [c2_zero] at h1 h2
      exact decide_eq_decide.2 (by omega)
  · simp only [h1, ne_eq, not_false_eq_true, if_true, c2_neg]
    rw [c2_zero] at h1
    exact decide_eq_decide.2 (by omega)
theorem lt_irr (x : Du) : ltD x x = false := by simp [ltD]
theorem lt_tr {x y z : Du} (h : ltD x y = true) (k : ltD y z = true) : ltD x z = true := by
  simp only [ltD, decide_eq_true_eq] at *
  omega
theorem nlt_tr {x y z : Du} (h : ltD x y = false) (k : ltD y z = false) : ltD x z = false := by
  simp only [ltD, decide_eq_false_iff_not] at *
  omega
theorem lt_nlt {x y : Du} (h : ltD x y = true) : ltD y x = false := by
  simp only [ltD, decide_eq_true_eq, decide_eq_false_iff_not] at *
  omega
theorem lt_anti {x y : Du} (h : ltD x y = false) (k : ltD y x = false) : x = y := by
  simp only [ltD, decide_eq_false_iff_not] at *
  obtain ⟨a, b, c⟩ := x
  obtain ⟨a', b', c'⟩ := y
  simp only at *
  have h1 : a = a' := by omega
  have h2 : b = b' := by omega
  have h3 : c = c' := by omega
  subst h1 h2 h3
  rfl
theorem swoD : SWO (Go.Proofs.ltOf cfD) := by
  have e : ∀ x y, Go.Proofs.ltOf cfD x y = ltD x y := fun x y => cfD_lt x y
  exact ⟨fun x => by rw [e]; exact lt_irr x, fun x y z h k => by rw [e] at *; exact lt_tr h k, fun x y z h k => by rw [e] at *; exact nlt_tr h k⟩
theorem ltOf_eq (x y : Du) : Go.Proofs.ltOf cfD x y = ltD x y := cfD_lt x y

/-- A due as a value, and cell by cell. -/
abbrev dL (x : Du) : List Value := [.int .u32 x.1, .int .u32 x.2.1, .int .u32 x.2.2]
abbrev dV (x : Du) : Value := .agg #[.int .u32 x.1, .int .u32 x.2.1, .int .u32 x.2.2]
theorem dL_len (x : Du) : (dL x).length = 3 := rfl
theorem dL_cell (x : Du) : ∀ v ∈ dL x, v.oneCell' = true := by
  intro v hv
  simp only [List.mem_cons, List.not_mem_nil, or_false] at hv
  rcases hv with rfl | rfl | rfl <;> rfl
def flat (l : List Du) : List Value := l.flatMap dL
theorem flat_nil : flat [] = [] := rfl
theorem flat_cons (x : Du) (l : List Du) : flat (x :: l) = dL x ++ flat l := rfl
theorem flat_app (l r : List Du) : flat (l ++ r) = flat l ++ flat r := List.flatMap_append
theorem flat_len (l : List Du) : (flat l).length = l.length * 3 := by
  induction l with
  | nil => rfl
  | cons x r ih => rw [flat_cons]; simp [ih]; omega
theorem flat_cell (l : List Du) : ∀ v ∈ flat l, v.oneCell' = true := by
  intro v hv
  obtain ⟨x, _, h⟩ := List.mem_flatMap.1 hv
  exact dL_cell x v h
theorem flat_at (l : List Du) (i j : Nat) (hi : i < l.length) (hj : j < 3) : (flat l)[i * 3 + j]? = (dL (l.getD i (0, 0, 0)))[j]? := by
  induction l generalizing i with
  | nil => simp at hi
  | cons x r ih =>
    rw [flat_cons]
    cases i with
    | zero => rw [List.getElem?_append_left (by simp; omega)]; simp
    | succ i =>
      rw [List.getElem?_append_right (by simp; omega)]
      have := ih i (by simpa using hi)
      simp only [List.length_cons, List.length_nil, List.getD_cons_succ]
      rw [← this]
      congr 1
      omega
end Go.Proofs.Ytaapdkjmlplhgaa
