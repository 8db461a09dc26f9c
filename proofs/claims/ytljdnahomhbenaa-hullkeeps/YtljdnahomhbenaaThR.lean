/- Plain: thinning, as the document says it: places that are kept between two places of a line. -/
import Derived.Test.YtljdnahomhbenaaThQ
namespace Go.Proofs.Ytljdnahomhbenaa
open Go.RowKit Go.Sort

/-- The stretch from the place i to the place j. -/
def sub (V : List (Int × Int)) (i j : Nat) : List (Int × Int) := (V.drop i).take (j + 1 - i)
theorem sub_len {V : List (Int × Int)} {i j : Nat} (hij : i ≤ j) (hj : j < V.length) : (sub V i j).length = j + 1 - i := by
  unfold sub
  rw [List.length_take, List.length_drop]
  omega
theorem sub_get {V : List (Int × Int)} {i j k : Nat} (hk : k < j + 1 - i) : (sub V i j).getD k (0, 0) = V.getD (i + k) (0, 0) := by
  unfold sub
  simp only [List.getD]
  rw [List.getElem?_take_of_lt hk, List.getElem?_drop]
def cutQ (V : List (Int × Int)) (tol : Int) (i j : Nat) : Nat := cutP (sub V i j) tol
theorem cutQ_lt {V : List (Int × Int)} {tol : Int} {i j : Nat} (hc : 0 < cutQ V tol i j) : cutQ V tol i j < j - i := by
  have h := cutS_le (sub V i j) (tol * tol * scl ((sub V i j).getD 0 (0, 0)) ((sub V i j).getD ((sub V i j).length - 1) (0, 0))) ((sub V i j).length - 2)
  have hl : (sub V i j).length ≤ j + 1 - i := by unfold sub; rw [List.length_take]; omega
  have e : cutQ V tol i j ≤ (sub V i j).length - 2 := h
  omega
/-- The places between i and j that are kept. -/
def thinP (V : List (Int × Int)) (tol : Int) (i j : Nat) : List Nat :=
  if _h : 0 < cutQ V tol i j then thinP V tol i (i + cutQ V tol i j) ++ (i + cutQ V tol i j) :: thinP V tol (i + cutQ V tol i j) j else []
  termination_by j - i
  decreasing_by
    all_goals
      have := cutQ_lt _h
      omega
theorem thin_yes {V : List (Int × Int)} {tol : Int} {i j : Nat} (h : 0 < cutQ V tol i j) : thinP V tol i j = thinP V tol i (i + cutQ V tol i j) ++ (i + cutQ V tol i j) :: thinP V tol (i + cutQ V tol i j) j := by
  rw [thinP, dif_pos h]
theorem thin_not {V : List (Int × Int)} {tol : Int} {i j : Nat} (h : ¬ 0 < cutQ V tol i j) : thinP V tol i j = [] := by
  rw [thinP, dif_neg h]
theorem thin_bd (V : List (Int × Int)) (tol : Int) : ∀ (n i j : Nat), j - i = n → ∀ k ∈ thinP V tol i j, i < k ∧ k < j := by
  intro n
  induction n using Nat.strongRecOn with
  | ind n ih =>
    intro i j hn k hk
    by_cases h : 0 < cutQ V tol i j
    · have hlt := cutQ_lt h
      rw [thin_yes h] at hk
      rcases List.mem_append.mp hk with h1 | h1
      · have := ih _ (by omega) i (i + cutQ V tol i j) rfl k h1
        omega
      · rcases List.mem_cons.mp h1 with h2 | h2
        · omega
        · have := ih _ (by omega) (i + cutQ V tol i j) j rfl k h2
          omega
    · rw [thin_not h] at hk
      cases hk
/-- What a stack of stretches (its top first) still tells. -/
def stackP (V : List (Int × Int)) (tol : Int) (st : List (Nat × Nat)) : List Nat := st.flatMap fun s => s.1 :: thinP V tol s.1 s.2
theorem stack_cut {V : List (Int × Int)} {tol : Int} {i j : Nat} {st : List (Nat × Nat)} (h : 0 < cutQ V tol i j) : stackP V tol ((i, j) :: st) = stackP V tol ((i, i + cutQ V tol i j) :: (i + cutQ V tol i j, j) :: st) := by
  unfold stackP
  simp only [List.flatMap_cons]
  rw [thin_yes h]
  simp
theorem stack_keep {V : List (Int × Int)} {tol : Int} {i j : Nat} {st : List (Nat × Nat)} (h : ¬ 0 < cutQ V tol i j) : stackP V tol ((i, j) :: st) = i :: stackP V tol st := by
  unfold stackP
  simp only [List.flatMap_cons]
  rw [thin_not h]
  simp
end Go.Proofs.Ytljdnahomhbenaa
