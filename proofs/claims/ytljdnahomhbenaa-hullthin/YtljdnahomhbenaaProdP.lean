/- Plain facts on products of numbers, digit by digit; nothing of the program is in here. -/
import Derived.Test.YtljdnahomhbenaaDigits
namespace Go.Proofs.Ytljdnahomhbenaa
section
open Go.RowKit

/-! ### One digit changed; a product, row by row -/
theorem dg_set (l : List Int) (p : Nat) (d : Int) (hp : p < l.length) (i : Nat) : dg (l.set p d) i = if i = p then d else dg l i := by
  unfold dg
  simp only [List.getD, List.getElem?_set]
  by_cases h : p = i
  · subst h; simp [hp]
  · have : ¬ i = p := fun e => h e.symm
    simp [h, this]
theorem vl_set (l : List Int) (p : Nat) (d : Int) (hp : p < l.length) (k : Nat) : vl (dg (l.set p d)) k = vl (dg l) k + (if p < k then (d - dg l p) * pw p else 0) := by
  induction k with
  | zero => rw [vl_zero, vl_zero, if_neg (by omega)]; rfl
  | succ k ih =>
    rw [vl_succ, vl_succ, ih, dg_set l p d hp]
    by_cases h1 : k = p
    · subst h1
      rw [if_neg (by omega), if_pos rfl, if_pos (by omega), Int.sub_mul]
      omega
    · by_cases h2 : p < k
      · rw [if_pos h2, if_neg h1, if_pos (by omega)]; omega
      · rw [if_neg h2, if_neg h1, if_neg (by omega)]; omega
theorem vals_set (l : List Int) (p : Nat) (d : Int) (hp : p < l.length) : vals (l.set p d) = vals l + (d - dg l p) * pw p := by
  unfold vals
  rw [List.length_set, vl_set l p d hp, if_pos hp]
theorem set_isD {l : List Int} (h : ∀ d ∈ l, isD d) (p : Nat) {d : Int} (hd : isD d) : ∀ x ∈ l.set p d, isD x := by
  intro x hx
  rcases List.mem_or_eq_of_mem_set hx with h' | h'
  · exact h x h'
  · exact h' ▸ hd
theorem vals_noughts (n : Nat) : vals (List.replicate n 0) = 0 := by
  have : ∀ i, dg (List.replicate n 0) i = 0 := fun i => by unfold dg; simp [List.getD, List.getElem?_replicate]; split <;> rfl
  have h := vl_more (f := dg (List.replicate n 0)) 0 (List.replicate n (0 : Int)).length (fun i _ => this i)
  rw [Nat.zero_add] at h
  exact h
theorem noughts_isD (n : Nat) : ∀ d ∈ List.replicate n (0 : Int), isD d := fun d hd => by
  rw [List.eq_of_mem_replicate hd]; unfold isD; omega

/-- One digit of a row. -/
theorem mul_step {X : List Int} {i j : Nat} {c x0 ai vb bj : Int} (hp : i + j < X.length) (h : vals X + c * pw (i + j) = x0 + ai * vb * pw i) :
    vals (X.set (i + j) ((dg X (i + j) + ai * bj + c) % 65536)) + (dg X (i + j) + ai * bj + c) / 65536 * pw (i + j + 1) = x0 + ai * (vb + bj * pw j) * pw i := by
  rw [vals_set X _ _ hp, pw_succ]
  have e : dg X (i + j) + ai * bj + c = 65536 * ((dg X (i + j) + ai * bj + c) / 65536) + (dg X (i + j) + ai * bj + c) % 65536 := by omega
  have ep := pw_add i j
  generalize (dg X (i + j) + ai * bj + c) / 65536 = q at *
  generalize (dg X (i + j) + ai * bj + c) % 65536 = r at *
  generalize dg X (i + j) = x at *
  generalize vals X = V at *
  rw [ep] at *
  generalize pw i = P at *
  generalize pw j = R at *
  grind
/-- At the end of a row. -/
theorem mul_row {v a ai p b : Int} (h : v + 0 * p = a * b + ai * b * p) : v = (a + ai * p) * b := by grind
/-- A row goes no further than one digit behind the second number. -/
theorem mul_last {X : List Int} (hX : ∀ d ∈ X, isD d) {a b : List Int} (hda : allD (dg a)) (hdb : allD (dg b)) {i j : Nat} {c : Int} (hc : 0 < c) (hj : b.length ≤ j)
    (h : vals X + c * pw (i + j) = vl (dg a) i * vals b + dg a i * vl (dg b) j * pw i) : j ≤ b.length := by
  apply Nat.le_of_not_lt
  intro hlt
  rw [vals_more b j hj] at h
  have e : vl (dg a) i * vals b + dg a i * vals b * pw i = vl (dg a) (i + 1) * vals b := by rw [vl_succ]; grind
  rw [e] at h
  have h1 := (vl_bd (allD_of hX) X.length).1
  have h2 := vl_bd hda (i + 1)
  have h3 := vl_bd hdb b.length
  have h4 : vl (dg a) (i + 1) * vals b ≤ pw (i + 1) * pw b.length := Int.mul_le_mul (by omega) (Int.le_of_lt h3.2) h3.1 (by have := pw_pos (i + 1); omega)
  have h5 : vl (dg a) (i + 1) * vals b < pw (i + 1) * pw b.length := by
    by_cases hz : vals b = 0
    · rw [hz, Int.mul_zero]; exact Int.mul_pos (pw_pos _) (pw_pos _)
    · have hp : 0 < vals b := by unfold vals at *; omega
      have h6 : vl (dg a) (i + 1) * vals b < pw (i + 1) * vals b := Int.mul_lt_mul_of_pos_right h2.2 hp
      have h7 : pw (i + 1) * vals b ≤ pw (i + 1) * pw b.length := Int.mul_le_mul_of_nonneg_left (Int.le_of_lt h3.2) (by have := pw_pos (i + 1); omega)
      omega
  rw [← pw_add] at h5
  have h8 := pw_mono (j := i + 1 + b.length) (k := i + j) (by omega)
  have h9 : 1 * pw (i + j) ≤ c * pw (i + j) := Int.mul_le_mul_of_nonneg_right (by omega) (by have := pw_pos (i + j); omega)
  unfold vals at *
  omega
theorem mul_carry {x a b c : Int} (hx : isD x) (ha : isD a) (hb : isD b) (hc : isD c) : 0 ≤ a * b ∧ a * b ≤ 4294836225 ∧ isD ((x + a * b + c) / 65536) ∧ isD ((x + a * b + c) % 65536) := by
  unfold isD at *
  have h1 : 0 ≤ a * b := Int.mul_nonneg ha.1 hb.1
  have h2 : a * b ≤ 65535 * 65535 := Int.mul_le_mul (by omega) (by omega) hb.1 (by omega)
  refine ⟨h1, by omega, ?_, ?_⟩ <;> omega
end
end Go.Proofs.Ytljdnahomhbenaa
