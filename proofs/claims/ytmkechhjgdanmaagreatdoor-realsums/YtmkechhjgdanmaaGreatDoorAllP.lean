/- Plain facts on sums of whole numbers in any order; nothing of the program is in here. -/
import Derived.Test.YtmkechhjgdanmaaGreatDoorSumP
namespace Go.Proofs.YtmkechhjgdanmaaGreatDoor

def tot : List Int → Int
  | [] => 0
  | a :: l => a + tot l
def tab : List Int → Nat
  | [] => 0
  | a :: l => a.natAbs + tab l
theorem tot_app (a b : List Int) : tot (a ++ b) = tot a + tot b := by
  induction a with
  | nil => simp [tot]
  | cons x a ih => simp only [List.cons_append, tot, ih]; omega
theorem tab_app (a b : List Int) : tab (a ++ b) = tab a + tab b := by
  induction a with
  | nil => simp [tab]
  | cons x a ih => simp only [List.cons_append, tab, ih]; omega
theorem tot_rev (a : List Int) : tot a.reverse = tot a := by
  induction a with
  | nil => rfl
  | cons x a ih => rw [List.reverse_cons, tot_app, ih]; simp only [tot]; omega
theorem tab_rev (a : List Int) : tab a.reverse = tab a := by
  induction a with
  | nil => rfl
  | cons x a ih => rw [List.reverse_cons, tab_app, ih]; simp only [tab]; omega
theorem tot_rot (a : List Int) (k : Nat) : tot (a.drop k ++ a.take k) = tot a := by
  have h := congrArg tot (List.take_append_drop k a)
  rw [tot_app] at h
  rw [tot_app]; omega
theorem tab_rot (a : List Int) (k : Nat) : tab (a.drop k ++ a.take k) = tab a := by
  have h := congrArg tab (List.take_append_drop k a)
  rw [tab_app] at h
  rw [tab_app]; omega
theorem take_one (z : List Int) (k : Nat) (h : k < z.length) : z.take (k + 1) = z.take k ++ [z.getD k 0] := by
  rw [List.take_add_one, List.getElem?_eq_getElem h]
  simp [List.getD, h]
theorem psum_tot (z : List Int) : ∀ k, k ≤ z.length → psum z k = tot (z.take k)
  | 0, _ => by simp [psum, tot]
  | k + 1, h => by rw [psum, psum_tot z k (by omega), take_one z k (by omega), tot_app]; simp [tot]
theorem pabs_tab (z : List Int) : ∀ k, k ≤ z.length → pabs z k = tab (z.take k)
  | 0, _ => by simp [pabs, tab]
  | k + 1, h => by rw [pabs, pabs_tab z k (by omega), take_one z k (by omega), tab_app]; simp [tab]
theorem psum_all (z : List Int) : psum z z.length = tot z := by rw [psum_tot z _ (Nat.le_refl _), List.take_length]
theorem pabs_all (z : List Int) : pabs z z.length = tab z := by rw [pabs_tab z _ (Nat.le_refl _), List.take_length]
theorem pabs_le (z : List Int) : ∀ k j, j ≤ k → pabs z j ≤ pabs z k
  | 0, j, h => by have : j = 0 := by omega
                  subst this; exact Nat.le_refl _
  | k + 1, j, h => by
    rcases Nat.lt_or_eq_of_le h with h | h
    · exact Nat.le_trans (pabs_le z k j (by omega)) (pabs_mono z k)
    · subst h; exact Nat.le_refl _
/-- The words of whole numbers. -/
def flz (z : List Int) : List Nat := z.map (floatOfInt .f64)
theorem flz_len (z : List Int) : (flz z).length = z.length := by simp [flz]
theorem flz_at (z : List Int) (k : Nat) (h : k < z.length) : (flz z).getD k 0 = floatOfInt .f64 (z.getD k 0) := by
  simp [flz, List.getD, h]
theorem floatOfInt_lt (n : Int) : floatOfInt .f64 n < 18446744073709551616 := by
  have := floatOfInt_wf .f64 n
  simpa [Lit.wf] using this
theorem flz_lt (z : List Int) (k : Nat) : (flz z).getD k 0 < 18446744073709551616 := by
  by_cases h : k < z.length
  · rw [flz_at z k h]; exact floatOfInt_lt _
  · have : (flz z).getD k 0 = 0 := by simp [flz, List.getD, List.getElem?_eq_none (Nat.le_of_not_lt h)]
    rw [this]; decide
theorem tab_at (z : List Int) (k : Nat) (h : k < z.length) : (z.getD k 0).natAbs ≤ tab z := by
  have h1 := pabs_le z z.length (k + 1) (by omega)
  rw [pabs_all] at h1
  have : pabs z (k + 1) = pabs z k + (z.getD k 0).natAbs := rfl
  omega
/-- The sum of whole numbers whose sizes together have 53 bits. -/
theorem sum_all {z : List Int} {r : Nat} (h : tab z ≤ 9007199254740992) (hr : sumR (flz z) r) : Fl r (tot z) := by
  have := sumR_whole (z := z) (l := flz z) (r := r) (fun k hk => by
    rw [flz_len] at hk
    rw [flz_at z k hk]
    exact Fl.ofInt (by have := tab_at z k hk; omega)) (by rw [flz_len, pabs_all]; exact h) hr
  rw [flz_len, psum_all] at this
  exact this
/-- It is equal to its word. -/
theorem sum_eq {z y : List Int} {r : Nat} (h : tab z ≤ 9007199254740992) (hr : sumR (flz z) r) (ht : tot y = tot z) : FloatKind.f64.format.order r (floatOfInt .f64 (tot y)) = some .eq := by
  have h1 := sum_all h hr
  have h2 := psum_le z z.length
  rw [psum_all, pabs_all] at h2
  have h3 : Fl (floatOfInt .f64 (tot y)) (tot y) := Fl.ofInt (by rw [ht]; omega)
  have h4 := h1.order h3
  rw [ht, cmp_eq rfl] at h4
  rw [ht]
  exact h4
theorem rev_at (z : List Int) (q : Nat) (h : q < z.length) : (flz z.reverse).getD (z.length - (q + 1)) 0 = (flz z).getD q 0 := by
  rw [flz_at _ _ (by simp; omega), flz_at z q h]
  congr 1
  rw [List.getD_eq_getElem?_getD, List.getElem?_reverse (by omega), List.getD_eq_getElem?_getD]
  congr 2
  omega
theorem flz_rot (z : List Int) (k : Nat) : (flz z).drop k ++ (flz z).take k = flz (z.drop k ++ z.take k) := by simp [flz]
theorem rot_k (t : Int) (n : Nat) (hn : 0 < n) : ∃ k : Nat, k < n ∧ Int.tmod (Int.tmod t (n : Int) + (n : Int)) (n : Int) = (k : Int) ∧ -(n : Int) < Int.tmod t (n : Int) ∧ Int.tmod t (n : Int) < (n : Int) := by
  have h1 : -(n : Int) < Int.tmod t (n : Int) ∧ Int.tmod t (n : Int) < (n : Int) := by
    have a := Int.lt_tmod_of_pos t (b := (n : Int)) (by omega)
    have b := Int.tmod_lt_of_pos t (b := (n : Int)) (by omega)
    exact ⟨a, b⟩
  refine ⟨(Int.tmod (Int.tmod t (n : Int) + (n : Int)) (n : Int)).toNat, ?_, ?_, h1⟩
  · have b := Int.tmod_lt_of_pos (Int.tmod t (n : Int) + (n : Int)) (b := (n : Int)) (by omega)
    omega
  · have c := Int.tmod_nonneg (a := Int.tmod t (n : Int) + (n : Int)) (n : Int) (by omega)
    omega
end Go.Proofs.YtmkechhjgdanmaaGreatDoor
