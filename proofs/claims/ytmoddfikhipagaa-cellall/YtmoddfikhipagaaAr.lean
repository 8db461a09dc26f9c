/- CellAll, plain: what the law asks of a line, of a square and of a cover. -/
import Derived.Test.YtmoddfikhipagaaAq
set_option linter.unusedSimpArgs false
set_option linter.unusedVariables false
namespace Go.Proofs.Ytmoddfikhipagaa
open Go.RowKit Go.Sort Go.Shelf

/-- A list of cells in columns that touch, between two cells. -/
structure SideOK (l : List C2) (a b : C2) (X : Int) (k : Nat) (st h : Nat → Nat) (lo : Nat → Int) : Prop where
  st0 : st 0 = 0
  stS : ∀ i, st (i + 1) = st i + h i + 1
  len : l.length = st (k + 1)
  ats : ∀ i j, i ≤ k → j ≤ h i → l.getD (st i + j) (0, 0) = (X + i, lo i + j)
  touch : ∀ i, i < k → lo (i + 1) ≤ lo i + h i + 1 ∧ lo i - 1 ≤ lo (i + 1) + h (i + 1)
  inX : min a.1 b.1 ≤ X ∧ X + k ≤ max a.1 b.1
  inY : ∀ i, i ≤ k → min a.2 b.2 ≤ lo i ∧ lo i + h i ≤ max a.2 b.2
  of : ∀ n, n < l.length → ∃ i j, i ≤ k ∧ j ≤ h i ∧ n = st i + j

theorem side_of {P Q : C2} {s : Int} {k : Nat} (hs : 1 ≤ s) (hk : Q.1 / s = P.1 / s + k) :
    SideOK ((colsL P Q s k (k + 1)).flatMap colC) (hol P s) (hol Q s) (P.1 / s) k (stC P Q s k) (hC P Q s k) (fun i => (colP P Q s k i).1.2) := by
  have hh : ∀ i, (colP P Q s k i).1.2 + (hC P Q s k i : Nat) = (colP P Q s k i).2.2 := fun i => by
    have := col_le P Q s k i
    unfold hC; omega
  refine ⟨stC_zero _ _ _ _, stC_succ _ _ _ _, rfl, fun i j hi hj => stC_at hk hi hj, fun i hi => ?_, ?_, fun i hi => ?_, fun n hn => ?_⟩
  · have := cols_touch hs hk hi
    have h1 := hh i
    have h2 := hh (i + 1)
    omega
  · show min (P.1 / s) (Q.1 / s) ≤ P.1 / s ∧ P.1 / s + k ≤ max (P.1 / s) (Q.1 / s)
    omega
  · have := col_in hs hk hi
    have h1 := hh i
    show min (P.2 / s) (Q.2 / s) ≤ _ ∧ _ ≤ max (P.2 / s) (Q.2 / s)
    omega
  · obtain ⟨i, j, a, b, c⟩ := stC_of P Q s k (k + 1) n hn
    exact ⟨i, j, by omega, b, c⟩
theorem SideOK.turn {l : List C2} {a b : C2} {X : Int} {k : Nat} {st h : Nat → Nat} {lo : Nat → Int} (H : SideOK l a b X k st h lo) : SideOK l b a X k st h lo :=
  ⟨H.st0, H.stS, H.len, H.ats, H.touch, by have := H.inX; omega, fun i hi => by have := H.inY i hi; omega, H.of⟩
theorem ends_in {P Q : C2} {s : Int} {k : Nat} (hs : 1 ≤ s) (hk : Q.1 / s = P.1 / s + k) : hol P s ∈ (colsL P Q s k (k + 1)).flatMap colC ∧ hol Q s ∈ (colsL P Q s k (k + 1)).flatMap colC := by
  have H := side_of (P := P) (Q := Q) hs hk
  have lt : ∀ i j, i ≤ k → j ≤ hC P Q s k i → stC P Q s k i + j < ((colsL P Q s k (k + 1)).flatMap colC).length := by
    intro i j hi hj
    show _ < stC P Q s k (k + 1)
    have mono : ∀ m, i + 1 ≤ m → stC P Q s k (i + 1) ≤ stC P Q s k m := by
      intro m hm
      induction m with
      | zero => omega
      | succ m ih =>
        by_cases e : i + 1 = m + 1
        · rw [e]; exact Nat.le_refl _
        · have := ih (by omega)
          rw [stC_succ P Q s k m]; omega
    have h1 := mono (k + 1) (by omega)
    rw [stC_succ] at h1
    omega
  constructor
  · obtain ⟨b1, b2, _, _⟩ := ent_in P Q s k 0
    have e : (entP P Q s 0).2 = P.2 / s := rfl
    rw [e] at b1 b2
    have hj : (P.2 / s - (colP P Q s k 0).1.2).toNat ≤ hC P Q s k 0 := by unfold hC; omega
    refine mem_getD ⟨_, lt 0 _ (by omega) hj, ?_⟩
    rw [H.ats 0 _ (by omega) hj]
    apply Prod.ext
    · show P.1 / s + (0 : Nat) = P.1 / s; omega
    · show (colP P Q s k 0).1.2 + _ = P.2 / s; omega
  · obtain ⟨_, _, b1, b2⟩ := ent_in P Q s k k
    have e : (leaP P Q s k k).2 = Q.2 / s := by unfold leaP; rw [if_neg (by omega)]; rfl
    rw [e] at b1 b2
    have hj : (Q.2 / s - (colP P Q s k k).1.2).toNat ≤ hC P Q s k k := by unfold hC; omega
    refine mem_getD ⟨_, lt k _ (by omega) hj, ?_⟩
    rw [H.ats k _ (by omega) hj]
    apply Prod.ext
    · show P.1 / s + (k : Nat) = Q.1 / s; omega
    · show (colP P Q s k k).1.2 + _ = Q.2 / s; omega
/-- What the law asks of a line's cells. -/
theorem line_side {p q : C2} {s : Int} (hok : (szB s && plB p.1 p.2 && plB q.1 q.2) = true) :
    (∃ X k st h lo, SideOK (lineL p q s) (hol p s) (hol q s) X k st h lo) ∧ hol p s ∈ lineL p q s ∧ hol q s ∈ lineL p q s := by
  have eL : lineL p q s = (colsL (ordP p q).1 (ordP p q).2 s (kOf (ordP p q).1 (ordP p q).2 s) (kOf (ordP p q).1 (ordP p q).2 s + 1)).flatMap colC := by unfold lineL; rw [if_pos hok]
  simp only [Bool.and_eq_true] at hok
  obtain ⟨hs, hs2⟩ := szB_iff.1 hok.1.1
  have hk := kOf_eq (ord_le p q) hs
  have H := side_of hs hk
  have E := ends_in hs hk
  rw [eL]
  by_cases h : q.1 < p.1
  · have e : ordP p q = (q, p) := by unfold ordP; rw [if_pos h]
    rw [e] at H E ⊢
    exact ⟨⟨_, _, _, _, _, H.turn⟩, E.2, E.1⟩
  · have e : ordP p q = (p, q) := by unfold ordP; rw [if_neg h]
    rw [e] at H E ⊢
    exact ⟨⟨_, _, _, _, _, H⟩, E.1, E.2⟩

/-- A point lies in the square of its cell, and in no other's. -/
theorem sq_own {x y s : Int} (hs : szB s = true) (hp : plB x y = true) : sqB (x / s) (y / s) s = true ∧ hasB (sLo (x / s) s) (sLo (y / s) s) (sHi (x / s) s) (sHi (y / s) s) x y = true := by
  obtain ⟨h1, h2⟩ := szB_iff.1 hs
  have hp' := plB_iff.1 hp
  have a1 := Int.ediv_mul_le x (show s ≠ 0 by omega)
  have a2 := Int.lt_ediv_add_one_mul_self x (show 0 < s by omega)
  have b1 := Int.ediv_mul_le y (show s ≠ 0 by omega)
  have b2 := Int.lt_ediv_add_one_mul_self y (show 0 < s by omega)
  rw [Int.add_mul] at a2 b2
  unfold sqB hasB sLo sHi clL clH
  generalize x / s * s = u at *
  generalize y / s * s = v at *
  simp only [hs, Bool.true_and, Bool.and_eq_true, decide_eq_true_eq]
  refine ⟨⟨?_, ?_⟩, ⟨⟨?_, ?_⟩, ?_⟩, ?_⟩ <;> (repeat' split) <;> omega
theorem div_of {x n s : Int} (hs : 1 ≤ s) (h1 : n * s ≤ x) (h2 : x ≤ n * s + s - 1) : x / s = n := by
  have a : n ≤ x / s := (Int.le_ediv_iff_mul_le (by omega)).2 h1
  have b : x / s < n + 1 := (Int.ediv_lt_iff_lt_mul (by omega)).2 (by rw [Int.add_mul]; omega)
  omega
theorem sq_other {x y cx cy s : Int} (hs : szB s = true) (h : hasB (sLo cx s) (sLo cy s) (sHi cx s) (sHi cy s) x y = true) : cx = x / s ∧ cy = y / s := by
  obtain ⟨h1, h2⟩ := szB_iff.1 hs
  unfold hasB sLo sHi clL clH at h
  simp only [Bool.and_eq_true, decide_eq_true_eq] at h
  obtain ⟨⟨⟨a, b⟩, c⟩, d⟩ := h
  refine ⟨(div_of h1 ?_ ?_).symm, (div_of h1 ?_ ?_).symm⟩
  · split at a <;> omega
  · split at b <;> omega
  · split at c <;> omega
  · split at d <;> omega

theorem flat_row_len (f : C2) (kx m : Nat) : ((runL f (0, 1) m).flatMap (rowC kx)).length = m * (kx + 1) := by
  induction m with
  | zero => simp [runL]
  | succ m ih =>
    rw [runL_succ, List.flatMap_append, List.length_append, ih, List.flatMap_cons, List.flatMap_nil, List.append_nil]
    unfold rowC
    rw [runL_len, Nat.succ_mul]
/-- There are as many cells as Count says. -/
theorem cov_len (a b c d s : Int) : ((covL a b c d s).length : Int) = cntP a b c d s := by
  unfold covL cntP
  cases hok : (szB s && rtB a b c d) with
  | false => rfl
  | true =>
    rw [Bool.and_eq_true] at hok
    obtain ⟨hz, hr⟩ := hok
    obtain ⟨hs1, hs2⟩ := szB_iff.1 hz
    obtain ⟨_, _, _, _, hac, hbd⟩ := rt_32 hr
    have e1 : a / s ≤ c / s := Int.ediv_le_ediv (by omega) hac
    have e2 : b / s ≤ d / s := Int.ediv_le_ediv (by omega) hbd
    rw [if_pos rfl, if_pos rfl, flat_row_len, Int.mul_comm (c / s - a / s + 1)]
    have x1 : (((kxOf b d s + 1 : Nat) : Int)) = d / s - b / s + 1 := by unfold kxOf; omega
    have x2 : (((kxOf a c s + 1 : Nat) : Int)) = c / s - a / s + 1 := by unfold kxOf; omega
    rw [← x1, ← x2]
    exact Int.natCast_mul _ _
/-- The cell of every point of the box is told. -/
theorem cov_mem {a b c d s x y : Int} (hok : (szB s && rtB a b c d) = true) (h1 : a ≤ x) (h2 : x ≤ c) (h3 : b ≤ y) (h4 : y ≤ d) : (x / s, y / s) ∈ covL a b c d s := by
  unfold covL
  rw [if_pos hok]
  rw [Bool.and_eq_true] at hok
  obtain ⟨hs1, hs2⟩ := szB_iff.1 hok.1
  have e1 : a / s ≤ x / s := Int.ediv_le_ediv (by omega) h1
  have e2 : x / s ≤ c / s := Int.ediv_le_ediv (by omega) h2
  have e3 : b / s ≤ y / s := Int.ediv_le_ediv (by omega) h3
  have e4 : y / s ≤ d / s := Int.ediv_le_ediv (by omega) h4
  refine List.mem_flatMap.2 ⟨rAt (a / s, b / s) (0, 1) (y / s - b / s).toNat, ?_, ?_⟩
  · exact List.mem_map.2 ⟨_, List.mem_range.2 (by unfold kxOf; omega), rfl⟩
  · refine List.mem_map.2 ⟨(x / s - a / s).toNat, List.mem_range.2 (by unfold kxOf; omega), ?_⟩
    simp only [rAt]
    apply Prod.ext
    · dsimp only; omega
    · dsimp only; omega
end Go.Proofs.Ytmoddfikhipagaa
