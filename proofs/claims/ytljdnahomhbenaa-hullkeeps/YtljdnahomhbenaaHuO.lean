/- Plain: points in order, each once. -/
import Derived.Test.YtljdnahomhbenaaHuQ
import Derived.Lib.SlicesCompact
namespace Go.Proofs.Ytljdnahomhbenaa
open Go.Lib

theorem upto_asc (D : List (Int × Int)) (h : D.Pairwise fun p q => ¬ lx q p) : ∀ m, m ≤ D.length → Asc (compactUpTo D.toArray m) ∧ (∀ p, p ∈ compactUpTo D.toArray m ↔ p ∈ D.take m) ∧ (∀ p ∈ compactUpTo D.toArray m, ∀ j, j + 1 = m → p = D.toArray[j]! ∨ lx p D.toArray[j]!)
  | 0, _ => by simp [compactUpTo]
  | m + 1, hm => by
    obtain ⟨a, b, c⟩ := upto_asc D h m (by omega)
    have hlt : m < D.length := by omega
    have em : D.toArray[m]! = D[m] := by simp [getElem!_pos, hlt]
    have et : D.take (m + 1) = D.take m ++ [D[m]] := (List.take_append_getElem hlt).symm
    rw [compactUpTo_succ]
    by_cases k : keeps D.toArray m = true
    · rw [if_pos k, em]
      have lt : ∀ p ∈ compactUpTo D.toArray m, lx p D[m] := fun p hp => by
        have hm0 : m ≠ 0 := by rintro rfl; simp [compactUpTo] at hp
        obtain ⟨j, rfl⟩ : ∃ j, m = j + 1 := ⟨m - 1, by omega⟩
        have hj : j < D.length := by omega
        have ej : D.toArray[j]! = D[j] := by simp [getElem!_pos, hj]
        have hne : D[j + 1] ≠ D[j] := by
          simp only [keeps, decide_eq_true_eq, Nat.add_sub_cancel] at k
          rcases k with k | k
          · omega
          · rwa [em, ej] at k
        have hpq : ¬ lx D[j + 1] D[j] := List.pairwise_iff_getElem.mp h j (j + 1) hj hlt (by omega)
        have hlx : lx D[j] D[j + 1] := by
          rcases lx_tri D[j] D[j + 1] with x | x | x
          · exact x
          · exact absurd x.symm hne
          · exact absurd x hpq
        rcases c p hp j rfl with e | e
        · rw [e, ej]; exact hlx
        · rw [ej] at e; exact lx_trans e hlx
      refine ⟨List.pairwise_append.mpr ⟨a, by simp, fun p hp q hq => ?_⟩, fun p => ?_, fun p hp j hj => ?_⟩
      · obtain rfl : q = D[m] := by simpa using hq
        exact lt p hp
      · rw [et, List.mem_append, List.mem_append, b]
      · obtain rfl : j = m := by omega
        rw [em]
        rcases List.mem_append.mp hp with hp | hp
        · exact Or.inr (lt p hp)
        · exact Or.inl (by simpa using hp)
    · have k' : keeps D.toArray m = false := by simpa using k
      have hm0 : m ≠ 0 := by rintro rfl; simp [keeps] at k'
      obtain ⟨j, rfl⟩ : ∃ j, m = j + 1 := ⟨m - 1, by omega⟩
      have hj : j < D.length := by omega
      have ej : D.toArray[j]! = D[j] := by simp [getElem!_pos, hj]
      have heq : D[j + 1] = D[j] := by
        simp only [keeps, decide_eq_false_iff_not, Nat.add_sub_cancel, not_or, Decidable.not_not] at k'
        have := k'.2
        rwa [em, ej] at this
      rw [if_neg k, List.append_nil]
      refine ⟨a, fun p => ?_, fun p hp i hi => ?_⟩
      · rw [et, List.mem_append, b]
        refine ⟨Or.inl, fun x => x.elim id fun x => ?_⟩
        have : p = D[j + 1] := by simpa using x
        rw [this, heq]
        exact List.mem_take_iff_getElem.mpr ⟨j, by omega, rfl⟩
      · obtain rfl : i = j + 1 := by omega
        rw [em, heq, ← ej]
        exact c p hp j rfl
/-- Points in order, each once: the same points, each ahead of the next. -/
theorem compact_asc {D : List (Int × Int)} (h : D.Pairwise fun p q => ¬ lx q p) : Asc (compact D) := (upto_asc D h D.length (Nat.le_refl _)).1
theorem compact_mem {D : List (Int × Int)} (h : D.Pairwise fun p q => ¬ lx q p) (p : Int × Int) : p ∈ compact D ↔ p ∈ D := by
  have := (upto_asc D h D.length (Nat.le_refl _)).2.1 p
  rwa [List.take_of_length_le (Nat.le_refl _)] at this
theorem asc_eq {l r : List (Int × Int)} (hl : Asc l) (hr : Asc r) (h : ∀ p, p ∈ l ↔ p ∈ r) : l = r := by
  induction l generalizing r with
  | nil =>
    cases r with
    | nil => rfl
    | cons a r => exact absurd ((h a).mpr (by simp)) (by simp)
  | cons a l ih =>
    cases r with
    | nil => exact absurd ((h a).mp (by simp)) (by simp)
    | cons b r =>
      have ha := List.pairwise_cons.mp hl
      have hb := List.pairwise_cons.mp hr
      have e : a = b := by
        rcases List.mem_cons.mp ((h a).mp (by simp)) with e | m
        · exact e
        · rcases List.mem_cons.mp ((h b).mpr (by simp)) with e | m'
          · exact e.symm
          · exact absurd (lx_trans (hb.1 a m) (ha.1 b m')) lx_irr
      subst e
      rw [ih ha.2 hb.2 fun p => ⟨fun m => ?_, fun m => ?_⟩]
      · rcases List.mem_cons.mp ((h p).mp (by simp [m])) with e | m'
        · subst e; exact absurd (ha.1 p m) lx_irr
        · exact m'
      · rcases List.mem_cons.mp ((h p).mpr (by simp [m])) with e | m'
        · subst e; exact absurd (hb.1 p m) lx_irr
        · exact m'
/-- The hull of a hull is that hull. -/
theorem hull_again {l l' : List (Int × Int)} (h : Asc l) (h' : Asc l') (hm : ∀ p, p ∈ l' ↔ p ∈ hullL l) : hullL l' = hullL l := by
  by_cases h2 : 2 ≤ l.length
  · obtain ⟨x0, xs, e0, eH, C⟩ := hull_cyc h h2
    rw [eH] at hm ⊢
    have hx : xs ≠ [] := cyc_ne C
    have m0 : x0 ∈ l' := (hm x0).mpr (by simp)
    have first : ∀ p ∈ l', p = x0 ∨ lx x0 p := fun p hp => by
      have hp' : p ∈ l := C.sub p ((hm p).mp hp)
      cases l with
      | nil => simp at h2
      | cons y r =>
        simp at e0; subst e0
        rcases List.mem_cons.mp hp' with e | m
        · exact Or.inl e
        · exact Or.inr ((List.pairwise_cons.mp h).1 p m)
    have h2' : 2 ≤ l'.length := by
      have := nodup_len (x0 :: xs) l' (cyc_nodup C) fun x hx => (hm x).mpr hx
      have h1 : xs.length + 1 ≤ l'.length := by simpa using this
      have : xs.length ≠ 0 := fun e => hx (List.length_eq_zero_iff.mp e)
      omega
    refine hull_unique h' h2' ?_ ⟨C.links.mono fun x y k => k.mono fun p hp => C.sub p ((hm p).mp hp), fun x hx => (hm x).mpr hx, C.fresh⟩
    cases l' with
    | nil => cases m0
    | cons y r =>
      rcases first y (by simp) with e | e
      · simp [e]
      · rcases List.mem_cons.mp m0 with e' | m
        · simp [e']
        · exact absurd (lx_trans e ((List.pairwise_cons.mp h').1 x0 m)) lx_irr
  · have e : hullL l = l := by
      cases l with
      | nil => rfl
      | cons a r => cases r with
        | nil => rfl
        | cons b r => simp at h2
    rw [e] at hm ⊢
    rw [asc_eq h' h hm, e]
theorem hull_sub {l : List (Int × Int)} (h : Asc l) : ∀ p ∈ hullL l, p ∈ l := fun p hp => by
  by_cases h2 : 2 ≤ l.length
  · obtain ⟨x0, xs, e0, eH, C⟩ := hull_cyc h h2
    rw [eH] at hp
    exact C.sub p hp
  · cases l with
    | nil => exact hp
    | cons a r => cases r with
      | nil => exact hp
      | cons b r => simp at h2
end Go.Proofs.Ytljdnahomhbenaa
