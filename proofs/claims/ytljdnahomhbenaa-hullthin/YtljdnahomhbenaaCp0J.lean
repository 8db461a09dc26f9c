/- Plain: points in order, each once. clear of points in a row of the call's own. -/
import Derived.Test.YtljdnahomhbenaaHuQ
import Derived.Lib.SlicesCompact
import Derived.Test.YtljdnahomhbenaaOwn
import Derived.Lib.SliceRun
namespace Go.Proofs.Ytljdnahomhbenaa
section
open Go.Lib

theorem upto_asc (D : List (Int × Int)) (h : D.Pairwise fun p q => ¬ lx q p) : ∀ m, m ≤ D.length → Asc (compactUpTo D.toArray m) ∧ (∀ p, p ∈ compactUpTo D.toArray m ↔ p ∈ D.take m) ∧ (∀ p ∈ compactUpTo D.toArray m, ∀ j, j + 1 = m → p = D.toArray[j]! ∨ lx p D.toArray[j]!)
  | 0, _ => by simp [compactUpTo]
  | m + 1, hm => by
    obtain ⟨a, b, c⟩ := upto_asc D h m (by omega)
    have hlt : m < D.length := by omega
    have em : D.toArray[m]! = D[m] := by simp [getElem!_pos, hlt]
    have et : D.take (m + 1) = D.take m ++ [D[m]] := (List.take_append_getElem hlt).symm
    rw [compactUpTo_succ]
    by_cases k : keeps D.toArray m = true
    · rw [if_pos k, em]
      have lt : ∀ p ∈ compactUpTo D.toArray m, lx p D[m] := fun p hp => by
        have hm0 : m ≠ 0 := by rintro rfl; simp [compactUpTo] at hp
        obtain ⟨j, rfl⟩ : ∃ j, m = j + 1 := ⟨m - 1, by omega⟩
        have hj : j < D.length := by omega
        have ej : D.toArray[j]! = D[j] := by simp [getElem!_pos, hj]
        have hne : D[j + 1] ≠ D[j] := by
          simp only [keeps, decide_eq_true_eq, Nat.add_sub_cancel] at k
          rcases k with k | k
          · omega
          · rwa [em, ej] at k
        have hpq : ¬ lx D[j + 1] D[j] := List.pairwise_iff_getElem.mp h j (j + 1) hj hlt (by omega)
        have hlx : lx D[j] D[j + 1] := by
          rcases lx_tri D[j] D[j + 1] with x | x | x
          · exact x
          · exact absurd x.symm hne
          · exact absurd x hpq
        rcases c p hp j rfl with e | e
        · rw [e, ej]; exact hlx
        · rw [ej] at e; exact lx_trans e hlx
      refine ⟨List.pairwise_append.mpr ⟨a, by simp, fun p hp q hq => ?_⟩, fun p => ?_, fun p hp j hj => ?_⟩
      · obtain rfl : q = D[m] := by simpa using hq
        exact lt p hp
      · rw [et, List.mem_append, List.mem_append, b]
      · obtain rfl : j = m := by omega
        rw [em]
        rcases List.mem_append.mp hp with hp | hp
        · exact Or.inr (lt p hp)
        · exact Or.inl (by simpa using hp)
    · have k' : keeps D.toArray m = false := by simpa using k
      have hm0 : m ≠ 0 := by rintro rfl; simp [keeps] at k'
      obtain ⟨j, rfl⟩ : ∃ j, m = j + 1 := ⟨m - 1, by omega⟩
      have hj : j < D.length := by omega
      have ej : D.toArray[j]! = D[j] := by simp [getElem!_pos, hj]
      have heq : D[j + 1] = D[j] := by
        simp only [keeps, decide_eq_false_iff_not, Nat.add_sub_cancel, not_or, Decidable.not_not] at k'
        have := k'.2
        rwa [em, ej] at this
      rw [if_neg k, List.append_nil]
      refine ⟨a, fun p => ?_, fun p hp i hi => ?_⟩
      · rw [et, List.mem_append, b]
        refine ⟨Or.inl, fun x => x.elim id fun x => ?_⟩
        have : p = D[j + 1] := by simpa using x
        rw [this, heq]
        exact List.mem_take_iff_getElem.mpr ⟨j, by omega, rfl⟩
      · obtain rfl : i = j + 1 := by omega
        rw [em, heq, ← ej]
        exact c p hp j rfl
/-- Points in order, each once: the same points, each ahead of the next. -/
theorem compact_asc {D : List (Int × Int)} (h : D.Pairwise fun p q => ¬ lx q p) : Asc (compact D) := (upto_asc D h D.length (Nat.le_refl _)).1
theorem compact_mem {D : List (Int × Int)} (h : D.Pairwise fun p q => ¬ lx q p) (p : Int × Int) : p ∈ compact D ↔ p ∈ D := by
  have := (upto_asc D h D.length (Nat.le_refl _)).2.1 p
  rwa [List.take_of_length_le (Nat.le_refl _)] at this
theorem asc_eq {l r : List (Int × Int)} (hl : Asc l) (hr : Asc r) (h : ∀ p, p ∈ l ↔ p ∈ r) : l = r := by
  induction l generalizing r with
  | nil =>
    cases r with
    | nil => rfl
    | cons a r => exact absurd ((h a).mpr (by simp)) (by simp)
  | cons a l ih =>
    cases r with
    | nil => exact absurd ((h a).mp (by simp)) (by simp)
    | cons b r =>
      have ha := List.pairwise_cons.mp hl
      have hb := List.pairwise_cons.mp hr
      have e : a = b := by
        rcases List.mem_cons.mp ((h a).mp (by simp)) with e | m
        · exact e
        · rcases List.mem_cons.mp ((h b).mpr (by simp)) with e | m'
          · exact e.symm
          · exact absurd (lx_trans (hb.1 a m) (ha.1 b m')) lx_irr
      subst e
      rw [ih ha.2 hb.2 fun p => ⟨fun m => ?_, fun m => ?_⟩]
      · rcases List.mem_cons.mp ((h p).mp (by simp [m])) with e | m'
        · subst e; exact absurd (ha.1 p m) lx_irr
        · exact m'
      · rcases List.mem_cons.mp ((h p).mpr (by simp [m])) with e | m'
        · subst e; exact absurd (hb.1 p m) lx_irr
        · exact m'
/-- The hull of a hull is that hull. -/
theorem hull_again {l l' : List (Int × Int)} (h : Asc l) (h' : Asc l') (hm : ∀ p, p ∈ l' ↔ p ∈ hullL l) : hullL l' = hullL l := by
  by_cases h2 : 2 ≤ l.length
  · obtain ⟨x0, xs, e0, eH, C⟩ := hull_cyc h h2
    rw [eH] at hm ⊢
    have hx : xs ≠ [] := cyc_ne C
    have m0 : x0 ∈ l' := (hm x0).mpr (by simp)
    have first : ∀ p ∈ l', p = x0 ∨ lx x0 p := fun p hp => by
      have hp' : p ∈ l := C.sub p ((hm p).mp hp)
      cases l with
      | nil => simp at h2
      | cons y r =>
        simp at e0; subst e0
        rcases List.mem_cons.mp hp' with e | m
        · exact Or.inl e
        · exact Or.inr ((List.pairwise_cons.mp h).1 p m)
    have h2' : 2 ≤ l'.length := by
      have := nodup_len (x0 :: xs) l' (cyc_nodup C) fun x hx => (hm x).mpr hx
      have h1 : xs.length + 1 ≤ l'.length := by simpa using this
      have : xs.length ≠ 0 := fun e => hx (List.length_eq_zero_iff.mp e)
      omega
    refine hull_unique h' h2' ?_ ⟨C.links.mono fun x y k => k.mono fun p hp => C.sub p ((hm p).mp hp), fun x hx => (hm x).mpr hx, C.fresh⟩
    cases l' with
    | nil => cases m0
    | cons y r =>
      rcases first y (by simp) with e | e
      · simp [e]
      · rcases List.mem_cons.mp m0 with e' | m
        · simp [e']
        · exact absurd (lx_trans e ((List.pairwise_cons.mp h').1 x0 m)) lx_irr
  · have e : hullL l = l := by
      cases l with
      | nil => rfl
      | cons a r => cases r with
        | nil => rfl
        | cons b r => simp at h2
    rw [e] at hm ⊢
    rw [asc_eq h' h hm, e]
theorem hull_sub {l : List (Int × Int)} (h : Asc l) : ∀ p ∈ hullL l, p ∈ l := fun p hp => by
  by_cases h2 : 2 ≤ l.length
  · obtain ⟨x0, xs, e0, eH, C⟩ := hull_cyc h h2
    rw [eH] at hp
    exact C.sub p hp
  · cases l with
    | nil => exact hp
    | cons a r => cases r with
      | nil => exact hp
      | cons b r => simp at h2
end
section
open Go.RowKit Go.Sort Go.Lib

def fillP : List (Int × Int) → Nat → Nat → List (Int × Int)
  | L, _, 0 => L
  | L, k, m + 1 => fillP (L.set k (0, 0)) (k + 1) m
theorem fill_take : ∀ (m : Nat) (L : List (Int × Int)) (k j : Nat), j ≤ k → (fillP L k m).take j = L.take j
  | 0, _, _, _, _ => rfl
  | m + 1, L, k, j, h => by
    rw [fillP, fill_take m _ (k + 1) j (by omega), List.take_set_of_le h]
theorem own_fill (B g n cap : Nat) (hg : B ≤ g) : ∀ (m k : Nat) (L : List (Int × Int)) (w : World), OwnP w B g n cap L → k + m ≤ n → OwnP (w.setCells g (k * 2) (List.replicate (m * 2) (.int .i32 0))) B g n cap (fillP L k m) ∧ Below B w (w.setCells g (k * 2) (List.replicate (m * 2) (.int .i32 0)))
  | 0, k, L, w, h, _ => by simpa [World.setCells, fillP] using ⟨h, Below.refl _ _⟩
  | m + 1, k, L, w, h, hk => by
    have e : (m + 1) * 2 = m * 2 + 1 + 1 := by omega
    rw [e, List.replicate_succ, List.replicate_succ, World.setCells, World.setCells]
    have i := own_fill B g n cap hg m (k + 1) _ _ (h.set k (by omega) 0 0) (by omega)
    rw [show k * 2 + 1 + 1 = (k + 1) * 2 by omega]
    exact ⟨i.1, (((Below.refl B w).setCell hg _).setCell hg _).trans i.2⟩
theorem run_clear_pts (w : World) (ty : TypeId) (B g n cap k c : Nat) (L : List (Int × Int)) (h : OwnP w B g n cap L) (hk : k < n) :
    (Builtin.clear_ #[22] ty #[.slice (some ⟨g, k * 2, none⟩) (n - k) c]).run Try.prog w = .ok (.tuple #[]) (w.setCells g (k * 2) (List.replicate ((n - k) * 2) (.int .i32 0))) := by
  have hzc : (Builtin.zeroCells (Value.agg #[.int .i32 0, .int .i32 0]).cells (n - k)).toList = List.replicate ((n - k) * 2) (.int .i32 0) := by
    simp [Builtin.zeroCells, Value.cells]
    apply List.ext_getElem
    · simp
    · intro i h1 h2
      simp
      rcases Nat.mod_two_eq_zero_or_one i with q | q <;> simp [q]
  have hst := run_storeCells_cells (P := Try.prog) g (k * 2) (List.replicate ((n - k) * 2) (Value.int .i32 0)) 0 w (fun j hj => by
    simp at hj
    rcases Nat.mod_two_eq_zero_or_one j with q | q
    · rw [show k * 2 + 0 + j = (k + j / 2) * 2 by omega, (h.at (k + j / 2) (by omega)).1]; rfl
    · rw [show k * 2 + 0 + j = (k + j / 2) * 2 + 1 by omega, (h.at (k + j / 2) (by omega)).2.1]; rfl) (fun j hj => by
    simp at hj
    rcases Nat.mod_two_eq_zero_or_one j with q | q
    · rw [show k * 2 + 0 + j = (k + j / 2) * 2 by omega, (h.at (k + j / 2) (by omega)).2.2.1]
    · rw [show k * 2 + 0 + j = (k + j / 2) * 2 + 1 by omega, (h.at (k + j / 2) (by omega)).2.2.2]) (fun v hv => by rw [List.eq_of_mem_replicate hv]; rfl)
  simp only [Nat.add_zero] at hst
  obtain ⟨m, hm⟩ : ∃ m, n - k = m + 1 := ⟨n - k - 1, by omega⟩
  rw [hm] at hzc hst ⊢
  have hv : (zeroValue 28).run Try.prog w = .ok (.agg #[.int .i32 0, .int .i32 0]) w := Try.zeroValue28 w
  simp [Builtin.clear_, run_underlying Try.underlying22, hv, hzc, hst]
end
end Go.Proofs.Ytljdnahomhbenaa
