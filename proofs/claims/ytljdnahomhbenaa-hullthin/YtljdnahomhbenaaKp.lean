/- Plain: what Thin keeps, as places of the line. -/
import Derived.Test.YtljdnahomhbenaaFt
namespace Go.Proofs.Ytljdnahomhbenaa
section
set_option linter.unusedSimpArgs false
set_option linter.unusedVariables false
open Go.RowKit Go.Sort Go.Lib Go.Shelf

theorem linksN_get {R : Nat → Nat → Prop} : ∀ (l : List Nat), LinksN R l → ∀ k, k + 1 < l.length → R (l.getD k 0) (l.getD (k + 1) 0)
  | [], _, k, h => by simp at h
  | [_], _, k, h => by simp at h
  | a :: b :: r, h, 0, _ => by simpa [List.getD] using h.1
  | a :: b :: r, h, k + 1, hk => by
    have := linksN_get (b :: r) h.2 k (by simpa using hk)
    simpa [List.getD] using this
theorem ptsAt_get (V : List (Int × Int)) (l : List Nat) {k : Nat} (hk : k < l.length) : (ptsAt V l).getD k (0, 0) = V.getD (l.getD k 0) (0, 0) := by
  unfold ptsAt
  simp [List.getD, hk]
theorem btw_near (V : List (Int × Int)) (k : Nat) (tol : Int) : btwB V k (k + 1) tol = true := bet_true (fun m h1 h2 => by omega)
theorem btw_cut {V : List (Int × Int)} {tol : Int} {i j : Nat} (hij : i < j) (hj : j < V.length) (h : cutQ V tol i j = 0) : btwB V i j tol = true := by
  refine bet_true (fun m h1 h2 => ?_)
  unfold witB
  rw [decide_eq_true_eq, ← within_scale]
  exact cut_within hij hj h h1 h2
theorem grows {p : Nat → Nat} {m : Nat} (h : ∀ k, k + 1 < m → p k < p (k + 1)) : ∀ k, k < m → k ≤ p k
  | 0, _ => Nat.zero_le _
  | k + 1, hk => by
    have := grows h k (by omega)
    have := h k hk
    omega
theorem thin_places {V : List (Int × Int)} {tol : Int} (h0 : faultF V tol = 0) (h1 : 1 ≤ V.length) : ∃ p : Nat → Nat, p 0 = 0 ∧ p ((thinV V tol).length - 1) = V.length - 1 ∧
    (∀ k, k + 1 < (thinV V tol).length → p k < p (k + 1) ∧ p (k + 1) < V.length ∧ btwB V (p k) (p (k + 1)) tol = true) ∧ (∀ k, k < (thinV V tol).length → (thinV V tol).getD k (0, 0) = V.getD (p k) (0, 0)) ∧ 1 ≤ (thinV V tol).length ∧ (thinV V tol).length ≤ V.length := by
  unfold thinV
  rw [if_pos h0]
  by_cases h3 : V.length < 3
  · rw [if_pos h3]
    exact ⟨id, rfl, rfl, fun k hk => ⟨Nat.lt_succ_self _, hk, btw_near V k tol⟩, fun k hk => rfl, h1, Nat.le_refl _⟩
  · rw [if_neg h3, ptsAt_len]
    have hlk : (keptL V tol).length = (thinP V tol 0 (V.length - 1)).length + 2 := by unfold keptL; simp
    have LK : LinksN (fun a b => a < b ∧ cutQ V tol a b = 0) (keptL V tol) := by
      have := thin_adj V tol _ 0 (V.length - 1) rfl (by omega)
      unfold keptL
      simpa using this
    have last : (keptL V tol).getD ((keptL V tol).length - 1) 0 = V.length - 1 := by
      rw [hlk]
      unfold keptL
      rw [List.getD_eq_getElem?_getD, List.getElem?_append_right (by simp), List.length_cons]
      simp
    have bd : ∀ k, k < (keptL V tol).length → (keptL V tol).getD k 0 < V.length := fun k hk => by
      have hm : (keptL V tol).getD k 0 ∈ keptL V tol := by
        rw [List.getD_eq_getElem?_getD, List.getElem?_eq_getElem hk]
        exact List.getElem_mem hk
      generalize (keptL V tol).getD k 0 = z at *
      unfold keptL at hm
      simp only [List.mem_append, List.mem_cons, List.not_mem_nil, or_false] at hm
      rcases hm with (h | h) | h
      · omega
      · have := thin_bd V tol _ 0 (V.length - 1) rfl z h
        omega
      · omega
    have st : ∀ k, k + 1 < (keptL V tol).length → (keptL V tol).getD k 0 < (keptL V tol).getD (k + 1) 0 ∧ cutQ V tol ((keptL V tol).getD k 0) ((keptL V tol).getD (k + 1) 0) = 0 := fun k hk => linksN_get _ LK k hk
    refine ⟨fun k => (keptL V tol).getD k 0, by unfold keptL; simp [List.getD], last, fun k hk => ⟨(st k hk).1, bd _ hk, btw_cut (st k hk).1 (bd _ hk) (st k hk).2⟩, fun k hk => ptsAt_get V _ hk, by omega, ?_⟩
    have := grows (p := fun k => (keptL V tol).getD k 0) (m := (keptL V tol).length) (fun k hk => (st k hk).1) ((keptL V tol).length - 1) (by omega)
    rw [last] at this
    omega
theorem fault_far {V : List (Int × Int)} {tol : Int} (h : faultF V tol = 0) : faultF V 3037000498 = 0 := by
  unfold faultF at *
  by_cases h1 : 4096 < V.length
  · rw [if_pos h1] at h; omega
  · rw [if_neg h1] at h ⊢
    rw [if_neg (by omega)]
    by_cases h2 : tol < 0 ∨ 3037000498 < tol
    · rw [if_pos h2] at h; omega
    · rw [if_neg h2] at h; exact h
theorem thin_far_len {V : List (Int × Int)} {tol : Int} (h : faultF V tol = 0) : (thinV V 3037000498).length = if V.length < 3 then V.length else 2 := by
  have hf := fault_far h
  obtain ⟨_, _, h3⟩ := fault_ok h
  unfold thinV
  rw [if_pos hf]
  by_cases h4 : V.length < 3
  · rw [if_pos h4, if_pos h4]
  · rw [if_neg h4, if_neg h4, ptsAt_len]
    unfold keptL
    rw [thin_far h3]
    rfl
end
end Go.Proofs.Ytljdnahomhbenaa
