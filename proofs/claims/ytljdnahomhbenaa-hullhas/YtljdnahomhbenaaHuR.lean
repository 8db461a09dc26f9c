/- Plain: how the reference goes around: what follows a corner is the next one of the hull. -/
import Derived.Test.YtljdnahomhbenaaOc
namespace Go.Proofs.Ytljdnahomhbenaa
open Go.RowKit Go.Sort Go.Lib

theorem on_bt (p a b : Int × Int) : onB p.1 p.2 a.1 a.2 b.1 b.2 = true ↔ Bt p a b ∧ cr a b p = 0 := by
  rw [on_bet, Bool.and_eq_true, Bool.and_eq_true, beq_iff_eq]
  rw [show turnI a.1 a.2 b.1 b.2 p.1 p.2 = crT a b p from rfl, (turn_cr a b p).2.2]
  unfold betB Bt
  simp only [Bool.or_eq_true, Bool.and_eq_true, decide_eq_true_eq]
theorem ok_iff (a b p : Int × Int) : OkP a b p ↔ 0 ≤ cr a b p ∧ (cr a b p = 0 → Bt p a b) := by
  unfold OkP
  rw [(turn_cr a b p).2.1, (turn_cr a b p).2.2, on_bt]
  constructor
  · rintro ⟨h1, h2⟩
    refine ⟨by omega, fun e => ?_⟩
    rcases h2 e with rfl | h
    · unfold Bt; omega
    · exact h.1
  · rintro ⟨h1, h2⟩
    exact ⟨by omega, fun e => Or.inr ⟨h2 e, e⟩⟩
theorem fol_iff (l : List (Int × Int)) (a b : Int × Int) : folB l a b = true ↔ Fol l a b := by
  unfold folB Fol
  rw [decide_eq_true_eq]
  refine and_congr_right fun _ => ⟨fun h p hp => ?_, fun h j hj => ?_⟩
  · obtain ⟨j, hj, rfl⟩ := List.getElem_of_mem hp
    have := h j hj
    have e : l.getD j (0, 0) = l[j] := by simp [List.getD, hj]
    rw [e] at this
    exact (ok_iff a b _).mp this
  · have e : l.getD j (0, 0) = l[j] := by simp [List.getD, hj]
    rw [e]
    exact (ok_iff a b _).mpr (h _ (List.getElem_mem hj))
/-- From the last of a beginning of the hull on: who follows is the next one, or the first. -/
theorem next_of {l : List (Int × Int)} {x0 : Int × Int} {xs : List (Int × Int)} (C : Cyc l x0 xs) {i : Nat} (hi : i < xs.length + 1) : ∃ q, q ∈ l ∧ Fol l ((x0 :: xs).getD i (0, 0)) q ∧ (i + 1 = xs.length + 1 → q = x0) ∧ (i + 1 < xs.length + 1 → q = (x0 :: xs).getD (i + 1) (0, 0) ∧ q ≠ x0) := by
  have e1 : x0 :: (xs ++ [x0]) = (x0 :: xs) ++ [x0] := rfl
  have hL : (x0 :: xs).length = xs.length + 1 := rfl
  generalize hX : x0 :: xs = X at *
  have hlen : (X ++ [x0]).length = xs.length + 2 := by simp [hL]
  have hlinks : Links (Fol l) (X ++ [x0]) := by rw [← e1]; exact C.links
  have d1 : X ++ [x0] = (X ++ [x0]).take i ++ (X ++ [x0])[i]'(by omega) :: (X ++ [x0])[i + 1]'(by omega) :: (X ++ [x0]).drop (i + 2) := by
    rw [← List.drop_eq_getElem_cons, ← List.drop_eq_getElem_cons, List.take_append_drop]
  have d2 : (X ++ [x0])[i]'(by omega) = X.getD i (0, 0) := by
    rw [List.getElem_append_left (by omega)]
    simp [List.getD, show i < X.length by omega]
  have hF : Fol l (X.getD i (0, 0)) ((X ++ [x0])[i + 1]'(by omega)) := by
    rw [← d2]
    rw [d1] at hlinks
    exact links_edge hlinks
  by_cases h : i + 1 = xs.length + 1
  · have e : (X ++ [x0])[i + 1]'(by omega) = x0 := by
      rw [List.getElem_append_right (by omega)]
      simp
    rw [e] at hF
    exact ⟨x0, C.sub x0 (by simp), hF, fun _ => rfl, fun h' => by omega⟩
  · have e : (X ++ [x0])[i + 1]'(by omega) = X.getD (i + 1) (0, 0) := by
      rw [List.getElem_append_left (by omega)]
      simp [List.getD, show i + 1 < X.length by omega]
    rw [e] at hF
    have hm : X.getD (i + 1) (0, 0) ∈ xs := by
      rw [← hX]
      have : i < xs.length := by omega
      simp [List.getD, this]
    exact ⟨_, C.sub _ (List.mem_cons_of_mem _ hm), hF, fun h' => absurd h' h, fun _ => ⟨rfl, fun e => C.fresh (e ▸ hm)⟩⟩
end Go.Proofs.Ytljdnahomhbenaa
