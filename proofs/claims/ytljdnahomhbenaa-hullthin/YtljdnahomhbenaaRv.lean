/- slices.Reverse of the first points of a row of the call's own. -/
import Derived.Test.YtljdnahomhbenaaCp
namespace Go.Proofs.Ytljdnahomhbenaa
section
open Go.RowKit Go.Sort Go.Lib

/-- The first m of a row, of which i on either side are changed about. -/
def RevAt (R : List (Int × Int)) (m i : Nat) (S : List (Int × Int)) : Prop := ∀ t, t < m → S.getD t (0, 0) = if t < i ∨ m ≤ t + i then R.getD (m - 1 - t) (0, 0) else R.getD t (0, 0)
theorem getD_set (S : List (Int × Int)) (i t : Nat) (p : Int × Int) (h : i < S.length) : (S.set i p).getD t (0, 0) = if t = i then p else S.getD t (0, 0) := by
  simp only [List.getD, List.getElem?_set]
  by_cases e : t = i
  · subst e; simp [h]
  · rw [if_neg (fun x => e x.symm), if_neg e]
theorem rev_step {R S : List (Int × Int)} {m i j n : Nat} (h : RevAt R m i S) (hn : S.length = n) (hm : m ≤ n) (hij : i < j) (hj : j + i + 1 = m) : RevAt R m (i + 1) ((S.set i (S.getD j (0, 0))).set j (S.getD i (0, 0))) := fun t ht => by
  have hi := h i (by omega)
  have hj' := h j (by omega)
  have htt := h t ht
  rw [if_neg (by omega)] at hi hj'
  rw [getD_set _ _ _ _ (by simp; omega), getD_set _ _ _ _ (by omega)]
  by_cases e : t = j
  · subst e
    rw [if_pos rfl, hi, if_pos (by omega)]
    congr 1; omega
  · rw [if_neg e]
    by_cases e2 : t = i
    · subst e2
      rw [if_pos rfl, hj', if_pos (by omega)]
      congr 1; omega
    · rw [if_neg e2, htt]
      by_cases c : t < i ∨ m ≤ t + i
      · rw [if_pos c, if_pos (by omega)]
      · rw [if_neg c, if_neg (by omega)]
theorem rev_done {R S : List (Int × Int)} {m i n : Nat} (h : RevAt R m i S) (hn : S.length = n) (hR : R.length = n) (hm : m ≤ n) (hi : m ≤ 2 * i + 1) : S.take m = (R.take m).reverse := by
  apply List.ext_getElem
  · simp; omega
  · intro t h1 h2
    have ht : t < m := by simp at h1; omega
    have := h t ht
    have e1 : S.getD t (0, 0) = S[t]'(by omega) := by simp [List.getD, show t < S.length by omega]
    have e2 : R.getD (m - 1 - t) (0, 0) = R[m - 1 - t]'(by omega) := by simp [List.getD, show m - 1 - t < R.length by omega]
    rw [List.getElem_take, List.getElem_reverse, List.getElem_take]
    have eL : (R.take m).length = m := by simp; omega
    simp only [eL]
    rw [← e1, ← e2, this]
    by_cases c : t < i ∨ m ≤ t + i
    · rw [if_pos c]
    · rw [if_neg c]
      congr 1; omega

set_option maxRecDepth 20000 in
set_option maxHeartbeats 4000000 in
theorem reverse_any (B g n m c : Nat) (R : List (Int × Int)) (w : World) (hn : n ≤ 17592186043904) (hm : m ≤ n) (hR : OwnP w B g n n R) :
    Calls Try.prog 60 #[.slice (some ⟨g, 0, none⟩) m c] w fun e w' => ∃ S, e = .returned (.tuple #[]) ∧ OwnP w' B g n n S ∧ S.take m = (R.take m).reverse ∧ Below B w w' ∧ ∀ k, k ≠ g → w'.heap[k]? = w.heap[k]? := by
  have hRl := hR.len
  have hgs : B ≤ w.heap.size := by
    obtain ⟨_, h2, _, _, _, _, h, _⟩ := hR.shape
    have := lt_of_block h2
    omega
  have hg : B ≤ g := by obtain ⟨_, _, _, _, _, _, h, _⟩ := hR.shape; exact h
  go_enter Try.func60, Try.ntmps60
  go_wp2
  go_loopw [2, 3] (fun s2 s3 wr => ∃ (i : Nat) (S : List (Int × Int)), 2 * i ≤ m + 1 ∧ s2 = .int .i64 i ∧ s3 = .int .i64 ((m : Int) - 1 - i) ∧ OwnP wr B g n n S ∧ Hid (RevAt R m i S) ∧ Below B w wr ∧ Hid (∀ k, k ≠ g → wr.heap[k]? = w.heap[k]?)) (fun _ j _ => (intOf j).toNat)
  case atStart => exact ⟨0, R, by omega, rfl, by simp, hR, (by intro t ht; rw [if_neg (by omega)]), Below.refl _ _, fun _ _ => rfl⟩
  case round =>
    clear hR
    obtain ⟨i, S, hi, rfl, rfl, O, hV, hb, hO⟩ := hrel
    have hSl := O.len
    by_cases hlt : 2 * i + 1 < m
    · obtain ⟨j, hj⟩ : ∃ j : Nat, j + i + 1 = m := ⟨m - 1 - i, by omega⟩
      have ej : (m : Int) - 1 - i = (j : Int) := by omega
      obtain ⟨a0, a1, f0, f1⟩ := O.at i (by omega)
      obtain ⟨b0, b1, g0, g1⟩ := O.at j (by omega)
      have V2 := hid0 (rev_step hV.out hSl hm (by omega) hj)
      have e1 : S.getD i (0, 0) = ((S.getD i (0, 0)).1, (S.getD i (0, 0)).2) := rfl
      have e2 : S.getD j (0, 0) = ((S.getD j (0, 0)).1, (S.getD j (0, 0)).2) := rfl
      rw [e1, e2] at V2
      clear e1 e2
      have O2 : Hid (∀ W, Gr wr W → OwnP ((((W.setCell ⟨g, i * 2, none⟩ (.int .i32 (S.getD j (0, 0)).1)).setCell ⟨g, i * 2 + 1, none⟩ (.int .i32 (S.getD j (0, 0)).2)).setCell ⟨g, j * 2, none⟩ (.int .i32 (S.getD i (0, 0)).1)).setCell ⟨g, j * 2 + 1, none⟩ (.int .i32 (S.getD i (0, 0)).2)) B g n n ((S.set i ((S.getD j (0, 0)).1, (S.getD j (0, 0)).2)).set j ((S.getD i (0, 0)).1, (S.getD i (0, 0)).2))) := fun W hW => ((O.gr hW).set i (by omega) _ _).set j (by omega) _ _
      clear O
      have hne : i * 2 ≠ j * 2 ∧ i * 2 + 1 ≠ j * 2 ∧ i * 2 ≠ j * 2 + 1 ∧ i * 2 + 1 ≠ j * 2 + 1 := by omega
      obtain ⟨n1, n2, n3, n4⟩ := hne
      rw [ej]
      generalize (S.getD i (0, 0)).1 = X at *
      generalize (S.getD i (0, 0)).2 = Y at *
      generalize (S.getD j (0, 0)).1 = X' at *
      generalize (S.getD j (0, 0)).2 = Y' at *
      go_wp2
      go_region
      go_wp2
      go_roundw
      case rel =>
        refine ⟨i + 1, _, by omega, by go_num, ?_, (O2.out _ (Gr.refl _)).gr ((Gr.refl _).drew), V2, ?_, ?_⟩
        · go_num
        rotate_left
        · intro k hk
          refine Eq.trans ?_ (hO.out k hk)
          exact (Below.heap_setCell _ _ _ k hk).trans ((Below.heap_setCell _ _ _ k hk).trans ((Below.heap_setCell _ _ _ k hk).trans (Below.heap_setCell _ _ _ k hk)))
        · exact (((((hb.trans ((Gr.refl _).drew.below.mono (Nat.le_trans hgs hb.size))).setCell hg _).setCell hg _).setCell hg _).setCell hg _)
      case measure => simp [intOf]; omega
    · have fin := rev_done hV.out hSl hRl hm (by omega)
      go_wp2
      go_end0
      exact ⟨S, rfl, O, fin, hb, hO.out⟩
end
end Go.Proofs.Ytljdnahomhbenaa
