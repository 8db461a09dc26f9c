/- Plain: between two kept places beside one another nothing is cut; all between them is within the tolerance. -/
import Derived.Test.YtljdnahomhbenaaThSJ
namespace Go.Proofs.Ytljdnahomhbenaa
section
open Go.RowKit Go.Sort

def LinksN (R : Nat → Nat → Prop) : List Nat → Prop
  | a :: b :: r => R a b ∧ LinksN R (b :: r)
  | _ => True
theorem linksN_join {R : Nat → Nat → Prop} {m : Nat} {B : List Nat} : ∀ A : List Nat, LinksN R (A ++ [m]) → LinksN R (m :: B) → LinksN R (A ++ m :: B)
  | [], _, h => h
  | [_], h, k => ⟨h.1, k⟩
  | _ :: b :: r, h, k => ⟨h.1, linksN_join (b :: r) h.2 k⟩
theorem thin_adj (V : List (Int × Int)) (tol : Int) : ∀ (n i j : Nat), j - i = n → i < j → LinksN (fun a b => a < b ∧ cutQ V tol a b = 0) (i :: (thinP V tol i j ++ [j])) := by
  intro n
  induction n using Nat.strongRecOn with
  | ind n ih =>
    intro i j hn hij
    by_cases h : 0 < cutQ V tol i j
    · have hlt := cutQ_lt h
      rw [thin_yes h]
      have e : i :: (thinP V tol i (i + cutQ V tol i j) ++ (i + cutQ V tol i j) :: thinP V tol (i + cutQ V tol i j) j ++ [j]) = (i :: thinP V tol i (i + cutQ V tol i j)) ++ (i + cutQ V tol i j) :: (thinP V tol (i + cutQ V tol i j) j ++ [j]) := by simp
      rw [e]
      refine linksN_join _ ?_ ?_
      · exact ih _ (by omega) i (i + cutQ V tol i j) rfl (by omega)
      · exact ih _ (by omega) (i + cutQ V tol i j) j rfl (by omega)
    · rw [thin_not h]
      exact ⟨⟨hij, by omega⟩, trivial⟩
theorem bst_max (L : List (Int × Int)) : ∀ k, ∀ m, 0 < m → m ≤ k → offL L m ≤ offL L (bst L k)
  | 0, m, h, h' => by omega
  | k + 1, m, h, h' => by
    unfold bst
    split
    · rename_i c
      by_cases e : m = k + 1
      · subst e; omega
      · have := bst_max L k m h (by omega)
        rcases c with c | c
        · omega
        · omega
    · rename_i c
      have c1 : ¬ k = 0 := fun x => c (Or.inl x)
      have c2 : ¬ offL L (bst L k) < offL L (k + 1) := fun x => c (Or.inr x)
      by_cases e : m = k + 1
      · subst e; omega
      · exact bst_max L k m h (by omega)
/-- Where nothing is cut, all between are within the tolerance, in the reference's words. -/
theorem cut_within {V : List (Int × Int)} {tol : Int} {i j m : Nat} (hij : i < j) (hj : j < V.length) (h : cutQ V tol i j = 0) (h1 : i < m) (h2 : m < j) : (refF (V.getD i (0, 0)) (V.getD j (0, 0)) (V.getD m (0, 0))).1 ≤ tol * tol * (refF (V.getD i (0, 0)) (V.getD j (0, 0)) (V.getD m (0, 0))).2 := by
  have hl := sub_len (V := V) (show i ≤ j by omega) hj
  rw [within_scale]
  unfold cutQ at h
  rw [cut_ref _ _ (by omega)] at h
  have hp := bst_pos (sub V i j) ((sub V i j).length - 2) (by omega)
  have hle : offL (sub V i j) (bst (sub V i j) ((sub V i j).length - 2)) ≤ tol * tol * scl ((sub V i j).getD 0 (0, 0)) ((sub V i j).getD ((sub V i j).length - 1) (0, 0)) := by
    apply Classical.byContradiction
    intro c
    rw [if_neg c] at h
    omega
  have hm := bst_max (sub V i j) ((sub V i j).length - 2) (m - i) (by omega) (by omega)
  have e0 : (sub V i j).getD 0 (0, 0) = V.getD i (0, 0) := by rw [sub_get (by omega)]; rfl
  have e1 : (sub V i j).getD ((sub V i j).length - 1) (0, 0) = V.getD j (0, 0) := by
    rw [sub_get (by omega), hl, show i + (j + 1 - i - 1) = j by omega]
  have e2 : (sub V i j).getD (m - i) (0, 0) = V.getD m (0, 0) := by rw [sub_get (by omega), show i + (m - i) = m by omega]
  unfold offL at hm hle
  rw [e0, e1] at hm hle
  rw [e2] at hm
  omega
/-- With the greatest tolerance nothing is kept between. -/
theorem thin_far {V : List (Int × Int)} (hV : ∀ p ∈ V, latP p) (i j : Nat) : thinP V 3037000498 i j = [] := by
  refine thin_not ?_
  have e : cutQ V 3037000498 i j = 0 := far_cut (sub V i j) fun p hp => hV p (List.mem_of_mem_drop (List.mem_of_mem_take hp))
  omega
end
end Go.Proofs.Ytljdnahomhbenaa
