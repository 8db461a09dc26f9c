/- Plain: one more in a list in order; and fewer. -/
import Derived.Test.YtaapdkjmlplhgaaRf
namespace Go.Proofs.Ytaapdkjmlplhgaa
def insL (x : Du) : List Du → List Du
  | [] => [x]
  | y :: r => if ltD x y = true then x :: y :: r else y :: insL x r
theorem insL_mem (x : Du) : ∀ (L : List Du) (y : Du), y ∈ insL x L ↔ y = x ∨ y ∈ L
  | [], y => by simp [insL]
  | z :: r, y => by
    unfold insL
    split
    · simp
    · simp only [List.mem_cons, insL_mem x r y]
      constructor
      · rintro (h | h | h)
        · exact .inr (.inl h)
        · exact .inl h
        · exact .inr (.inr h)
      · rintro (h | h | h)
        · exact .inr (.inl h)
        · exact .inl h
        · exact .inr (.inr h)
theorem insL_len (x : Du) : ∀ (L : List Du), (insL x L).length = L.length + 1
  | [] => rfl
  | z :: r => by
    unfold insL
    split
    · simp
    · simp [insL_len x r]
theorem insL_asc (x : Du) : ∀ (L : List Du), L.Pairwise (fun a b => ltD a b = true) → (∀ y ∈ L, y ≠ x) → (insL x L).Pairwise (fun a b => ltD a b = true)
  | [], _, _ => by simp [insL]
  | z :: r, h, hn => by
    rw [List.pairwise_cons] at h
    unfold insL
    split
    · rename_i hx
      refine List.pairwise_cons.2 ⟨fun y hy => ?_, List.pairwise_cons.2 h⟩
      rcases List.mem_cons.1 hy with e | hy
      · rw [e]; exact hx
      · exact lt_tr hx (h.1 y hy)
    · rename_i hx
      refine List.pairwise_cons.2 ⟨fun y hy => ?_, insL_asc x r h.2 (fun y hy => hn y (List.mem_cons_of_mem _ hy))⟩
      rcases (insL_mem x r y).1 hy with e | hy
      · rw [e]
        cases hq : ltD z x with
        | true => rfl
        | false =>
          have hx' : ltD x z = false := by simpa using hx
          exact absurd (lt_anti hq hx') (hn z List.mem_cons_self)
      · exact h.1 y hy
theorem drop_cons (L : List Du) (k : Nat) (hk : k < L.length) : L.drop k = nth L k :: L.drop (k + 1) := by
  rw [List.drop_eq_getElem_cons hk]
  simp [nth, List.getD, List.getElem?_eq_getElem hk]
/-- Whether it stands already, and what out holds, ahead of place k. -/
def InsAt (x : Du) (L : List Du) (k : Nat) (dn : Bool) (out : List Du) : Prop :=
  (dn = false → out = L.take k ∧ insL x L = L.take k ++ insL x (L.drop k)) ∧ (dn = true → out ++ L.drop k = insL x L)
theorem InsAt.zero (x : Du) (L : List Du) : InsAt x L 0 false [] := ⟨fun _ => by simp, fun h => (by cases h)⟩
theorem InsAt.here {x : Du} {L : List Du} {k : Nat} {out : List Du} (h : InsAt x L k false out) (hk : k < L.length) (hx : ltD x (nth L k) = true) : InsAt x L (k + 1) true (out ++ [x] ++ [nth L k]) := by
  obtain ⟨h1, h2⟩ := h.1 rfl
  refine ⟨fun h => (by cases h), fun _ => ?_⟩
  rw [h2, h1, drop_cons L k hk, insL, if_pos hx]
  simp
theorem InsAt.past {x : Du} {L : List Du} {k : Nat} {out : List Du} (h : InsAt x L k false out) (hk : k < L.length) (hx : ltD x (nth L k) = false) : InsAt x L (k + 1) false (out ++ [nth L k]) := by
  obtain ⟨h1, h2⟩ := h.1 rfl
  refine ⟨fun _ => ⟨?_, ?_⟩, fun h => (by cases h)⟩
  · rw [h1]; exact (take_pre hk).2.symm
  · rw [h2, drop_cons L k hk, (take_pre hk).2, insL, if_neg (by rw [hx]; simp)]
    simp
theorem InsAt.on {x : Du} {L : List Du} {k : Nat} {out : List Du} (h : InsAt x L k true out) (hk : k < L.length) : InsAt x L (k + 1) true (out ++ [nth L k]) := by
  refine ⟨fun h => (by cases h), fun _ => ?_⟩
  rw [← h.2 rfl, drop_cons L k hk]
  simp
theorem InsAt.last {x : Du} {L : List Du} {out : List Du} (h : InsAt x L L.length false out) : out ++ [x] = insL x L := by
  obtain ⟨h1, h2⟩ := h.1 rfl
  rw [h2, h1]
  simp [insL]
theorem InsAt.full {x : Du} {L : List Du} {out : List Du} (h : InsAt x L L.length true out) : out = insL x L := by
  have := h.2 rfl
  simpa using this
theorem InsAt.len {x : Du} {L : List Du} {k : Nat} {dn : Bool} {out : List Du} (h : InsAt x L k dn out) (hk : k ≤ L.length) : out.length ≤ k + 1 := by
  cases dn with
  | false => rw [(h.1 rfl).1, List.length_take]; omega
  | true =>
    have := congrArg List.length (h.2 rfl)
    rw [insL_len, List.length_append, List.length_drop] at this
    omega
end Go.Proofs.Ytaapdkjmlplhgaa
