/- Plain: what putting in and taking out leaves in a list; two rising lists of the same members are one. -/
import Derived.Test.YtpikhdfndnpidaaTu
set_option linter.unusedSimpArgs false
set_option linter.unusedVariables false
namespace Go.Proofs.Ytpikhdfndnpidaa

theorem putL_ok {i : Int} {q : Q4} {A : List E} (h : putE i q A = 0) : putL i q A = insL i q A := by unfold putL; rw [if_pos h]
theorem putL_no {i : Int} {q : Q4} {A : List E} (h : putE i q A ≠ 0) : putL i q A = A := by unfold putL; rw [if_neg h]
theorem putE_zero {i : Int} {q : Q4} {A : List E} : putE i q A = 0 ↔ rgQ q = true ∧ hasI i A = false ∧ A.length < 65536 := by
  unfold putE
  by_cases c1 : rgQ q = false
  · rw [if_pos c1, c1]; simp
  · have c1' : rgQ q = true := by simpa using c1
    rw [if_neg c1]
    by_cases c2 : hasI i A = true
    · rw [if_pos c2, c2]; simp
    · have c2' : hasI i A = false := by simpa using c2
      rw [if_neg c2]
      by_cases c3 : 65536 ≤ A.length
      · rw [if_pos c3]; simp; omega
      · rw [if_neg c3]; simp [c1', c2']; omega
theorem mem_putL {i : Int} {q : Q4} {A : List E} {x : E} (h : x ∈ putL i q A) : x = (i, q) ∨ x ∈ A := by
  by_cases c : putE i q A = 0
  · rw [putL_ok c] at h; exact PT.mem_insL.1 h
  · rw [putL_no c] at h; exact .inr h
theorem putL_mem {i : Int} {q : Q4} {A : List E} {x : E} (h : x ∈ A) : x ∈ putL i q A := by
  by_cases c : putE i q A = 0
  · rw [putL_ok c]; exact PT.mem_insL.2 (.inr h)
  · rw [putL_no c]; exact h
theorem putL_len (i : Int) (q : Q4) (A : List E) : (putL i q A).length ≤ A.length + 1 := by
  by_cases c : putE i q A = 0
  · rw [putL_ok c, PT.length_insL]; omega
  · rw [putL_no c]; omega
/-- Every number of A is one of l's. -/
def From (l A : List E) : Prop := ∀ x ∈ A, ∃ e ∈ l, e.1 = x.1
theorem From.nil (l : List E) : From l [] := fun x hx => by cases hx
theorem From.put {l A : List E} (h : From l A) {e : E} (he : e ∈ l) (q : Q4) : From l (putL e.1 q A) := fun x hx => by
  rcases mem_putL hx with rfl | hx
  · exact ⟨e, he, rfl⟩
  · exact h x hx
theorem From.rmv {l A : List E} (h : From l A) (k : Int) : From l (PT.rmv k A) := fun x hx => h x (List.mem_filter.1 hx).1
theorem From.del {e : E} {l A : List E} (h : From (e :: l) A) : From l (PT.rmv e.1 A) := fun x hx => by
  obtain ⟨h1, h2⟩ := List.mem_filter.1 hx
  obtain ⟨e', he', hx'⟩ := h x h1
  rcases List.mem_cons.1 he' with rfl | he'
  · simp [hx'] at h2
  · exact ⟨e', he', hx'⟩
theorem From.empty {A : List E} (h : From [] A) : A = [] := by
  cases A with
  | nil => rfl
  | cons x A => obtain ⟨e, he, _⟩ := h x (by simp); cases he
theorem srt_unique {A : List E} (s : PT.Srt A) {i : Int} {q q' : Q4} (h : (i, q) ∈ A) (h' : (i, q') ∈ A) : q = q' := by
  induction A with
  | nil => cases h
  | cons x A ih =>
    have s' := List.pairwise_cons.1 s
    rcases List.mem_cons.1 h with e | h
    · rcases List.mem_cons.1 h' with e' | h'
      · rw [← e] at e'
        exact (congrArg Prod.snd e').symm
      · have := s'.1 _ h'
        rw [← e] at this
        simp only at this
        omega
    · rcases List.mem_cons.1 h' with e' | h'
      · have := s'.1 _ h
        rw [← e'] at this
        simp only at this
        omega
      · exact ih s'.2 h h'
theorem srt_ext : ∀ {A B : List E}, PT.Srt A → PT.Srt B → (∀ x, x ∈ A ↔ x ∈ B) → A = B
  | [], [], _, _, _ => rfl
  | [], y :: B, _, _, h => by have := (h y).2 (by simp); cases this
  | x :: A, [], _, _, h => by have := (h x).1 (by simp); cases this
  | x :: A, y :: B, sa, sb, h => by
    have sa' := List.pairwise_cons.1 sa
    have sb' := List.pairwise_cons.1 sb
    have exy : x = y := by
      rcases List.mem_cons.1 ((h x).1 (by simp)) with e | h1
      · exact e
      · rcases List.mem_cons.1 ((h y).2 (by simp)) with e | h2
        · exact e.symm
        · have a1 := sb'.1 x h1
          have a2 := sa'.1 y h2
          omega
    subst exy
    congr 1
    refine srt_ext sa'.2 sb'.2 (fun z => ⟨fun hz => ?_, fun hz => ?_⟩)
    · rcases List.mem_cons.1 ((h z).1 (by simp [hz])) with e | h1
      · have := sa'.1 z hz; rw [e] at this; omega
      · exact h1
    · rcases List.mem_cons.1 ((h z).2 (by simp [hz])) with e | h1
      · have := sb'.1 z hz; rw [e] at this; omega
      · exact h1
/-- What the last loop holds: A is part of L; of those from place m on all are in A. -/
structure Back (L l : List E) (m : Nat) (A : List E) : Prop where
  sub : ∀ x ∈ A, x ∈ L
  all : ∀ e ∈ l.drop m, ∀ x ∈ L, x.1 = e.1 → x ∈ A
  len : A.length + m ≤ l.length
theorem Back.start (L l : List E) : Back L l l.length [] := ⟨fun x hx => (by cases hx), fun e he => (by simp at he), by simp⟩
theorem Back.skip {L l A : List E} {m : Nat} {e : E} (h : Back L l (m + 1) A) (he : l[m]? = some e) (hn : hasI e.1 L = false) : Back L l m A := by
  have hm : m < l.length := (List.getElem?_eq_some_iff.1 he).1
  refine ⟨h.sub, fun e' he' x hx hxe => ?_, by have := h.len; omega⟩
  rw [List.drop_eq_getElem_cons hm] at he'
  rcases List.mem_cons.1 he' with rfl | he'
  · have e1 : l[m] = e := (List.getElem?_eq_some_iff.1 he).2
    have : hasI e.1 L = true := hasI_iff.2 ⟨x.2, by rw [← e1, ← hxe]; exact hx⟩
    rw [hn] at this; cases this
  · exact h.all e' he' x hx hxe
theorem Back.put {L l A : List E} {m : Nat} {e : E} {q : Q4} (s : PT.Srt L) (hr : ∀ x ∈ L, rgQ x.2 = true) (h : Back L l (m + 1) A) (he : l[m]? = some e) (hq : (e.1, q) ∈ L) (hl : l.length ≤ 300) : Back L l m (putL e.1 q A) := by
  have hm : m < l.length := (List.getElem?_eq_some_iff.1 he).1
  have e1 : l[m] = e := (List.getElem?_eq_some_iff.1 he).2
  have hin : (e.1, q) ∈ putL e.1 q A := by
    by_cases c : putE e.1 q A = 0
    · rw [putL_ok c]; exact PT.mem_insL.2 (.inl rfl)
    · have : hasI e.1 A = true := by
        cases hc : hasI e.1 A with
        | true => rfl
        | false => exact absurd (putE_zero.2 ⟨hr _ hq, hc, by have := h.len; omega⟩) c
      obtain ⟨q', hq'⟩ := hasI_iff.1 this
      have : q' = q := srt_unique s (h.sub _ hq') hq
      rw [putL_no c, ← this]
      exact hq'
  refine ⟨fun x hx => ?_, fun e' he' x hx hxe => ?_, by have := h.len; have := putL_len e.1 q A; omega⟩
  · rcases mem_putL hx with rfl | hx
    · exact hq
    · exact h.sub x hx
  · rw [List.drop_eq_getElem_cons hm] at he'
    rcases List.mem_cons.1 he' with rfl | he'
    · obtain ⟨i, qx⟩ := x
      simp only at hxe
      rw [e1] at hxe
      subst hxe
      rw [srt_unique s hx hq]
      exact hin
    · exact putL_mem (h.all e' he' x hx hxe)
theorem Back.done {L l A : List E} (h : Back L l 0 A) (hL : From l L) (s1 : PT.Srt L) (s2 : PT.Srt A) : A = L := by
  refine srt_ext s2 s1 (fun x => ⟨h.sub x, fun hx => ?_⟩)
  obtain ⟨e, he, hx'⟩ := hL x hx
  exact h.all e (by simpa using he) x hx hx'.symm
end Go.Proofs.Ytpikhdfndnpidaa
