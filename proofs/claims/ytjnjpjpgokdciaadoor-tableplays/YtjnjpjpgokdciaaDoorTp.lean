/- TableWalks in plain words: what is known of a walk by Next beside changes. -/
import Derived.Test.YtjnjpjpgokdciaaDoorPu
import Derived.Test.YtjnjpjpgokdciaaDoorDe
set_option linter.unusedSimpArgs false
set_option linter.unusedVariables false
namespace Go.Proofs.YtjnjpjpgokdciaaDoor
open Go.RowKit Go.Sort Go.Shelf

def nms (L : List En) : List Int := L.map (·.1)
theorem nms_mem {L : List En} {x : Int} : x ∈ nms L ↔ ∃ y ∈ L, y.1 = x := by simp [nms]
theorem nms_set {L : List En} {i : Nat} {id n : Int} {b : Nat} {x : En} (hA : Asc L) (hx : L[i]? = some x) (e : x.1 = id) (z : Int) : z ∈ nms (L.set i (id, n, b)) ↔ z ∈ nms L := by
  rw [nms_mem, nms_mem]
  constructor
  · rintro ⟨y, hy, rfl⟩
    rcases (set_mem hA hx).1 hy with rfl | ⟨h, _⟩
    · exact ⟨x, List.mem_of_getElem? hx, e⟩
    · exact ⟨y, h, rfl⟩
  · rintro ⟨y, hy, rfl⟩
    by_cases h : y.1 = x.1
    · exact ⟨(id, n, b), (set_mem hA hx).2 (.inl rfl), by show id = y.1; rw [h, e]⟩
    · exact ⟨y, (set_mem hA hx).2 (.inr ⟨hy, h⟩), rfl⟩
theorem nms_ins {L : List En} {i : Nat} {id n : Int} {b : Nat} (z : Int) : z ∈ nms (ins L i (id, n, b)) ↔ z = id ∨ z ∈ nms L := by
  rw [nms_mem, nms_mem]
  constructor
  · rintro ⟨y, hy, rfl⟩
    rcases ins_mem.1 hy with rfl | h
    · exact .inl rfl
    · exact .inr ⟨y, h, rfl⟩
  · rintro (rfl | ⟨y, hy, rfl⟩)
    · exact ⟨_, ins_mem.2 (.inl rfl), rfl⟩
    · exact ⟨y, ins_mem.2 (.inr hy), rfl⟩
theorem nms_del {L : List En} {i : Nat} {x : En} (hA : Asc L) (hx : L[i]? = some x) (z : Int) : z ∈ nms (L.eraseIdx i) ↔ z ∈ nms L ∧ z ≠ x.1 := by
  rw [nms_mem, nms_mem]
  constructor
  · rintro ⟨y, hy, rfl⟩
    have := (del_mem hA hx).1 hy
    exact ⟨⟨y, this.1, rfl⟩, this.2⟩
  · rintro ⟨⟨y, hy, rfl⟩, h⟩
    exact ⟨y, (del_mem hA hx).2 ⟨hy, h⟩, rfl⟩
theorem there_nms {L : List En} {id : Int} {i : Nat} (hA : Asc L) (hc : Cut L id i) : there L id i = true ↔ id ∈ nms L := by rw [there_mem hA hc, nms_mem]
/-- A list that rises and lies in another one is no longer than that. -/
theorem rise_len : ∀ (l P : List Int), l.Pairwise (· < ·) → (∀ x ∈ l, x ∈ P) → l.length ≤ P.length
  | [], P, _, _ => Nat.zero_le _
  | a :: l, P, h, k => by
    obtain ⟨h1, h2⟩ := List.pairwise_cons.1 h
    have ha : a ∈ P := k a (List.mem_cons_self ..)
    have := rise_len l (P.erase a) h2 (fun x hx => (List.mem_erase_of_ne (by have := h1 x hx; omega)).2 (k x (List.mem_cons_of_mem _ hx)))
    rw [List.length_erase_of_mem ha] at this
    have hp : 0 < P.length := List.length_pos_of_mem ha
    simp only [List.length_cons]
    omega
/-- A change: a number, and whether it is taken out. -/
abbrev Ch1 := Int × Bool
/-- What is known of the table, of what was told and of what went, in a walk: S are the numbers that were there at first, P those that were ever put in. -/
structure WkI (S P told gone : List Int) (L : List En) : Prop where
  rise : told.Pairwise (· < ·)
  inP : ∀ x ∈ told, x ∈ P
  tab : ∀ x ∈ nms L, x ∈ P
  stay : ∀ x ∈ S, x ∈ gone ∨ (x ∈ nms L ∧ ((∃ t ∈ told, x ≤ t) → x ∈ told))
/-- The next number: above all that were told, and the least of such. -/
def NxI (told : List Int) (L : List En) (id : Int) (ok : Bool) : Prop :=
  (ok = true → id ∈ nms L ∧ (∀ t ∈ told, t < id) ∧ ∀ x ∈ nms L, (∀ t ∈ told, t < x) → id ≤ x) ∧ (ok = false → ∀ x ∈ nms L, ∃ t ∈ told, x ≤ t)
theorem WkI.tell {S P told gone : List Int} {L : List En} {id : Int} (h : WkI S P told gone L) (k : NxI told L id true) : WkI S P (told ++ [id]) gone L := by
  obtain ⟨k1, k2, k3⟩ := k.1 rfl
  refine ⟨?_, fun x hx => ?_, h.tab, fun x hx => ?_⟩
  · rw [List.pairwise_append]
    exact ⟨h.rise, by simp, fun a ha b hb => by simp at hb; subst hb; exact k2 a ha⟩
  · rcases List.mem_append.1 hx with h1 | h1
    · exact h.inP x h1
    · simp at h1; subst h1; exact h.tab x k1
  · rcases h.stay x hx with h1 | ⟨h1, h2⟩
    · exact .inl h1
    · refine .inr ⟨h1, fun ⟨t, ht, hle⟩ => ?_⟩
      by_cases hb : ∃ t ∈ told, x ≤ t
      · exact List.mem_append_left _ (h2 hb)
      · have ha : ∀ t ∈ told, t < x := fun t ht => Int.lt_of_not_ge fun hge => hb ⟨t, ht, hge⟩
        have h3 := k3 x h1 ha
        rcases List.mem_append.1 ht with h4 | h4
        · exact absurd ⟨t, h4, hle⟩ hb
        · simp at h4
          subst h4
          have : x = t := by omega
          subst this
          simp
theorem WkI.len {S P told gone : List Int} {L : List En} {id : Int} (h : WkI S P told gone L) (k : NxI told L id true) : told.length + 1 ≤ P.length := by
  have h2 := h.tell k
  have := rise_len _ P h2.rise h2.inP
  simpa using this
/-- One more is put in (or would be, but for the room). -/
theorem WkI.put {S P told gone : List Int} {L L' : List En} {id : Int} (h : WkI S P told gone L) (h1 : ∀ z, z ∈ nms L → z ∈ nms L') (h2 : ∀ z, z ∈ nms L' → z = id ∨ z ∈ nms L) : WkI S (P ++ [id]) told gone L' :=
  ⟨h.rise, fun x hx => List.mem_append_left _ (h.inP x hx), fun x hx => by
    rcases h2 x hx with rfl | h3
    · simp
    · exact List.mem_append_left _ (h.tab x h3), fun x hx => by
    rcases h.stay x hx with h3 | ⟨h3, h4⟩
    · exact .inl h3
    · exact .inr ⟨h1 x h3, h4⟩⟩
theorem WkI.del {S P told gone : List Int} {L L' : List En} {id : Int} (h : WkI S P told gone L) (h1 : ∀ z, z ∈ nms L → z = id ∨ z ∈ nms L') (h2 : ∀ z, z ∈ nms L' → z ∈ nms L) : WkI S P told (gone ++ [id]) L' :=
  ⟨h.rise, h.inP, fun x hx => h.tab x (h2 x hx), fun x hx => by
    rcases h.stay x hx with h3 | ⟨h3, h4⟩
    · exact .inl (List.mem_append_left _ h3)
    · rcases h1 x h3 with rfl | h5
      · exact .inl (by simp)
      · exact .inr ⟨h5, h4⟩⟩
/-- What Next tells, in these words. -/
theorem next_first {L : List En} (hA : Asc L) {e : Option En} {c : Nat} (h : L[0]? = e) : (∀ x, e = some x → NxI [] L x.1 true) ∧ (e = none → NxI [] L 0 false) := by
  refine ⟨fun x hx => ⟨fun _ => ?_, fun h => (by cases h)⟩, fun hn => ⟨fun h => (by cases h), fun _ x hx => ?_⟩⟩
  · subst hx
    refine ⟨nms_mem.2 ⟨x, List.mem_of_getElem? h, rfl⟩, fun t ht => by simp at ht, fun y hy _ => ?_⟩
    obtain ⟨z, hz, rfl⟩ := nms_mem.1 hy
    obtain ⟨k, hk⟩ := List.mem_iff_getElem?.1 hz
    rcases Nat.eq_zero_or_pos k with rfl | hk0
    · rw [h] at hk; cases hk; omega
    · have := hA.lt h hk hk0; omega
  · subst hn
    have : L = [] := by
      cases L with
      | nil => rfl
      | cons a l => simp at h
    subst this
    simp [nms] at hx
theorem next_after {L : List En} (hA : Asc L) {told : List Int} {id : Int} (hr : (told ++ [id]).Pairwise (· < ·)) {c : Nat} (hc : Cut L id c) :
    (∀ x, L[if there L id c then c + 1 else c]? = some x → NxI (told ++ [id]) L x.1 true) ∧ (L.length = (if there L id c then c + 1 else c) → NxI (told ++ [id]) L 0 false) := by
  have hab : ∀ x : Int, (∀ t ∈ told ++ [id], t < x) ↔ id < x := fun x => by
    constructor
    · intro h; exact h id (by simp)
    · intro h t ht
      rcases List.mem_append.1 ht with h1 | h1
      · have := (List.pairwise_append.1 hr).2.2 t h1 id (by simp); omega
      · simp at h1; omega
  -- what lies at or behind that place is just what is above id
  have key : ∀ k x, L[k]? = some x → ((if there L id c then c + 1 else c) ≤ k ↔ id < x.1) := fun k x hk => by
    have h1 := hc.is k x hk
    cases hth : there L id c with
    | true =>
      obtain ⟨y, hy, ey⟩ := there_yes hth
      simp only [if_true]
      constructor
      · intro h; have := hA.lt hy hk (by omega); omega
      · intro h
        rcases Nat.lt_trichotomy k c with h2 | h2 | h2
        · have := h1.2 h2; omega
        · subst h2; rw [hy] at hk; cases hk; omega
        · omega
    | false =>
      simp only [Bool.false_eq_true, if_false]
      constructor
      · intro h
        have h2 : ¬ x.1 < id := fun h3 => by have := h1.1 h3; omega
        have h3 : x.1 ≠ id := fun e => by
          have := (there_mem hA hc).2 ⟨x, List.mem_of_getElem? hk, e⟩
          rw [hth] at this; cases this
        omega
      · intro h; exact Nat.le_of_not_lt fun h2 => by have := h1.2 h2; omega
  generalize (if there L id c then c + 1 else c) = i at *
  refine ⟨fun x hx => ⟨fun _ => ⟨nms_mem.2 ⟨x, List.mem_of_getElem? hx, rfl⟩, (hab _).2 ((key i x hx).1 (Nat.le_refl _)), fun y hy hy2 => ?_⟩, fun h => by cases h⟩, fun hl => ⟨fun h => (by cases h), fun _ y hy => ?_⟩⟩
  · obtain ⟨z, hz, rfl⟩ := nms_mem.1 hy
    obtain ⟨k, hk⟩ := List.mem_iff_getElem?.1 hz
    have := (key k z hk).2 ((hab _).1 hy2)
    rcases Nat.eq_or_lt_of_le this with h | h
    · subst h; rw [hx] at hk; cases hk; omega
    · have := hA.lt hx hk h; omega
  · obtain ⟨z, hz, rfl⟩ := nms_mem.1 hy
    obtain ⟨k, hk⟩ := List.mem_iff_getElem?.1 hz
    have hkl := (List.getElem?_eq_some_iff.1 hk).1
    refine ⟨id, by simp, Int.not_lt.1 fun h => ?_⟩
    have := (key k z hk).2 h
    omega
/-- At the end each is told or went. -/
theorem WkI.fin {S P told gone : List Int} {L : List En} {id : Int} (h : WkI S P told gone L) (k : NxI told L id false) (x : Int) (hx : x ∈ S) : x ∈ told ∨ x ∈ gone := by
  rcases h.stay x hx with h1 | ⟨h1, h2⟩
  · exact .inr h1
  · exact .inl (h2 (k.2 rfl x h1))
end Go.Proofs.YtjnjpjpgokdciaaDoor
