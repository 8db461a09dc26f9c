/- Entries of a table in plain words: numbers that rise, where one stands, one more, one less. -/
import Derived.Test.YtgdmbcfjjdngdaaDoorSq
import Derived.Test.YtgdmbcfjjdngdaaDoorHx
import Derived.Test.YtgdmbcfjjdngdaaDoorHd
import Derived.Test.YtgdmbcfjjdngdaaDoorCh
set_option linter.unusedSimpArgs false
set_option linter.unusedVariables false
namespace Go.Proofs.YtgdmbcfjjdngdaaDoor
open Go.RowKit Go.Sort

/-- An entry: its number, the number that its value stands for, the block of its row. -/
abbrev En := Int × Int × Nat
abbrev pT (b : Nat) : Value := .pointer (some ⟨b, 0, none⟩)
def pts (L : List En) : List Value := L.map fun x => pT x.2.2
theorem pts_len (L : List En) : (pts L).length = L.length := by simp [pts]
theorem pts_app (L M : List En) : pts (L ++ M) = pts L ++ pts M := by simp [pts]
/-- The number i parts the entries below id from those that are not. -/
structure Cut (L : List En) (id : Int) (i : Nat) : Prop where
  le : i ≤ L.length
  is : ∀ t x, L[t]? = some x → (x.1 < id ↔ t < i)
def there (L : List En) (id : Int) (i : Nat) : Bool := decide ((L[i]?).map (·.1) = some id)
def Asc (L : List En) : Prop := L.Pairwise (fun a b => a.1 < b.1)
theorem Asc.lt {L : List En} (h : Asc L) {a b : Nat} {x y : En} (hx : L[a]? = some x) (hy : L[b]? = some y) (hab : a < b) : x.1 < y.1 := by
  obtain ⟨ha, ex⟩ := List.getElem?_eq_some_iff.1 hx
  obtain ⟨hb, ey⟩ := List.getElem?_eq_some_iff.1 hy
  have := (List.pairwise_iff_getElem.1 h) a b ha hb hab
  rw [ex, ey] at this
  exact this
theorem Cut.uniq {L : List En} {id : Int} {i j : Nat} (h : Cut L id i) (k : Cut L id j) : i = j := by
  rcases Nat.lt_trichotomy i j with hij | hij | hij
  · have hl : i < L.length := by have := k.le; omega
    have h1 := h.is i _ (List.getElem?_eq_getElem hl)
    have h2 := k.is i _ (List.getElem?_eq_getElem hl)
    have := h1.1 (h2.2 hij)
    omega
  · exact hij
  · have hl : j < L.length := by have := h.le; omega
    have h1 := h.is j _ (List.getElem?_eq_getElem hl)
    have h2 := k.is j _ (List.getElem?_eq_getElem hl)
    have := h2.1 (h1.2 hij)
    omega
theorem there_yes {L : List En} {id : Int} {i : Nat} (h : there L id i = true) : ∃ x, L[i]? = some x ∧ x.1 = id := by
  unfold there at h
  simp only [decide_eq_true_eq, Option.map_eq_some_iff] at h
  exact h
theorem there_no {L : List En} {id : Int} {i : Nat} (h : there L id i = false) (x : En) (hx : L[i]? = some x) : x.1 ≠ id := by
  unfold there at h
  simp only [decide_eq_false_iff_not, hx, Option.map_some, Option.some.injEq] at h
  exact h
/-- Is the number in it, wherever it stands? -/
theorem there_mem {L : List En} {id : Int} {i : Nat} (hA : Asc L) (hc : Cut L id i) : there L id i = true ↔ ∃ x ∈ L, x.1 = id := by
  constructor
  · intro h
    obtain ⟨x, hx, e⟩ := there_yes h
    exact ⟨x, List.mem_of_getElem? hx, e⟩
  · rintro ⟨x, hx, e⟩
    obtain ⟨t, ht⟩ := List.mem_iff_getElem?.1 hx
    have h1 := hc.is t x ht
    have h2 : ¬ t < i := fun h => by have := h1.2 h; omega
    rcases Nat.lt_or_ge i t with h3 | h3
    · have hl : i < L.length := by have := (List.getElem?_eq_some_iff.1 ht).1; omega
      have h4 := hc.is i _ (List.getElem?_eq_getElem hl)
      have h5 := hA.lt (List.getElem?_eq_getElem hl) ht h3
      have := h4.1 (by omega)
      omega
    · obtain rfl : i = t := by omega
      simp [there, ht, e]
theorem eq_of_num {L : List En} (hA : Asc L) {x y : En} (hx : x ∈ L) (hy : y ∈ L) (e : x.1 = y.1) : x = y := by
  obtain ⟨a, ha⟩ := List.mem_iff_getElem?.1 hx
  obtain ⟨b, hb⟩ := List.mem_iff_getElem?.1 hy
  rcases Nat.lt_trichotomy a b with h | h | h
  · have := hA.lt ha hb h; omega
  · subst h; rw [ha] at hb; exact Option.some.inj hb
  · have := hA.lt hb ha h; omega
/-- One more. -/
def ins (L : List En) (i : Nat) (x : En) : List En := L.take i ++ x :: L.drop i
theorem ins_len (L : List En) (i : Nat) (x : En) (h : i ≤ L.length) : (ins L i x).length = L.length + 1 := by simp [ins]; omega
theorem ins_mem {L : List En} {i : Nat} {x y : En} : y ∈ ins L i x ↔ y = x ∨ y ∈ L := by
  conv => rhs; rw [← List.take_append_drop i L]
  simp only [ins, List.mem_append, List.mem_cons]
  constructor
  · rintro (h | h | h)
    · exact .inr (.inl h)
    · exact .inl h
    · exact .inr (.inr h)
  · rintro (h | h | h)
    · exact .inr (.inl h)
    · exact .inl h
    · exact .inr (.inr h)
theorem Cut.take {L : List En} {id : Int} {i : Nat} (h : Cut L id i) (x : En) (hx : x ∈ L.take i) : x.1 < id := by
  obtain ⟨t, ht⟩ := List.mem_iff_getElem?.1 hx
  rw [List.getElem?_take] at ht
  split at ht
  · exact (h.is t x ht).2 ‹_›
  · cases ht
theorem Cut.drop {L : List En} {id : Int} {i : Nat} (h : Cut L id i) (x : En) (hx : x ∈ L.drop i) : id ≤ x.1 := by
  obtain ⟨t, ht⟩ := List.mem_iff_getElem?.1 hx
  rw [List.getElem?_drop] at ht
  have := (h.is (i + t) x ht)
  omega
theorem asc_ins {L : List En} {id : Int} {i : Nat} (hA : Asc L) (h : Cut L id i) (ht : there L id i = false) (n : Int) (b : Nat) : Asc (ins L i (id, n, b)) := by
  have hn : ∀ x ∈ L, x.1 ≠ id := fun x hx e => by
    have := (there_mem hA h).2 ⟨x, hx, e⟩
    rw [ht] at this
    cases this
  have hA' := hA
  unfold Asc at hA' ⊢
  rw [← List.take_append_drop i L, List.pairwise_append] at hA'
  unfold ins
  rw [List.pairwise_append, List.pairwise_cons]
  refine ⟨hA'.1, ⟨fun y hy => ?_, hA'.2.1⟩, fun x hx y hy => ?_⟩
  · have h1 := h.drop y hy
    have h2 := hn y (List.mem_of_mem_drop hy)
    show id < y.1
    omega
  · rcases List.mem_cons.1 hy with rfl | hy
    · exact h.take x hx
    · exact hA'.2.2 x hx y hy
/-- One that stands for another. -/
theorem asc_set {L : List En} {id : Int} {i : Nat} (hA : Asc L) {x : En} (hx : L[i]? = some x) (e : x.1 = id) (n : Int) (b : Nat) : Asc (L.set i (id, n, b)) := by
  unfold Asc
  rw [List.pairwise_iff_getElem]
  intro a c ha hc hac
  simp only [List.length_set] at ha hc
  have h1 : (L.set i (id, n, b))[a].1 = L[a].1 := by
    rw [List.getElem_set]
    split
    · rename_i h; subst h; obtain ⟨_, ex⟩ := List.getElem?_eq_some_iff.1 hx; rw [ex, e]
    · rfl
  have h2 : (L.set i (id, n, b))[c].1 = L[c].1 := by
    rw [List.getElem_set]
    split
    · rename_i h; subst h; obtain ⟨_, ex⟩ := List.getElem?_eq_some_iff.1 hx; rw [ex, e]
    · rfl
  rw [h1, h2]
  exact hA.lt (List.getElem?_eq_getElem ha) (List.getElem?_eq_getElem hc) hac
theorem set_mem {L : List En} {i : Nat} {x y z : En} (hA : Asc L) (hx : L[i]? = some x) : y ∈ L.set i z ↔ y = z ∨ (y ∈ L ∧ y.1 ≠ x.1) := by
  obtain ⟨hi, ex⟩ := List.getElem?_eq_some_iff.1 hx
  constructor
  · intro h
    obtain ⟨t, ht⟩ := List.mem_iff_getElem?.1 h
    rw [List.getElem?_set] at ht
    split at ht
    · first
        | exact .inl (Option.some.inj ht).symm
        | (split at ht
           · exact .inl (Option.some.inj ht).symm
           · cases ht)
    · rename_i hne
      refine .inr ⟨List.mem_of_getElem? ht, fun e => ?_⟩
      rcases Nat.lt_or_ge t i with h3 | h3
      · have := hA.lt ht hx h3; omega
      · have := hA.lt hx ht (by omega); omega
  · rintro (rfl | ⟨h, hne⟩)
    · exact List.mem_iff_getElem?.2 ⟨i, by rw [List.getElem?_set]; simp [hi]⟩
    · obtain ⟨t, ht⟩ := List.mem_iff_getElem?.1 h
      refine List.mem_iff_getElem?.2 ⟨t, ?_⟩
      rw [List.getElem?_set]
      split
      · rename_i h; subst h; rw [hx] at ht; exact absurd (by rw [Option.some.inj ht]) hne
      · exact ht
/-- One less. -/
theorem asc_del {L : List En} (hA : Asc L) (i : Nat) : Asc (L.eraseIdx i) := hA.sublist (List.eraseIdx_sublist L i)
theorem del_mem {L : List En} {i : Nat} {x y : En} (hA : Asc L) (hx : L[i]? = some x) : y ∈ L.eraseIdx i ↔ y ∈ L ∧ y.1 ≠ x.1 := by
  rw [List.mem_eraseIdx_iff_getElem?]
  constructor
  · rintro ⟨t, hne, ht⟩
    refine ⟨List.mem_of_getElem? ht, fun e => ?_⟩
    rcases Nat.lt_or_ge t i with h3 | h3
    · have := hA.lt ht hx h3; omega
    · have := hA.lt hx ht (by omega); omega
  · rintro ⟨h, hne⟩
    obtain ⟨t, ht⟩ := List.mem_iff_getElem?.1 h
    exact ⟨t, fun e => hne (by subst e; rw [hx] at ht; rw [Option.some.inj ht]), ht⟩
theorem del_eq (L : List En) (i : Nat) : L.eraseIdx i = L.take i ++ L.drop (i + 1) := List.eraseIdx_eq_take_drop_succ L i
end Go.Proofs.YtgdmbcfjjdngdaaDoor
