/- Plain: a heap with a hole, on the way up and down. -/
import Derived.Test.YtaapdkjmlplhgaaPl
set_option linter.unusedSimpArgs false
namespace Go.Proofs.Ytaapdkjmlplhgaa
open Go.RowKit Go.Sort

def par (i : Nat) : Nat := (i - 1) / 2
abbrev nth (l : List Du) (i : Nat) : Du := l.getD i (0, 0, 0)
theorem nth_set (l : List Du) (i j : Nat) (x : Du) (hi : i < l.length) : nth (l.set i x) j = if i = j then x else nth l j := by
  unfold nth
  simp only [List.getD, List.getElem?_set]
  split
  · simp [hi]
  · rfl
/-- Nothing comes ahead of the one above it. -/
def HeapL (l : List Du) : Prop := ∀ j, 0 < j → j < l.length → ltD (nth l j) (nth l (par j)) = false
/-- The same but for a hole at place i. -/
def HoleL (l : List Du) (i : Nat) : Prop :=
  (∀ j, 0 < j → j < l.length → j ≠ i → par j ≠ i → ltD (nth l j) (nth l (par j)) = false) ∧
  (0 < i → ∀ j, 0 < j → j < l.length → par j = i → ltD (nth l j) (nth l (par i)) = false)
theorem HeapL.hole {l : List Du} (h : HeapL l) (i : Nat) : HoleL l i := by
  refine ⟨fun j h0 h1 _ _ => h j h0 h1, fun hi j h0 h1 hp => ?_⟩
  have a := h j h0 h1
  rw [hp] at a
  have : i < l.length := by unfold par at hp; omega
  exact nlt_tr a (h i hi this)
theorem HeapL.min {l : List Du} (h : HeapL l) : ∀ j, j < l.length → ltD (nth l j) (nth l 0) = false := by
  intro j
  induction j using Nat.strongRecOn with
  | _ j ih =>
    intro hj
    by_cases h0 : j = 0
    · subst h0; exact lt_irr _
    · have hp : par j < j := by unfold par; omega
      exact nlt_tr (h j (by omega) hj) (ih (par j) hp (by omega))
theorem hole_up {l : List Du} {i : Nat} (h : HoleL l i) (h0 : 0 < i) (hi : i < l.length) : HoleL (l.set i (nth l (par i))) (par i) := by
  have hp : par i < i := by unfold par; omega
  refine ⟨fun j j0 j1 jn jp => ?_, fun p0 j j0 j1 jp => ?_⟩
  · rw [List.length_set] at j1
    rw [nth_set _ _ _ _ hi, nth_set _ _ _ _ hi]
    have hij : i ≠ j := fun e => jp (by rw [e])
    rw [if_neg hij]
    by_cases e : i = par j
    · rw [if_pos e]
      exact h.2 h0 j j0 j1 e.symm
    · rw [if_neg e]
      exact h.1 j j0 j1 (Ne.symm hij) (Ne.symm e)
  · rw [List.length_set] at j1
    have hpp : par (par i) < par i := by unfold par at *; omega
    rw [nth_set _ _ _ _ hi, nth_set _ _ _ _ hi, if_neg (show i ≠ par (par i) by omega)]
    have b := h.1 (par i) p0 (by omega) (by omega) (by omega)
    by_cases e : i = j
    · rw [if_pos e]
      exact b
    · rw [if_neg e]
      have a := h.1 j j0 j1 (Ne.symm e) (by omega)
      rw [jp] at a
      exact nlt_tr a b
theorem hole_down {l : List Du} {i d : Nat} (h : HoleL l i) (hi : i < l.length) (hd : d < l.length) (d0 : 0 < d) (dp : par d = i) (hm : ∀ c, 0 < c → c < l.length → par c = i → ltD (nth l c) (nth l d) = false) :
    HoleL (l.set i (nth l d)) d := by
  have hid : i < d := by unfold par at dp; omega
  refine ⟨fun j j0 j1 jn jp => ?_, fun _ j j0 j1 jp => ?_⟩
  · rw [List.length_set] at j1
    rw [nth_set _ _ _ _ hi, nth_set _ _ _ _ hi]
    by_cases e : i = j
    · subst e
      have : i ≠ par i := by unfold par; omega
      rw [if_pos rfl, if_neg this]
      exact h.2 j0 d d0 hd dp
    · rw [if_neg e]
      by_cases e2 : i = par j
      · rw [if_pos e2]
        exact hm j j0 j1 e2.symm
      · rw [if_neg e2]
        exact h.1 j j0 j1 (Ne.symm e) (Ne.symm e2)
  · rw [List.length_set] at j1
    have hj : d < j := by unfold par at jp; omega
    rw [nth_set _ _ _ _ hi, nth_set _ _ _ _ hi, if_neg (show i ≠ j by omega), if_pos dp.symm]
    have a := h.1 j j0 j1 (by omega) (by omega)
    rw [jp] at a
    exact a
theorem hole_end {l : List Du} {i : Nat} {v : Du} (h : HoleL l i) (hi : i < l.length) (hu : i = 0 ∨ ltD v (nth l (par i)) = false) (hd : ∀ c, 0 < c → c < l.length → par c = i → ltD (nth l c) v = false) :
    HeapL (l.set i v) := by
  intro j j0 j1
  rw [List.length_set] at j1
  rw [nth_set _ _ _ _ hi, nth_set _ _ _ _ hi]
  by_cases e : i = j
  · subst e
    have : i ≠ par i := by unfold par; omega
    rw [if_pos rfl, if_neg this]
    exact hu.resolve_left (by omega)
  · rw [if_neg e]
    by_cases e2 : i = par j
    · rw [if_pos e2]
      exact hd j j0 j1 e2.symm
    · rw [if_neg e2]
      exact h.1 j j0 j1 (Ne.symm e) (Ne.symm e2)

/-- All but the hole: an element of the list l that stands elsewhere. -/
def Oth (l : List Du) (i : Nat) (x : Du) : Prop := ∃ j, j < l.length ∧ j ≠ i ∧ nth l j = x
theorem oth_move {l : List Du} {i p : Nat} (hi : i < l.length) (hp : p < l.length) (hne : p ≠ i) (x : Du) : Oth (l.set i (nth l p)) p x ↔ Oth l i x := by
  constructor
  · rintro ⟨j, j1, jn, e⟩
    rw [List.length_set] at j1
    rw [nth_set _ _ _ _ hi] at e
    by_cases h : i = j
    · rw [if_pos h] at e
      exact ⟨p, hp, hne, e⟩
    · rw [if_neg h] at e
      exact ⟨j, j1, Ne.symm h, e⟩
  · rintro ⟨j, j1, jn, e⟩
    by_cases h : j = p
    · subst h
      exact ⟨i, by rw [List.length_set]; exact hi, Ne.symm hne, by rw [nth_set _ _ _ _ hi, if_pos rfl]; exact e⟩
    · exact ⟨j, by rw [List.length_set]; exact j1, h, by rw [nth_set _ _ _ _ hi, if_neg (Ne.symm jn)]; exact e⟩
/-- The first of the two below place i. -/
def dn (l : List Du) (i : Nat) : Nat := if 2 * i + 1 + 1 < l.length ∧ ltD (l.getD (2 * i + 1 + 1) (0, 0, 0)) (l.getD (2 * i + 1) (0, 0, 0)) = true then 2 * i + 1 + 1 else 2 * i + 1
theorem dn_par (l : List Du) (i : Nat) : par (dn l i) = i ∧ 0 < dn l i ∧ i < dn l i := by
  unfold dn par
  split <;> omega
theorem dn_min {l : List Du} {i c : Nat} (h0 : 0 < c) (hc : c < l.length) (hp : par c = i) : dn l i < l.length ∧ ltD (nth l c) (nth l (dn l i)) = false := by
  have hcc : c = 2 * i + 1 ∨ c = 2 * i + 1 + 1 := by unfold par at hp; omega
  unfold dn
  split
  · rename_i h
    refine ⟨h.1, ?_⟩
    rcases hcc with rfl | rfl
    · exact lt_nlt h.2
    · exact lt_irr _
  · rename_i h
    rcases hcc with rfl | rfl
    · exact ⟨hc, lt_irr _⟩
    · refine ⟨by omega, ?_⟩
      cases hq : ltD (nth l (2 * i + 1 + 1)) (nth l (2 * i + 1)) with
      | false => rfl
      | true => exact absurd ⟨hc, hq⟩ h
abbrev Pf := Int × Int → Option Nat
def upd (m : Pf) (k : Int × Int) (v : Option Nat) : Pf := fun k' => if k' = k then v else m k'
/-- How a heap with a hole hangs together with the one that it was at first. -/
structure SI (l0 : List Du) (m0 : Pf) (i0 : Nat) (l : List Du) (m : Pf) (i : Nat) : Prop where
  len : l.length = l0.length
  lt : i < l0.length
  hole : HoleL l i
  oth : ∀ x, Oth l i x ↔ Oth l0 i0 x
  tie : ∀ j, j < l0.length → j ≠ i → m (nth l j).2 = some j
  keep : ∀ k, (∀ x, Oth l0 i0 x → x.2 ≠ k) → m k = m0 k
section
variable {l0 : List Du} {m0 : Pf} {i0 : Nat} {l : List Du} {m : Pf} {i : Nat}
theorem SI.move (S : SI l0 m0 i0 l m i) {p : Nat} (hp : p < l0.length) (hne : p ≠ i) (hh : HoleL (l.set i (nth l p)) p) : SI l0 m0 i0 (l.set i (nth l p)) (upd m (nth l p).2 (some i)) p := by
  have hl := S.len
  have hi : i < l.length := by have := S.lt; omega
  have hpm := S.tie p hp hne
  refine ⟨by rw [List.length_set]; exact hl, hp, hh, fun x => (oth_move hi (by omega) hne x).trans (S.oth x), fun j hj hjp => ?_, fun k hk => ?_⟩
  · rw [nth_set _ _ _ _ hi]
    by_cases e : i = j
    · rw [if_pos e]
      simp [upd, e]
    · rw [if_neg e]
      have hjm := S.tie j hj (Ne.symm e)
      have hk : (nth l j).2 ≠ (nth l p).2 := fun h => by
        rw [h, hpm] at hjm
        exact hjp (Option.some.inj hjm).symm
      simp only [upd, hk, if_false]
      exact hjm
  · have : k ≠ (nth l p).2 := fun e => hk (nth l p) ((S.oth _).1 ⟨p, by omega, hne, rfl⟩) e.symm
    simp only [upd, this, if_false]
    exact S.keep k hk
theorem SI.up (S : SI l0 m0 i0 l m i) (h0 : 0 < i) : SI l0 m0 i0 (l.set i (nth l (par i))) (upd m (nth l (par i)).2 (some i)) (par i) := by
  have h1 := S.lt
  have h2 := S.len
  have hp : par i < i := by unfold par; omega
  exact S.move (by omega) (by omega) (hole_up S.hole h0 (by omega))
theorem SI.down (S : SI l0 m0 i0 l m i) (hd : dn l i < l.length) : SI l0 m0 i0 (l.set i (nth l (dn l i))) (upd m (nth l (dn l i)).2 (some i)) (dn l i) := by
  have h1 := S.lt
  have h2 := S.len
  obtain ⟨p1, p2, p3⟩ := dn_par l i
  exact S.move (by omega) (by omega) (hole_down S.hole (by omega) hd p2 p1 (fun c c0 c1 cp => (dn_min c0 c1 cp).2))
/-- What settle has made of it. -/
structure Settled (l0 : List Du) (m0 : Pf) (i0 : Nat) (v : Du) (l : List Du) (m : Pf) : Prop where
  len : l.length = l0.length
  heap : HeapL l
  mem : ∀ x, x ∈ l ↔ x = v ∨ Oth l0 i0 x
  tie : ∀ j, j < l.length → m (nth l j).2 = some j
  keep : ∀ k, k ≠ v.2 → (∀ x, Oth l0 i0 x → x.2 ≠ k) → m k = m0 k
theorem mem_nth {l : List Du} {x : Du} : x ∈ l ↔ ∃ j, j < l.length ∧ nth l j = x := by
  rw [List.mem_iff_getElem]
  constructor
  · rintro ⟨j, h, e⟩
    exact ⟨j, h, by simp [nth, List.getD, List.getElem?_eq_getElem h, e]⟩
  · rintro ⟨j, h, e⟩
    exact ⟨j, h, by simpa [nth, List.getD, List.getElem?_eq_getElem h] using e⟩
theorem SI.done (S : SI l0 m0 i0 l m i) {v : Du} (hv : ∀ x, Oth l0 i0 x → x.2 ≠ v.2) (hu : i = 0 ∨ ltD v (nth l (par i)) = false) (hd : ¬ (dn l i < l.length ∧ ltD (nth l (dn l i)) v = true)) :
    Settled l0 m0 i0 v (l.set i v) (upd m v.2 (some i)) := by
  have hi : i < l.length := by have := S.lt; have := S.len; omega
  refine ⟨by rw [List.length_set]; exact S.len, hole_end S.hole hi hu (fun c c0 c1 cp => ?_), fun x => ?_, fun j hj => ?_, fun k hk ho => ?_⟩
  · obtain ⟨h1, h2⟩ := dn_min c0 c1 cp
    have h3 : ltD (nth l (dn l i)) v = false := by
      cases h : ltD (nth l (dn l i)) v with
      | false => rfl
      | true => exact absurd ⟨h1, h⟩ hd
    exact nlt_tr h2 h3
  · rw [mem_nth, ← S.oth x]
    constructor
    · rintro ⟨j, h1, h2⟩
      rw [List.length_set] at h1
      rw [nth_set _ _ _ _ hi] at h2
      by_cases e : i = j
      · rw [if_pos e] at h2; exact .inl h2.symm
      · rw [if_neg e] at h2; exact .inr ⟨j, h1, Ne.symm e, h2⟩
    · rintro (rfl | ⟨j, h1, h2, h3⟩)
      · exact ⟨i, by rw [List.length_set]; exact hi, by rw [nth_set _ _ _ _ hi, if_pos rfl]⟩
      · exact ⟨j, by rw [List.length_set]; exact h1, by rw [nth_set _ _ _ _ hi, if_neg (Ne.symm h2)]; exact h3⟩
  · rw [List.length_set] at hj
    rw [nth_set _ _ _ _ hi]
    by_cases e : i = j
    · rw [if_pos e]
      simp [upd, e]
    · rw [if_neg e]
      have : (nth l j).2 ≠ v.2 := hv _ ((S.oth _).1 ⟨j, hj, Ne.symm e, rfl⟩)
      simp only [upd, this, if_false]
      exact S.tie j (by rw [← S.len]; exact hj) (Ne.symm e)
  · simp only [upd, hk, if_false]
    exact S.keep k ho
end
end Go.Proofs.Ytaapdkjmlplhgaa
