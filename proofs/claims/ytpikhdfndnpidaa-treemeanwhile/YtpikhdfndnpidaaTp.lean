/- Plain: trees of numbered boxes, levelled by depth; what putting in and taking out does to the list that they hold. -/
import Derived.Test.YtpikhdfndnpidaaTm
set_option linter.unusedSimpArgs false
set_option linter.unusedVariables false
namespace Go.Proofs.Ytpikhdfndnpidaa
open Go.RowKit Go.Sort

abbrev E := Int × Q4
/-- Trees: the library's own, whose first number is left as it is. -/
abbrev PT := Std.DTreeMap.Internal.Impl Int (fun _ => Q4)
namespace PT
abbrev nil : PT := .leaf
abbrev nd (i : Int) (q : Q4) (l h : PT) : PT := .inner 0 i q l h
theorem ind {motive : PT → Prop} (nil : motive nil) (nd : ∀ (s : Nat) (i : Int) (q : Q4) (l h : PT), motive l → motive h → motive (.inner s i q l h)) (t : PT) : motive t := by
  induction t with
  | leaf => exact nil
  | inner s i q l h h1 h2 => exact nd s i q l h h1 h2
theorem cas {motive : PT → Prop} (nil : motive nil) (nd : ∀ (s : Nat) (i : Int) (q : Q4) (l h : PT), motive (.inner s i q l h)) (t : PT) : motive t := by
  cases t with
  | leaf => exact nil
  | inner s i q l h => exact nd s i q l h
def isNil : PT → Bool
  | .leaf => true
  | .inner _ _ _ _ _ => false
def dep : PT → Nat
  | .leaf => 0
  | .inner _ _ _ l h => 1 + max (dep l) (dep h)
def toL : PT → List E
  | .leaf => []
  | .inner _ i q l h => toL l ++ (i, q) :: toL h
def ar : PT → Q4
  | .leaf => (0, 0, 0, 0)
  | .inner _ _ q l h => if isNil h then (if isNil l then q else joinQ q (ar l)) else joinQ (if isNil l then q else joinQ q (ar l)) (ar h)
def fromLow (i : Int) (q : Q4) (l h : PT) : PT := match l with
  | .leaf => nd i q l h
  | .inner _ li lq ll lh => if dep ll < dep lh then (match lh with
      | .leaf => nd i q l h
      | .inner _ mi mq ml mh => nd mi mq (nd li lq ll ml) (nd i q mh h)) else nd li lq ll (nd i q lh h)
def fromHigh (i : Int) (q : Q4) (l h : PT) : PT := match h with
  | .leaf => nd i q l h
  | .inner _ hi hq hl hh => if dep hh < dep hl then (match hl with
      | .leaf => nd i q l h
      | .inner _ mi mq ml mh => nd mi mq (nd i q l ml) (nd hi hq mh hh)) else nd hi hq (nd i q l hl) hh
def level (i : Int) (q : Q4) (l h : PT) : PT := if h.dep + 1 < l.dep then fromLow i q l h else if l.dep + 1 < h.dep then fromHigh i q l h else nd i q l h
def ins (i : Int) (q : Q4) : PT → PT
  | .leaf => nd i q nil nil
  | .inner _ j r l h => if i < j then level j r (ins i q l) h else level j r l (ins i q h)
/-- The node of the least number. -/
def first : PT → E
  | .leaf => (0, (0, 0, 0, 0))
  | .inner _ i q l _ => if isNil l then (i, q) else first l
def del (t : PT) (k : Int) : PT := match t with
  | .leaf => nil
  | .inner _ j r l h => if k < j then level j r (del l k) h else if j < k then level j r l (del h k) else if isNil h then l else level (first h).1 (first h).2 l (del h (first h).1)
def find (t : PT) (k : Int) : PT := match t with
  | .leaf => nil
  | .inner _ j r l h => if j = k then nd j r l h else if k < j then find l k else find h k
theorem isNil_iff {t : PT} : t.isNil = true ↔ t = nil := by cases t using PT.cas <;> simp [isNil]
theorem toL_fromLow (i : Int) (q : Q4) (l h : PT) : (fromLow i q l h).toL = l.toL ++ (i, q) :: h.toL := by
  unfold fromLow
  split
  · rfl
  · split
    · split <;> simp [toL]
    · simp [toL]
theorem toL_fromHigh (i : Int) (q : Q4) (l h : PT) : (fromHigh i q l h).toL = l.toL ++ (i, q) :: h.toL := by
  unfold fromHigh
  split
  · rfl
  · split
    · split <;> simp [toL]
    · simp [toL]
theorem toL_level (i : Int) (q : Q4) (l h : PT) : (level i q l h).toL = l.toL ++ (i, q) :: h.toL := by
  unfold level
  split
  · exact toL_fromLow ..
  · split
    · exact toL_fromHigh ..
    · rfl
theorem dep_pos {t : PT} (h : t.isNil = false) : 0 < t.dep := by
  cases t using PT.cas with
  | nil => cases h
  | nd => simp [dep]; omega
theorem dep_zero {t : PT} : t.dep = 0 ↔ t.toL = [] := by
  cases t using PT.cas with
  | nil => simp [dep, toL]
  | nd => simp [dep, toL]
theorem dep_le (t : PT) : t.dep ≤ t.toL.length := by
  induction t using PT.ind with
  | nil => simp [dep]
  | nd s0 i q l h h1 h2 => simp [dep, toL]; omega
/-! ### Balance -/
def Bal : PT → Prop
  | .leaf => True
  | .inner _ _ _ l h => Bal l ∧ Bal h ∧ dep l ≤ dep h + 1 ∧ dep h ≤ dep l + 1
theorem bal_low {i : Int} {q : Q4} {l h : PT} (hl : Bal l) (hh : Bal h) (e : l.dep = h.dep + 2) : Bal (fromLow i q l h) ∧ l.dep ≤ (fromLow i q l h).dep ∧ (fromLow i q l h).dep ≤ l.dep + 1 := by
  cases l using PT.cas with
  | nil => simp [dep] at e
  | nd s0 li lq ll lh =>
    obtain ⟨b1, b2, b3, b4⟩ := hl
    simp only [dep] at e
    by_cases c : ll.dep < lh.dep
    · cases lh using PT.cas with
      | nil => simp [dep] at c
      | nd s0 mi mq ml mh =>
        obtain ⟨d1, d2, d3, d4⟩ := b2
        simp only [fromLow, if_pos c]
        simp only [dep] at *
        refine ⟨⟨⟨b1, d1, ?_, ?_⟩, ⟨d2, hh, ?_, ?_⟩, ?_, ?_⟩, ?_, ?_⟩ <;> (try simp only [dep]) <;> omega
    · simp only [fromLow, if_neg c]
      simp only [dep] at *
      refine ⟨⟨b1, ⟨b2, hh, ?_, ?_⟩, ?_, ?_⟩, ?_, ?_⟩ <;> (try simp only [dep]) <;> omega
theorem bal_high {i : Int} {q : Q4} {l h : PT} (hl : Bal l) (hh : Bal h) (e : h.dep = l.dep + 2) : Bal (fromHigh i q l h) ∧ h.dep ≤ (fromHigh i q l h).dep ∧ (fromHigh i q l h).dep ≤ h.dep + 1 := by
  cases h using PT.cas with
  | nil => simp [dep] at e
  | nd s0 li lq ll lh =>
    obtain ⟨b1, b2, b3, b4⟩ := hh
    simp only [dep] at e
    by_cases c : lh.dep < ll.dep
    · cases ll using PT.cas with
      | nil => simp [dep] at c
      | nd s0 mi mq ml mh =>
        obtain ⟨d1, d2, d3, d4⟩ := b1
        simp only [fromHigh, if_pos c]
        simp only [dep] at *
        refine ⟨⟨⟨hl, d1, ?_, ?_⟩, ⟨d2, b2, ?_, ?_⟩, ?_, ?_⟩, ?_, ?_⟩ <;> (try simp only [dep]) <;> omega
    · simp only [fromHigh, if_neg c]
      simp only [dep] at *
      refine ⟨⟨⟨hl, b1, ?_, ?_⟩, b2, ?_, ?_⟩, ?_, ?_⟩ <;> (try simp only [dep]) <;> omega
theorem bal_level {i : Int} {q : Q4} {l h : PT} (hl : Bal l) (hh : Bal h) (e1 : l.dep ≤ h.dep + 2) (e2 : h.dep ≤ l.dep + 2) :
    Bal (level i q l h) ∧ max l.dep h.dep ≤ (level i q l h).dep ∧ (level i q l h).dep ≤ max l.dep h.dep + 1 ∧ (l.dep ≤ h.dep + 1 → h.dep ≤ l.dep + 1 → (level i q l h).dep = max l.dep h.dep + 1) := by
  unfold level
  by_cases c1 : h.dep + 1 < l.dep
  · rw [if_pos c1]
    have := bal_low (i := i) (q := q) hl hh (by omega)
    exact ⟨this.1, by omega, by omega, by omega⟩
  · rw [if_neg c1]
    by_cases c2 : l.dep + 1 < h.dep
    · rw [if_pos c2]
      have := bal_high (i := i) (q := q) hl hh (by omega)
      exact ⟨this.1, by omega, by omega, by omega⟩
    · rw [if_neg c2]
      refine ⟨⟨hl, hh, by omega, by omega⟩, ?_, ?_, ?_⟩ <;> simp only [dep] <;> omega
theorem bal_ins (i : Int) (q : Q4) (t : PT) (h : Bal t) : Bal (ins i q t) ∧ t.dep ≤ (ins i q t).dep ∧ (ins i q t).dep ≤ t.dep + 1 := by
  induction t using PT.ind with
  | nil => simp [ins, Bal, dep]
  | nd s0 j r l hh ih1 ih2 =>
    obtain ⟨b1, b2, b3, b4⟩ := h
    have i1 := ih1 b1
    have i2 := ih2 b2
    simp only [ins]
    split
    · have := bal_level (i := j) (q := r) i1.1 b2 (by omega) (by omega)
      refine ⟨this.1, ?_, ?_⟩ <;> simp only [dep] <;> omega
    · have := bal_level (i := j) (q := r) b1 i2.1 (by omega) (by omega)
      refine ⟨this.1, ?_, ?_⟩ <;> simp only [dep] <;> omega
theorem bal_del (t : PT) (h : Bal t) : ∀ k, Bal (t.del k) ∧ t.dep ≤ (t.del k).dep + 1 ∧ (t.del k).dep ≤ t.dep := by
  induction t using PT.ind with
  | nil => intro k; simp [del, Bal, dep]
  | nd s0 j r l hh ih1 ih2 =>
    intro k
    obtain ⟨b1, b2, b3, b4⟩ := h
    have i1 := ih1 b1
    have i2 := ih2 b2
    simp only [del]
    split
    · have x := i1 k
      have := bal_level (i := j) (q := r) x.1 b2 (by omega) (by omega)
      refine ⟨this.1, ?_, ?_⟩ <;> simp only [dep] <;> omega
    · split
      · have x := i2 k
        have := bal_level (i := j) (q := r) b1 x.1 (by omega) (by omega)
        refine ⟨this.1, ?_, ?_⟩ <;> simp only [dep] <;> omega
      · split
        · rename_i hn
          rw [isNil_iff] at hn
          subst hn
          refine ⟨b1, ?_, ?_⟩ <;> simp only [dep] at * <;> omega
        · have x := i2 hh.first.1
          have := bal_level (i := hh.first.1) (q := hh.first.2) b1 x.1 (by omega) (by omega)
          refine ⟨this.1, ?_, ?_⟩ <;> simp only [dep] <;> omega
theorem bal_size (t : PT) (h : Bal t) : 2 ^ ((t.dep + 1) / 2) ≤ t.toL.length + 1 := by
  induction t using PT.ind with
  | nil => simp [dep, toL]
  | nd s0 j r l hh ih1 ih2 =>
    obtain ⟨b1, b2, b3, b4⟩ := h
    have i1 := ih1 b1
    have i2 := ih2 b2
    simp only [dep, toL, List.length_append, List.length_cons]
    have key : ∀ m, 2 ^ ((m + 1) / 2) * 2 = 2 ^ ((m + 2 + 1) / 2) := fun m => by
      rw [← Nat.pow_succ]; congr 1; omega
    by_cases c : max l.dep hh.dep = 0
    · have : l.dep = 0 ∧ hh.dep = 0 := by omega
      rw [this.1, this.2]
      simp
      omega
    · obtain ⟨m, hm⟩ : ∃ m, max l.dep hh.dep = m + 1 := ⟨max l.dep hh.dep - 1, by omega⟩
      rw [hm, show 1 + (m + 1) + 1 = m + 2 + 1 by omega, ← key]
      have p1 : 2 ^ ((m + 1) / 2) ≤ 2 ^ ((l.dep + 1) / 2) := Nat.pow_le_pow_right (by omega) (by omega)
      have p2 : 2 ^ ((m + 1) / 2) ≤ 2 ^ ((hh.dep + 1) / 2) := Nat.pow_le_pow_right (by omega) (by omega)
      omega
/-! ### The list -/
def Srt (l : List E) : Prop := l.Pairwise (fun a b => a.1 < b.1)
end PT
def insL (i : Int) (q : Q4) : List E → List E
  | [] => [(i, q)]
  | x :: xs => if i < x.1 then (i, q) :: x :: xs else x :: insL i q xs
theorem insL_low (i : Int) (q : Q4) (j : Int) (r : Q4) (B : List E) (h : i < j) : ∀ A : List E, insL i q (A ++ (j, r) :: B) = insL i q A ++ (j, r) :: B
  | [] => by simp [insL, h]
  | x :: A => by
    simp only [List.cons_append, insL]
    split
    · simp
    · simp [insL_low i q j r B h A]
theorem insL_high (i : Int) (q : Q4) (j : Int) (r : Q4) (B : List E) (h : j ≤ i) : ∀ A : List E, (∀ x ∈ A, x.1 < j) → insL i q (A ++ (j, r) :: B) = A ++ (j, r) :: insL i q B
  | [], _ => by simp [insL, show ¬ i < j by omega]
  | x :: A, hA => by
    have := hA x (by simp)
    simp [insL, show ¬ i < x.1 by omega, insL_high i q j r B h A (fun y hy => hA y (by simp [hy]))]
namespace PT
theorem srt_parts {i : Int} {q : Q4} {l h : PT} (s : Srt (nd i q l h).toL) : Srt l.toL ∧ Srt h.toL ∧ (∀ x ∈ l.toL, x.1 < i) ∧ (∀ x ∈ h.toL, i < x.1) := by
  simp only [Srt, toL, List.pairwise_append, List.pairwise_cons] at s
  exact ⟨s.1, s.2.1.2, fun x hx => s.2.2 x hx (i, q) (by simp), s.2.1.1⟩
theorem toL_ins (i : Int) (q : Q4) (t : PT) (s : Srt t.toL) : (ins i q t).toL = insL i q t.toL := by
  induction t using PT.ind with
  | nil => rfl
  | nd s0 j r l h ih1 ih2 =>
    obtain ⟨s1, s2, s3, s4⟩ := srt_parts s
    simp only [ins]
    split
    · rename_i c
      rw [toL_level, ih1 s1]
      simp only [toL]
      rw [insL_low i q j r _ c]
    · rename_i c
      rw [toL_level, ih2 s2]
      simp only [toL]
      rw [insL_high i q j r _ (by omega) _ s3]
theorem mem_insL {i : Int} {q : Q4} {x : E} : ∀ {A : List E}, x ∈ insL i q A ↔ x = (i, q) ∨ x ∈ A
  | [] => by simp [insL]
  | y :: A => by
    simp only [insL]
    split
    · simp
    · simp only [List.mem_cons, mem_insL]
      constructor
      · rintro (h | h | h)
        · exact .inr (.inl h)
        · exact .inl h
        · exact .inr (.inr h)
      · rintro (h | h | h)
        · exact .inr (.inl h)
        · exact .inl h
        · exact .inr (.inr h)
theorem length_insL (i : Int) (q : Q4) : ∀ A : List E, (insL i q A).length = A.length + 1
  | [] => rfl
  | y :: A => by
    simp only [insL]
    split
    · simp
    · simp [length_insL i q A]
theorem srt_insL (i : Int) (q : Q4) : ∀ A : List E, Srt A → (∀ x ∈ A, x.1 ≠ i) → Srt (insL i q A)
  | [], _, _ => by simp [insL, Srt]
  | y :: A, s, hn => by
    have s' := List.pairwise_cons.1 s
    have hy := hn y (by simp)
    simp only [insL]
    split
    · rename_i c
      refine List.pairwise_cons.2 ⟨fun x hx => ?_, s⟩
      rcases List.mem_cons.1 hx with rfl | hx
      · exact c
      · have := s'.1 x hx; exact Int.lt_trans c this
    · rename_i c
      refine List.pairwise_cons.2 ⟨fun x hx => ?_, srt_insL i q A s'.2 (fun x hx => hn x (by simp [hx]))⟩
      rcases mem_insL.1 hx with rfl | hx
      · show y.1 < i; omega
      · exact s'.1 x hx
theorem first_toL (t : PT) (h : t.isNil = false) : ∃ rest, t.toL = t.first :: rest := by
  induction t using PT.ind with
  | nil => cases h
  | nd s0 i q l hh ih1 ih2 =>
    simp only [first, toL]
    by_cases c : l.isNil = true
    · rw [if_pos c]
      rw [isNil_iff] at c
      subst c
      exact ⟨hh.toL, rfl⟩
    · rw [if_neg c]
      obtain ⟨rest, hr⟩ := ih1 (by simpa using c)
      exact ⟨rest ++ (i, q) :: hh.toL, by rw [hr]; rfl⟩
def rmv (k : Int) (A : List E) : List E := A.filter (fun x => x.1 != k)
theorem rmv_none {k : Int} {A : List E} (h : ∀ x ∈ A, x.1 ≠ k) : rmv k A = A := by
  unfold rmv
  rw [List.filter_eq_self]
  intro x hx
  simpa using h x hx
theorem toL_del (t : PT) (s : Srt t.toL) : ∀ k, (t.del k).toL = rmv k t.toL := by
  induction t using PT.ind with
  | nil => intro k; rfl
  | nd s0 j r l h ih1 ih2 =>
    intro k
    obtain ⟨s1, s2, s3, s4⟩ := srt_parts s
    have ap : ∀ k, rmv k (toL (.inner s0 j r l h)) = rmv k l.toL ++ (if j != k then [(j, r)] else []) ++ rmv k h.toL := fun k => by
      simp only [rmv, toL, List.filter_append, List.filter_cons]
      by_cases c : (j != k) = true <;> simp [c]
    rw [ap]
    simp only [del]
    split
    · rename_i c
      rw [toL_level, ih1 s1 k, if_pos (by simp; omega), rmv_none (A := h.toL) (fun x hx => by have := s4 x hx; omega)]
      simp
    · split
      · rename_i c
        rw [toL_level, ih2 s2 k, if_pos (by simp; omega), rmv_none (A := l.toL) (fun x hx => by have := s3 x hx; omega)]
        simp
      · have e : j = k := by omega
        subst e
        have e0 : (if (j != j) = true then [(j, r)] else []) = ([] : List E) := by simp
        rw [e0, rmv_none (A := l.toL) (fun x hx => by have := s3 x hx; omega), rmv_none (A := h.toL) (fun x hx => by have := s4 x hx; omega)]
        split
        · rename_i hn
          rw [isNil_iff] at hn
          subst hn
          simp [toL]
        · rename_i hn
          obtain ⟨rest, hr⟩ := first_toL h (by simpa using hn)
          rw [toL_level, ih2 s2]
          rw [hr] at s2 ⊢
          have s2' := List.pairwise_cons.1 s2
          have : rmv h.first.1 (h.first :: rest) = rest := by
            simp only [rmv, List.filter_cons]
            rw [if_neg (by simp)]
            exact rmv_none (fun x hx => by have := s2'.1 x hx; omega)
          rw [this]
          simp
theorem find_some {t : PT} {k : Int} (s : Srt t.toL) : (t.find k).isNil = false → ∃ q l h, t.find k = nd k q l h ∧ (k, q) ∈ t.toL := by
  induction t using PT.ind with
  | nil => intro h; cases h
  | nd s0 j r l h ih1 ih2 =>
    obtain ⟨s1, s2, s3, s4⟩ := srt_parts s
    simp only [find]
    split
    · rename_i c
      subst c
      intro _
      exact ⟨r, l, h, rfl, by simp [toL]⟩
    · split
      · intro hh
        obtain ⟨q, l', h', e, m⟩ := ih1 s1 hh
        exact ⟨q, l', h', e, by simp [toL, m]⟩
      · intro hh
        obtain ⟨q, l', h', e, m⟩ := ih2 s2 hh
        exact ⟨q, l', h', e, by simp [toL, m]⟩
theorem find_none {t : PT} {k : Int} (s : Srt t.toL) : (t.find k).isNil = true → ∀ x ∈ t.toL, x.1 ≠ k := by
  induction t using PT.ind with
  | nil => intro _ x hx; cases hx
  | nd s0 j r l h ih1 ih2 =>
    obtain ⟨s1, s2, s3, s4⟩ := srt_parts s
    simp only [find]
    split
    · intro hh; cases hh
    · rename_i c
      split
      · rename_i c2
        intro hh x hx
        simp only [toL, List.mem_append, List.mem_cons] at hx
        rcases hx with hx | rfl | hx
        · exact ih1 s1 hh x hx
        · exact c
        · have := s4 x hx; omega
      · rename_i c2
        intro hh x hx
        simp only [toL, List.mem_append, List.mem_cons] at hx
        rcases hx with hx | rfl | hx
        · have := s3 x hx; omega
        · exact c
        · exact ih2 s2 hh x hx
/-! ### Boxes -/
def Rg (t : PT) : Prop := ∀ x ∈ t.toL, rgQ x.2 = true
theorem rg_parts {i : Int} {q : Q4} {l h : PT} : Rg (nd i q l h) ↔ rgQ q = true ∧ Rg l ∧ Rg h := by
  simp only [Rg, toL, List.mem_append, List.mem_cons]
  constructor
  · intro s
    exact ⟨s (i, q) (.inr (.inl rfl)), fun x hx => s x (.inl hx), fun x hx => s x (.inr (.inr hx))⟩
  · rintro ⟨a, b, c⟩ x (hx | rfl | hx)
    · exact b x hx
    · exact a
    · exact c x hx
theorem rg_ins {i : Int} {q : Q4} {t : PT} (s : Srt t.toL) (h : Rg t) (hq : rgQ q = true) : Rg (ins i q t) := by
  intro x hx
  rw [toL_ins i q t s] at hx
  rcases mem_insL.1 hx with rfl | hx
  · exact hq
  · exact h x hx
/-- p's box has q's within it. -/
def Has (p q : Q4) : Prop := p.1 ≤ q.1 ∧ p.2.1 ≤ q.2.1 ∧ q.2.2.1 ≤ p.2.2.1 ∧ q.2.2.2 ≤ p.2.2.2
theorem rgQ_iff {q : Q4} : rgQ q = true ↔ q.1 ≤ q.2.2.1 ∧ q.2.1 ≤ q.2.2.2 := by simp [rgQ, rgB]
theorem has_join {p q : Q4} : Has (joinQ p q) p ∧ Has (joinQ p q) q := by
  unfold Has joinQ minI maxI
  dsimp only
  refine ⟨⟨?_, ?_, ?_, ?_⟩, ?_, ?_, ?_, ?_⟩ <;> split <;> omega
theorem rg_join {p q : Q4} (h : rgQ p = true) : rgQ (joinQ p q) = true := by
  rw [rgQ_iff] at *
  obtain ⟨a, b⟩ := has_join (p := p) (q := q)
  unfold Has at *
  omega
theorem Has.trans {p q r : Q4} (h : Has p q) (k : Has q r) : Has p r := by unfold Has at *; omega
theorem Has.refl (p : Q4) : Has p p := by unfold Has; omega
theorem has_meet {p q b : Q4} (h : Has p q) (m : meetQ q b = true) : meetQ p b = true := by
  unfold meetQ meetB rgB maxI minI Has at *
  simp only [Bool.and_eq_true, decide_eq_true_eq] at *
  obtain ⟨m1, m2⟩ := m
  constructor
  · split at m1 <;> split at m1 <;> split <;> split <;> omega
  · split at m2 <;> split at m2 <;> split <;> split <;> omega
theorem ar_nd (i : Int) (q : Q4) (l h : PT) : Has (nd i q l h).ar q ∧ (l.isNil = false → Has (nd i q l h).ar l.ar) ∧ (h.isNil = false → Has (nd i q l h).ar h.ar) := by
  simp only [ar]
  by_cases c1 : l.isNil = true <;> by_cases c2 : h.isNil = true
  · simp [c1, c2, Has.refl]
  · simp only [c1, c2, if_true, if_false]
    refine ⟨has_join.1, ?_, fun _ => has_join.2⟩
    intro h; cases h
  · simp only [c1, c2, if_true, if_false]
    refine ⟨has_join.1, fun _ => has_join.2, ?_⟩
    intro h; cases h
  · simp only [c1, c2, if_false]
    exact ⟨has_join.1.trans has_join.1, fun _ => has_join.1.trans has_join.2, fun _ => has_join.2⟩
theorem ar_has (t : PT) : ∀ x ∈ t.toL, Has t.ar x.2 := by
  induction t using PT.ind with
  | nil => intro x hx; cases hx
  | nd s0 i q l h ih1 ih2 =>
    intro x hx
    obtain ⟨a1, a2, a3⟩ := ar_nd i q l h
    have nn : ∀ {t : PT}, x ∈ t.toL → t.isNil = false := fun {t} hx => by cases t using PT.cas with
      | nil => cases hx
      | nd => rfl
    simp only [toL, List.mem_append, List.mem_cons] at hx
    rcases hx with hx | rfl | hx
    · exact (a2 (nn hx)).trans (ih1 x hx)
    · exact a1
    · exact (a3 (nn hx)).trans (ih2 x hx)
theorem ar_rg {t : PT} (h : Rg t) (hn : t.isNil = false) : rgQ t.ar = true := by
  cases t using PT.cas with
  | nil => cases hn
  | nd s0 i q l hh =>
    have h1 : Has (ar (.inner s0 i q l hh)) q := (ar_nd i q l hh).1
    have h2 := (rg_parts.1 h).1
    rw [rgQ_iff] at *
    unfold Has at h1
    omega
/-- What a walk tells that passes over the parts whose box is not wanted. -/
def tell (f : Q4 → Bool) : PT → List E
  | .leaf => []
  | .inner _ i q l h => if f (ar (nd i q l h)) then tell f l ++ ((if f q then [(i, q)] else []) ++ tell f h) else []
theorem tell_eq (f : Q4 → Bool) (hf : ∀ p q, Has p q → f q = true → f p = true) (t : PT) : t.tell f = t.toL.filter (fun x => f x.2) := by
  induction t using PT.ind with
  | nil => rfl
  | nd s0 i q l h ih1 ih2 =>
    have H := ar_has (nd i q l h)
    simp only [tell]
    by_cases c : f (nd i q l h).ar = true
    · rw [if_pos c, ih1, ih2]
      simp only [toL, List.filter_append, List.filter_cons]
      by_cases c2 : f q = true <;> simp [c2]
    · rw [if_neg c]
      symm
      rw [List.filter_eq_nil_iff]
      intro x hx hc
      exact c (hf _ _ (H x hx) hc)
end PT
end Go.Proofs.Ytpikhdfndnpidaa
