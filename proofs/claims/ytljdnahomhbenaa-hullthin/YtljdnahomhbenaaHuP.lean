/- Plain: the lower half of a hull as the program goes (a stack), and what comes of it: every edge has all points at its left, on its line only between its ends. -/
import Init
namespace Go.Proofs.Ytljdnahomhbenaa
section
def cr (a b c : Int × Int) : Int := (b.1 - a.1) * (c.2 - a.2) - (b.2 - a.2) * (c.1 - a.1)
abbrev lx (p q : Int × Int) : Prop := p.1 < q.1 ∨ (p.1 = q.1 ∧ p.2 < q.2)

theorem tr_le (ux uy vx vy wx wy : Int) (hu : 0 < ux ∨ (ux = 0 ∧ 0 ≤ uy)) (hv : 0 < vx ∨ (vx = 0 ∧ 0 < vy)) (hw : 0 < wx ∨ (wx = 0 ∧ 0 ≤ wy))
    (h1 : 0 ≤ ux * vy - uy * vx) (h2 : 0 ≤ vx * wy - vy * wx) : 0 ≤ ux * wy - uy * wx := by
  have eX : (ux * wy - uy * wx) * vx = (ux * vy - uy * vx) * wx + (vx * wy - vy * wx) * ux := by grind
  rcases hv with hv | ⟨rfl, hv⟩
  · apply Int.not_lt.mp
    intro h
    have a := Int.mul_neg_of_neg_of_pos h hv
    have b := Int.mul_nonneg h1 (show 0 ≤ wx by omega)
    have c := Int.mul_nonneg h2 (show 0 ≤ ux by omega)
    omega
  · have hwx : wx = 0 := by
      rcases hw with hw | ⟨h, _⟩
      · have := Int.mul_pos hv hw; omega
      · exact h
    subst hwx
    have : 0 ≤ ux * wy := Int.mul_nonneg (by omega) (by omega)
    omega
theorem tr_lt1 (ux uy vx vy wx wy : Int) (hu : 0 < ux ∨ (ux = 0 ∧ 0 ≤ uy)) (hv : 0 < vx ∨ (vx = 0 ∧ 0 < vy)) (hw : 0 < wx ∨ (wx = 0 ∧ 0 < wy))
    (h1 : 0 < ux * vy - uy * vx) (h2 : 0 ≤ vx * wy - vy * wx) : 0 < ux * wy - uy * wx := by
  have eX : (ux * wy - uy * wx) * vx = (ux * vy - uy * vx) * wx + (vx * wy - vy * wx) * ux := by grind
  have hux : 0 < ux := by
    rcases hu with hu | ⟨rfl, hu⟩
    · exact hu
    · have : 0 ≤ uy * vx := Int.mul_nonneg hu (by omega)
      omega
  rcases hv with hv | ⟨rfl, hv⟩
  · rcases hw with hw | ⟨rfl, hw⟩
    · apply Int.not_le.mp
      intro h
      have a := Int.mul_nonpos_of_nonpos_of_nonneg h (Int.le_of_lt hv)
      have b := Int.mul_pos h1 hw
      have c := Int.mul_nonneg h2 (Int.le_of_lt hux)
      omega
    · have := Int.mul_pos hux hw
      omega
  · have hwx : wx = 0 := by
      rcases hw with hw | ⟨h, _⟩
      · have := Int.mul_pos hv hw; omega
      · exact h
    subst hwx
    have := Int.mul_pos hux (show 0 < wy by omega)
    omega
theorem tr_lt2 (ux uy vx vy wx wy : Int) (hu : 0 < ux ∨ (ux = 0 ∧ 0 < uy)) (hv : 0 < vx ∨ (vx = 0 ∧ 0 < vy)) (hw : 0 < wx ∨ (wx = 0 ∧ 0 ≤ wy))
    (h1 : 0 ≤ ux * vy - uy * vx) (h2 : 0 < vx * wy - vy * wx) : 0 < ux * wy - uy * wx := by
  have eX : (ux * wy - uy * wx) * vx = (ux * vy - uy * vx) * wx + (vx * wy - vy * wx) * ux := by grind
  rcases hv with hv | ⟨rfl, hv⟩
  · rcases hu with hu | ⟨rfl, hu⟩
    · apply Int.not_le.mp
      intro h
      have a := Int.mul_nonpos_of_nonpos_of_nonneg h (Int.le_of_lt hv)
      have b := Int.mul_nonneg h1 (show 0 ≤ wx by omega)
      have c := Int.mul_pos h2 hu
      omega
    · have := Int.mul_pos hu hv
      omega
  · rcases hw with hw | ⟨rfl, hw⟩
    · have := Int.mul_pos hv hw; omega
    · omega

/-- The stack, its top first, without those at which the way to a further point would not turn left. -/
def popS (q : Int × Int) : List (Int × Int) → List (Int × Int)
  | b :: a :: r => if cr a b q ≤ 0 then popS q (a :: r) else b :: a :: r
  | s => s
def pushS (s : List (Int × Int)) (q : Int × Int) : List (Int × Int) := q :: popS q s
def halfR (l : List (Int × Int)) : List (Int × Int) := l.foldl pushS []

/-- A point is covered by a way (its top first): it lies between the ends of an edge, not at its right. -/
def Cov : List (Int × Int) → Int × Int → Prop
  | [], _ => False
  | [c], p => p = c
  | b :: a :: r, p => (lx a p ∧ (p = b ∨ lx p b) ∧ 0 ≤ cr a b p) ∨ Cov (a :: r) p
def Cvx : List (Int × Int) → Prop
  | c :: b :: a :: r => 0 < cr a b c ∧ Cvx (b :: a :: r)
  | _ => True
abbrev Desc (s : List (Int × Int)) : Prop := s.Pairwise fun x y => lx y x

theorem lx_trans {a b c : Int × Int} (h : lx a b) (k : lx b c) : lx a c := by unfold lx at *; omega
theorem lx_irr {a : Int × Int} : ¬ lx a a := by unfold lx; omega
theorem lx_tri (a b : Int × Int) : lx a b ∨ a = b ∨ lx b a := by
  obtain ⟨a1, a2⟩ := a; obtain ⟨b1, b2⟩ := b
  simp only [lx, Prod.mk.injEq]; omega

theorem pop_suffix (q : Int × Int) : ∀ s, popS q s <:+ s
  | [] => by simp [popS]
  | [a] => by simp [popS]
  | b :: a :: r => by
    unfold popS
    split
    · exact (pop_suffix q (a :: r)).trans (List.suffix_cons _ _)
    · exact List.suffix_rfl
theorem pop_ne (q : Int × Int) : ∀ s, s ≠ [] → popS q s ≠ []
  | [], h => absurd rfl h
  | [a], _ => by simp [popS]
  | b :: a :: r, _ => by
    unfold popS
    split
    · exact pop_ne q (a :: r) (by simp)
    · simp
theorem pop_cvx (q : Int × Int) : ∀ s, Cvx s → Cvx (q :: popS q s)
  | [], _ => by simp [popS, Cvx]
  | [a], _ => by simp [popS, Cvx]
  | b :: a :: r, h => by
    unfold popS
    split
    · refine pop_cvx q (a :: r) ?_
      cases r with
      | nil => simp [Cvx]
      | cons x r => exact h.2
    · exact ⟨by omega, h⟩
theorem pop_cov (q : Int × Int) (p : Int × Int) : ∀ s, Desc (q :: s) → Cov (q :: s) p → Cov (q :: popS q s) p
  | [], _, h => by simpa [popS] using h
  | [a], _, h => by simpa [popS] using h
  | b :: a :: r, hd, h => by
    unfold popS
    split
    case isFalse => exact h
    case isTrue hc =>
      have hd' : Desc (q :: a :: r) := by
        simp only [Desc, List.pairwise_cons, List.mem_cons] at *
        grind
      have hbq : lx b q := by simp only [Desc, List.pairwise_cons, List.mem_cons] at hd; exact hd.1 b (Or.inl rfl)
      have haq : lx a q := by simp only [Desc, List.pairwise_cons, List.mem_cons] at hd; exact hd.1 a (Or.inr (Or.inl rfl))
      have hab : lx a b := by simp only [Desc, List.pairwise_cons, List.mem_cons] at hd; exact hd.2.1 a (Or.inl rfl)
      refine pop_cov q p (a :: r) hd' ?_
      rcases h with ⟨h1, h2, h3⟩ | ⟨h1, h2, h3⟩ | h
      · refine Or.inl ⟨lx_trans hab h1, h2, ?_⟩
        have := tr_le (q.1 - p.1) (q.2 - p.2) (q.1 - b.1) (q.2 - b.2) (q.1 - a.1) (q.2 - a.2) (by rcases h2 with rfl | h2 <;> (unfold lx at *; omega)) (by unfold lx at *; omega) (by unfold lx at *; omega)
          (by unfold cr at h3; grind) (by unfold cr at hc; grind)
        unfold cr; grind
      · refine Or.inl ⟨h1, Or.inr ?_, ?_⟩
        · rcases h2 with rfl | h2
          · exact hbq
          · exact lx_trans h2 hbq
        · have := tr_le (q.1 - a.1) (q.2 - a.2) (b.1 - a.1) (b.2 - a.2) (p.1 - a.1) (p.2 - a.2) (by unfold lx at *; omega) (by unfold lx at *; omega) (by unfold lx at *; omega)
            (by unfold cr at hc; grind) (by unfold cr at h3; grind)
          unfold cr; grind
      · exact Or.inr h

/-- What the stack is behind some points that stand in order. -/
structure Half (l s : List (Int × Int)) : Prop where
  desc : Desc s
  cvx : Cvx s
  cov : ∀ p ∈ l, Cov s p
  sub : ∀ c ∈ s, c ∈ l
  last : s.getLast? = l.head?
  head : s.head? = l.getLast?
theorem suffix_last {s t : List (Int × Int)} (h : s <:+ t) (hs : s ≠ []) : s.getLast? = t.getLast? := by
  obtain ⟨u, rfl⟩ := h
  cases e : s.getLast? with
  | none => simp at e; exact absurd e hs
  | some x => simp [e]
theorem half_push {l s : List (Int × Int)} {q : Int × Int} (h : Half l s) (hq : ∀ p ∈ l, lx p q) : Half (l ++ [q]) (pushS s q) := by
  have hdq : Desc (q :: s) := List.pairwise_cons.mpr ⟨fun c hc => hq c (h.sub c hc), h.desc⟩
  have hsuf := pop_suffix q s
  refine ⟨?_, pop_cvx q s h.cvx, ?_, ?_, ?_, by simp [pushS]⟩
  · exact List.pairwise_cons.mpr ⟨fun c hc => hq c (h.sub c (hsuf.subset hc)), h.desc.sublist hsuf.sublist⟩
  · intro p hp
    rcases List.mem_append.mp hp with hp | hp
    · refine pop_cov q p s hdq ?_
      have := h.cov p hp
      cases s with
      | nil => cases this
      | cons b r => exact Or.inr this
    · obtain rfl : p = q := by simpa using hp
      unfold pushS
      cases e : popS p s with
      | nil => rfl
      | cons a r =>
        have ha : a ∈ s := hsuf.subset (by rw [e]; simp)
        exact Or.inl ⟨hq a (h.sub a ha), Or.inl rfl, by unfold cr; grind⟩
  · intro c hc
    unfold pushS at hc
    rcases List.mem_cons.mp hc with rfl | hc
    · simp
    · exact List.mem_append.mpr (Or.inl (h.sub c (hsuf.subset hc)))
  · unfold pushS
    by_cases hs : s = []
    · subst hs
      have := h.last
      have hl : l = [] := by cases l with | nil => rfl | cons a r => simp at this
      subst hl
      simp [popS]
    · have hp := pop_ne q s hs
      have hl : l ≠ [] := by
        intro e; subst e
        have := h.last
        simp at this; exact hs this
      have e1 : (l ++ [q]).head? = l.head? := by cases l with | nil => exact absurd rfl hl | cons a r => rfl
      rw [e1, ← h.last, ← suffix_last hsuf hp, List.getLast?_cons]
      cases e : (popS q s).getLast? with
      | none => simp at e; exact absurd e hp
      | some x => simp
abbrev Asc (l : List (Int × Int)) : Prop := l.Pairwise lx
theorem half_foldl : ∀ (l : List (Int × Int)) (d s : List (Int × Int)), Half d s → Asc (d ++ l) → Half (d ++ l) (l.foldl pushS s)
  | [], d, s, h, _ => by simpa using h
  | q :: l, d, s, h, ha => by
    have e : d ++ q :: l = (d ++ [q]) ++ l := by simp
    rw [e] at ha ⊢
    refine half_foldl l (d ++ [q]) (pushS s q) (half_push h fun p hp => ?_) ha
    have := (List.pairwise_append.mp (List.pairwise_append.mp ha).1).2.2
    exact this p hp q (by simp)
theorem half_is {l : List (Int × Int)} (h : Asc l) : Half l (halfR l) := by
  have := half_foldl l [] [] ⟨List.Pairwise.nil, trivial, by simp, by simp, rfl, rfl⟩ (by simpa using h)
  simpa [halfR] using this

/-- An edge of a way, its top first. -/
def Edge (s : List (Int × Int)) (a b : Int × Int) : Prop := ∃ s1 s2, s = s1 ++ b :: a :: s2
theorem edge_cons {c b : Int × Int} {r : List (Int × Int)} {x y : Int × Int} (h : Edge (c :: b :: r) x y) : (x = b ∧ y = c) ∨ Edge (b :: r) x y := by
  obtain ⟨s1, s2, e⟩ := h
  cases s1 with
  | nil => simp at e; exact Or.inl ⟨e.2.1.symm, e.1.symm⟩
  | cons z s1 => simp at e; exact Or.inr ⟨s1, s2, e.2⟩
theorem edge_mem {s : List (Int × Int)} {x y : Int × Int} (h : Edge s x y) : x ∈ s ∧ y ∈ s := by
  obtain ⟨s1, s2, rfl⟩ := h; simp
theorem edge_lx {s : List (Int × Int)} (hd : Desc s) {x y : Int × Int} (h : Edge s x y) : lx x y := by
  obtain ⟨s1, s2, rfl⟩ := h
  have := (List.pairwise_append.mp hd).2.1
  exact (List.pairwise_cons.mp this).1 x (by simp)
theorem slopes : ∀ (r : List (Int × Int)) (c b : Int × Int), Desc (c :: b :: r) → Cvx (c :: b :: r) → ∀ x y, Edge (b :: r) x y → 0 < (y.1 - x.1) * (c.2 - b.2) - (y.2 - x.2) * (c.1 - b.1)
  | [], c, b, _, _, x, y, h => by
    obtain ⟨s1, s2, e⟩ := h
    have := congrArg List.length e
    simp at this; omega
  | a :: r, c, b, hd, hc, x, y, h => by
    have hd' : Desc (b :: a :: r) := (List.pairwise_cons.mp hd).2
    have hbc : lx b c := (List.pairwise_cons.mp hd).1 b (by simp)
    have hab : lx a b := (List.pairwise_cons.mp hd').1 a (by simp)
    have h0 : 0 < (b.1 - a.1) * (c.2 - b.2) - (b.2 - a.2) * (c.1 - b.1) := by
      have := hc.1
      unfold cr at this; grind
    rcases edge_cons h with ⟨rfl, rfl⟩ | h
    · exact h0
    · have h1 := slopes r b a hd' hc.2 x y h
      have hxy := edge_lx (List.pairwise_cons.mp hd').2 h
      exact tr_lt1 (y.1 - x.1) (y.2 - x.2) (b.1 - a.1) (b.2 - a.2) (c.1 - b.1) (c.2 - b.2) (by unfold lx at *; omega) (by unfold lx at *; omega) (by unfold lx at *; omega) h1 (by omega)
theorem cov_top : ∀ (s : List (Int × Int)) (b : Int × Int) (r : List (Int × Int)), s = b :: r → Desc s → ∀ p, Cov s p → p = b ∨ lx p b
  | [], _, _, e, _, _, _ => by cases e
  | [c], b, r, e, _, p, h => by cases e; exact Or.inl h
  | c :: a :: r', b, r, e, hd, p, h => by
    cases e
    rcases h with ⟨_, h, _⟩ | h
    · exact h
    · have hd' := (List.pairwise_cons.mp hd)
      rcases cov_top (a :: r') a r' rfl hd'.2 p h with rfl | h
      · exact Or.inr (hd'.1 p (by simp))
      · exact Or.inr (lx_trans h (hd'.1 a (by simp)))
theorem cov_self : ∀ (s : List (Int × Int)) (b : Int × Int) (r : List (Int × Int)), s = b :: r → Desc s → Cov s b
  | [], _, _, e, _ => by cases e
  | [c], b, r, e, _ => by cases e; rfl
  | c :: a :: r', b, r, e, hd => by
    cases e
    exact Or.inl ⟨(List.pairwise_cons.mp hd).1 a (by simp), Or.inl rfl, by unfold cr; grind⟩
/-- Every edge has all covered points at its left; on its line only between its ends. -/
theorem edge_left : ∀ (s : List (Int × Int)), Desc s → Cvx s → ∀ x y, Edge s x y → ∀ p, Cov s p → 0 ≤ cr x y p ∧ (cr x y p = 0 → (p = x ∨ lx x p) ∧ (p = y ∨ lx p y))
  | [], _, _, x, y, h, p, hp => by cases hp
  | [c], _, _, x, y, h, p, hp => by
    obtain ⟨s1, s2, e⟩ := h
    have := congrArg List.length e
    simp at this; omega
  | c :: b :: r, hd, hc, x, y, h, p, hp => by
    have hd' : Desc (b :: r) := (List.pairwise_cons.mp hd).2
    have hc' : Cvx (b :: r) := by cases r with | nil => simp [Cvx] | cons a r => exact hc.2
    have hbc : lx b c := (List.pairwise_cons.mp hd).1 b (by simp)
    have IH := edge_left (b :: r) hd' hc'
    rcases edge_cons h with ⟨rfl, rfl⟩ | he
    · -- the top edge
      rcases hp with ⟨h1, h2, h3⟩ | hp
      · exact ⟨h3, fun _ => ⟨Or.inr h1, h2⟩⟩
      · rcases cov_top (x :: r) x r rfl hd' p hp with rfl | hpx
        · exact ⟨by unfold cr; grind, fun _ => ⟨Or.inl rfl, Or.inr hbc⟩⟩
        · have key : 0 < cr x y p := by
            cases r with
            | nil => exact absurd hpx (by rw [show p = x from hp]; exact lx_irr)
            | cons a r =>
              have hax : lx a x := (List.pairwise_cons.mp hd').1 a (by simp)
              have i := (IH a x ⟨[], r, rfl⟩ p hp).1
              have j := hc.1
              have := tr_lt2 (x.1 - p.1) (x.2 - p.2) (x.1 - a.1) (x.2 - a.2) (y.1 - x.1) (y.2 - x.2) (by unfold lx at *; omega) (by unfold lx at *; omega) (by unfold lx at *; omega) (by unfold cr at i; grind) (by unfold cr at j; grind)
              unfold cr; grind
          exact ⟨by omega, fun e => by omega⟩
    · rcases hp with ⟨h1, h2, h3⟩ | hp
      · have sl := slopes r c b hd hc x y he
        have hxy := edge_lx hd' he
        have i := (IH x y he b (cov_self (b :: r) b r rfl hd')).1
        have := tr_lt1 (y.1 - x.1) (y.2 - x.2) (c.1 - b.1) (c.2 - b.2) (p.1 - b.1) (p.2 - b.2) (by unfold lx at *; omega) (by unfold lx at *; omega) (by unfold lx at *; omega) sl (by unfold cr at h3; grind)
        have key : 0 < cr x y p := by unfold cr at *; grind
        exact ⟨by omega, fun e => by omega⟩
      · exact IH x y he p hp
end
end Go.Proofs.Ytljdnahomhbenaa
