/- Plain: a point is in a hull just if the hull with it is no other. -/
import Derived.Test.YtljdnahomhbenaaRh
namespace Go.Proofs.Ytljdnahomhbenaa
section
open Go.RowKit Go.Sort Go.Lib

theorem sign_of {F s u d : Int} (hF : 0 < F) (hs : 0 ≤ s) (h : F * u = s * d) : (0 ≤ d → 0 ≤ u) ∧ (d ≤ 0 → u ≤ 0) := by
  constructor
  · intro hd
    apply Int.not_lt.mp; intro hu
    have a := Int.mul_neg_of_pos_of_neg hF hu
    have b := Int.mul_nonneg hs hd
    omega
  · intro hd
    apply Int.not_lt.mp; intro hu
    have a := Int.mul_pos hF hu
    have b := Int.mul_nonpos_of_nonneg_of_nonpos hs hd
    omega
/-- On an edge's line and not at the right of its neighbours: between its ends. -/
theorem bt_corner {z a b c p : Int × Int} (h1 : 0 < cr z a b) (h2 : 0 < cr a b c) (h3 : 0 ≤ cr z a p) (h4 : 0 ≤ cr b c p) (h : cr a b p = 0) : Bt p a b := by
  have e1 : cr z a b * (p.1 - a.1) = cr z a p * (b.1 - a.1) := by unfold cr at *; grind
  have e2 : cr z a b * (p.2 - a.2) = cr z a p * (b.2 - a.2) := by unfold cr at *; grind
  have e3 : cr a b c * (b.1 - p.1) = cr b c p * (b.1 - a.1) := by unfold cr at *; grind
  have e4 : cr a b c * (b.2 - p.2) = cr b c p * (b.2 - a.2) := by unfold cr at *; grind
  have s1 := sign_of h1 h3 e1
  have s2 := sign_of h1 h3 e2
  have s3 := sign_of h2 h4 e3
  have s4 := sign_of h2 h4 e4
  unfold Bt
  omega
/-- Between two edges at the least corner: not ahead of it. -/
theorem least_corner {z a b p : Int × Int} (h1 : 0 < cr z a b) (h2 : 0 ≤ cr z a p) (h3 : 0 ≤ cr a b p) (hz : lx a z) (hb : lx a b) : p = a ∨ lx a p := by
  have e1 : cr z a b * (p.1 - a.1) = cr z a p * (b.1 - a.1) + cr a b p * (z.1 - a.1) := by unfold cr; grind
  have e2 : cr z a b * (p.2 - a.2) = cr z a p * (b.2 - a.2) + cr a b p * (z.2 - a.2) := by unfold cr; grind
  generalize cr z a b = K at *
  generalize cr z a p = s at *
  generalize cr a b p = t at *
  have hx : 0 ≤ p.1 - a.1 := by
    apply Int.not_lt.mp; intro hu
    have a1 := Int.mul_neg_of_pos_of_neg h1 hu
    have b1 := Int.mul_nonneg h2 (show 0 ≤ b.1 - a.1 by unfold lx at hb; omega)
    have c1 := Int.mul_nonneg h3 (show 0 ≤ z.1 - a.1 by unfold lx at hz; omega)
    omega
  rcases lx_tri a p with h | h | h
  · exact Or.inr h
  · exact Or.inl h.symm
  · exfalso
    have hp1 : p.1 = a.1 := by unfold lx at h; omega
    have hp2 : p.2 - a.2 < 0 := by unfold lx at h; omega
    have k1 := Int.mul_neg_of_pos_of_neg h1 hp2
    have b1 := Int.mul_nonneg h2 (show 0 ≤ b.1 - a.1 by unfold lx at hb; omega)
    have c1 := Int.mul_nonneg h3 (show 0 ≤ z.1 - a.1 by unfold lx at hz; omega)
    have z0 : K * (p.1 - a.1) = 0 := by rw [hp1]; simp
    have sb : 0 ≤ s * (b.2 - a.2) := by
      by_cases hbx : b.1 - a.1 = 0
      · exact Int.mul_nonneg h2 (by unfold lx at hb; omega)
      · have hb0 : 0 < b.1 - a.1 := by unfold lx at hb; omega
        have hs0 : s = 0 := by
          apply Classical.byContradiction; intro hne
          have := Int.mul_pos (show 0 < s by omega) hb0
          omega
        rw [hs0]; simp
    have tz : 0 ≤ t * (z.2 - a.2) := by
      by_cases hzx : z.1 - a.1 = 0
      · exact Int.mul_nonneg h3 (by unfold lx at hz; omega)
      · have hz0 : 0 < z.1 - a.1 := by unfold lx at hz; omega
        have ht0 : t = 0 := by
          apply Classical.byContradiction; intro hne
          have := Int.mul_pos (show 0 < t by omega) hz0
          omega
        rw [ht0]; simp
    omega

/-- The corner at place i, round and round. -/
def cAt (h : List (Int × Int)) (i : Nat) : Int × Int := h.getD (i % h.length) (0, 0)
theorem cAt_lt {h : List (Int × Int)} {i : Nat} (hi : i < h.length) : cAt h i = h[i] := by
  unfold cAt
  rw [Nat.mod_eq_of_lt hi]
  simp [List.getD, hi]
theorem cAt_mem {h : List (Int × Int)} (hn : 0 < h.length) (i : Nat) : cAt h i ∈ h := by
  unfold cAt
  have := Nat.mod_lt i hn
  simp [List.getD, this]
theorem links_iff {R : Int × Int → Int × Int → Prop} {x0 : Int × Int} {xs : List (Int × Int)} : Links R (x0 :: (xs ++ [x0])) ↔ ∀ i, R (cAt (x0 :: xs) i) (cAt (x0 :: xs) (i + 1)) := by
  have hget : ∀ i (hi : i < xs.length + 2), (x0 :: (xs ++ [x0]))[i]'(by simp; omega) = cAt (x0 :: xs) i := fun i hi => by
    have e : x0 :: (xs ++ [x0]) = (x0 :: xs) ++ [x0] := rfl
    simp only [e]
    by_cases c : i < (x0 :: xs).length
    · rw [List.getElem_append_left c, cAt_lt c]
    · have hL : (x0 :: xs).length = xs.length + 1 := rfl
      obtain rfl : i = xs.length + 1 := by omega
      have e3 : cAt (x0 :: xs) (xs.length + 1) = x0 := by
        unfold cAt
        rw [show (xs.length + 1) % (x0 :: xs).length = 0 by rw [hL, Nat.mod_self]]
        rfl
      rw [List.getElem_append_right (by simp), e3]
      simp
  constructor
  · intro h i
    have hn : 0 < (x0 :: xs).length := by simp
    obtain ⟨j, hj, ei⟩ : ∃ j, j < (x0 :: xs).length ∧ i % (x0 :: xs).length = j := ⟨_, Nat.mod_lt i hn, rfl⟩
    have e1 : cAt (x0 :: xs) i = cAt (x0 :: xs) j := by
      unfold cAt; rw [ei, Nat.mod_eq_of_lt hj]
    have e2 : cAt (x0 :: xs) (i + 1) = cAt (x0 :: xs) (j + 1) := by
      unfold cAt; rw [← ei, Nat.mod_add_mod]
    have hj' : j < xs.length + 1 := hj
    rw [e1, e2, ← hget j (by omega), ← hget (j + 1) (by omega)]
    have d1 : x0 :: (xs ++ [x0]) = (x0 :: (xs ++ [x0])).take j ++ (x0 :: (xs ++ [x0]))[j]'(by simp; omega) :: (x0 :: (xs ++ [x0]))[j + 1]'(by simp; omega) :: (x0 :: (xs ++ [x0])).drop (j + 2) := by
      rw [← List.drop_eq_getElem_cons, ← List.drop_eq_getElem_cons, List.take_append_drop]
    rw [d1] at h
    exact links_edge h
  · intro h
    refine links_of _ fun x y A B e => ?_
    have hl : A.length + 2 ≤ xs.length + 2 := by
      have := congrArg List.length e
      simp at this
      omega
    have ex : (x0 :: (xs ++ [x0]))[A.length]'(by simp; omega) = x := by simp [e]
    have ey : (x0 :: (xs ++ [x0]))[A.length + 1]'(by simp; omega) = y := by simp [e]
    rw [hget _ (by omega)] at ex ey
    rw [← ex, ← ey]
    exact h _
theorem nodup_inj {l : List (Int × Int)} (h : l.Nodup) {i j : Nat} (hi : i < l.length) (hj : j < l.length) (e : l[i] = l[j]) : i = j := by
  have := List.pairwise_iff_getElem.mp h
  rcases Nat.lt_trichotomy i j with c | c | c
  · exact absurd e (this i j hi hj c)
  · exact c
  · exact absurd e.symm (this j i hj hi c)
theorem cr_cyc (a b c : Int × Int) : cr b c a = cr a b c := by unfold cr; grind
/-- A hull of three corners and more turns left at each. -/
theorem cyc_turns {l : List (Int × Int)} {x0 : Int × Int} {xs : List (Int × Int)} (C : Cyc l x0 xs) (h3 : 3 ≤ xs.length + 1) (i : Nat) : 0 < cr (cAt (x0 :: xs) i) (cAt (x0 :: xs) (i + 1)) (cAt (x0 :: xs) (i + 2)) := by
  have E := links_iff.mp C.links
  have hn : 0 < (x0 :: xs).length := by simp
  have hL : (x0 :: xs).length = xs.length + 1 := rfl
  have f1 := E i
  have f2 := E (i + 1)
  have m0 := C.sub _ (cAt_mem hn i)
  have m2 := C.sub _ (cAt_mem hn (i + 2))
  have k1 := f1.2 _ m2
  have k2 := f2.2 _ m0
  rw [cr_cyc] at k2
  have nd := cyc_nodup C
  apply Int.not_le.mp
  intro hle
  have e0 : cr (cAt (x0 :: xs) i) (cAt (x0 :: xs) (i + 1)) (cAt (x0 :: xs) (i + 2)) = 0 := by omega
  have b1 := k1.2 e0
  have b2 := k2.2 e0
  have ne : cAt (x0 :: xs) i ≠ cAt (x0 :: xs) (i + 2) := by
    intro e
    unfold cAt at e
    have l1 := Nat.mod_lt i hn
    have l2 := Nat.mod_lt (i + 2) hn
    have e' : (x0 :: xs)[i % (x0 :: xs).length] = (x0 :: xs)[(i + 2) % (x0 :: xs).length] := by
      rw [getD_eq _ _ l1, getD_eq _ _ l2] at e
      exact e
    have := nodup_inj nd l1 l2 e'
    have h5 : (i + 2) % (x0 :: xs).length = (i % (x0 :: xs).length + 2) % (x0 :: xs).length := by rw [Nat.mod_add_mod]
    rw [h5] at this
    generalize i % (x0 :: xs).length = r at *
    by_cases c : r + 2 < (x0 :: xs).length
    · rw [Nat.mod_eq_of_lt c] at this; omega
    · rw [Nat.mod_eq_sub_mod (by omega), Nat.mod_eq_of_lt (by omega)] at this
      omega
  apply ne
  unfold Bt at b1 b2
  generalize cAt (x0 :: xs) i = a at *
  generalize cAt (x0 :: xs) (i + 2) = c at *
  obtain ⟨a1, a2⟩ := a; obtain ⟨c1, c2⟩ := c
  simp only [Prod.mk.injEq]
  simp only at b1 b2
  omega

/-- Has no side of a hull a point to its right? -/
def leftB (h : List (Int × Int)) (p : Int × Int) : Bool := decide (∀ i, i < h.length → ¬ crT (cAt h (i + h.length - 1)) (cAt h i) p < 0)
theorem left_iff {h : List (Int × Int)} (hn : 0 < h.length) (p : Int × Int) : leftB h p = true ↔ ∀ i, 0 ≤ cr (cAt h i) (cAt h (i + 1)) p := by
  unfold leftB
  rw [decide_eq_true_eq]
  have sh : ∀ i, cAt h (i % h.length) = cAt h i := fun i => by unfold cAt; rw [Nat.mod_mod]
  constructor
  · intro H i
    have := H ((i + 1) % h.length) (Nat.mod_lt _ hn)
    rw [(turn_cr _ _ _).2.1, sh] at this
    have e : cAt h ((i + 1) % h.length + h.length - 1) = cAt h i := by
      have l1 := Nat.mod_lt (i + 1) hn
      have d := Nat.mod_add_div (i + 1) h.length
      unfold cAt
      congr 1
      by_cases c : (i + 1) % h.length = 0
      · rw [c, Nat.zero_add]
        rw [c, Nat.zero_add] at d
        obtain ⟨k, hk⟩ : ∃ k, (i + 1) / h.length = k + 1 := by
          cases e : (i + 1) / h.length with
          | zero => rw [e, Nat.mul_zero] at d; omega
          | succ k => exact ⟨k, rfl⟩
        rw [hk, Nat.mul_succ] at d
        have : i = (h.length - 1) + h.length * k := by omega
        rw [this, Nat.add_mul_mod_self_left]
      · have : i = ((i + 1) % h.length - 1) + h.length * ((i + 1) / h.length) := by omega
        rw [show (i + 1) % h.length + h.length - 1 = ((i + 1) % h.length - 1) + h.length by omega, Nat.add_mod_right]
        conv => rhs; rw [this, Nat.add_mul_mod_self_left]
    rw [e] at this
    omega
  · intro H i hi
    have := H (i + h.length - 1)
    rw [show i + h.length - 1 + 1 = i + h.length by omega] at this
    have e : cAt h (i + h.length) = cAt h i := by unfold cAt; rw [Nat.add_mod_right]
    rw [e] at this
    rw [(turn_cr _ _ _).2.1]
    omega
/-- Is a point in a hull, in the reference's words? -/
def hasH (h : List (Int × Int)) (p : Int × Int) : Bool := decide (0 < h.length ∧ h = hullL (srt h) ∧ hullL (srt (h ++ [p])) = h)
theorem head_least {l : List (Int × Int)} (h : Asc l) {x : Int × Int} (hx : l.head? = some x) : ∀ p ∈ l, p = x ∨ lx x p := fun p hp => by
  cases l with
  | nil => cases hp
  | cons y r =>
    simp at hx; subst hx
    rcases List.mem_cons.mp hp with e | m
    · exact Or.inl e
    · exact Or.inr ((List.pairwise_cons.mp h).1 p m)
theorem head_of {l : List (Int × Int)} (h : Asc l) {x : Int × Int} (hx : x ∈ l) (hl : ∀ p ∈ l, p = x ∨ lx x p) : l.head? = some x := by
  cases l with
  | nil => cases hx
  | cons y r =>
    rcases hl y (by simp) with e | e
    · simp [e]
    · rcases List.mem_cons.mp hx with e' | m
      · simp [e']
      · exact absurd (lx_trans e ((List.pairwise_cons.mp h).1 x m)) lx_irr
theorem two_len {l : List (Int × Int)} {x y : Int × Int} (hx : x ∈ l) (hy : y ∈ l) (hne : x ≠ y) : 2 ≤ l.length := by
  have := nodup_len [x, y] l (by simp [hne]) (fun z hz => by simp at hz; rcases hz with rfl | rfl <;> assumption)
  simpa using this
theorem hull_two {l : List (Int × Int)} (h : Asc l) (h2 : 2 ≤ l.length) : 2 ≤ (hullL l).length := by
  obtain ⟨x0, xs, _, e, C⟩ := hull_cyc h h2
  rw [e]
  have := cyc_ne C
  cases xs with
  | nil => exact absurd rfl this
  | cons a r => simp
theorem has_one (a p : Int × Int) : hasH [a] p = decide (a = p) := by
  have e1 : [a] = hullL (srt [a]) := by
    have : srt [a] = [a] := asc_eq (srt_asc _) (by simp) (fun q => by rw [srt_mem])
    rw [this]; rfl
  unfold hasH
  rw [Bool.eq_iff_iff, decide_eq_true_eq, decide_eq_true_eq]
  constructor
  · rintro ⟨_, _, h⟩
    apply Classical.byContradiction
    intro hne
    have := hull_two (srt_asc ([a] ++ [p])) (two_len (x := a) (y := p) ((srt_mem _ _).mpr (by simp)) ((srt_mem _ _).mpr (by simp)) hne)
    rw [h] at this
    simp at this
  · rintro rfl
    refine ⟨by simp, e1, ?_⟩
    have : srt ([a] ++ [a]) = [a] := asc_eq (srt_asc _) (by simp) (fun q => by rw [srt_mem]; simp)
    rw [this]; rfl
/-- What a list of two corners and more that is its own hull is. -/
theorem self_cyc {h : List (Int × Int)} (h2 : 2 ≤ h.length) (hc : h = hullL (srt h)) : ∃ x0 xs, h = x0 :: xs ∧ Cyc (srt h) x0 xs ∧ (srt h).head? = some x0 ∧ ∀ q ∈ xs, lx x0 q := by
  have hs : 2 ≤ (srt h).length := by
    have := hull_len (srt_asc h)
    rw [← hc] at this
    omega
  obtain ⟨x0, xs, e0, eH, C⟩ := hull_cyc (srt_asc h) hs
  refine ⟨x0, xs, hc.trans eH, C, e0, fun q hq => ?_⟩
  rcases head_least (srt_asc h) e0 q (C.sub q (by simp [hq])) with e | e
  · subst e; exact absurd hq C.fresh
  · exact e
theorem has_two (a b p : Int × Int) (hc : [a, b] = hullL (srt [a, b])) : hasH [a, b] p = onB p.1 p.2 a.1 a.2 b.1 b.2 := by
  obtain ⟨x0, xs, e, C, h0, hlt⟩ := self_cyc (by simp) hc
  simp only [List.cons.injEq] at e
  obtain ⟨rfl, rfl⟩ := e
  have hab : lx a b := hlt b (by simp)
  have hne : a ≠ b := fun e => by subst e; exact lx_irr hab
  rw [Bool.eq_iff_iff, on_bt]
  unfold hasH
  rw [decide_eq_true_eq]
  have hm : ∀ q, q ∈ srt ([a, b] ++ [p]) ↔ q = a ∨ q = b ∨ q = p := fun q => by rw [srt_mem]; simp
  have h2 : 2 ≤ (srt ([a, b] ++ [p])).length := two_len (x := a) (y := b) ((hm a).mpr (by simp)) ((hm b).mpr (by simp)) hne
  constructor
  · rintro ⟨_, _, h⟩
    obtain ⟨y0, ys, _, eH, D⟩ := hull_cyc (srt_asc ([a, b] ++ [p])) h2
    rw [h] at eH
    simp only [List.cons.injEq] at eH
    obtain ⟨rfl, rfl⟩ := eH
    have f1 := D.links.1.2 p ((hm p).mpr (by simp))
    have f2 := D.links.2.1.2 p ((hm p).mpr (by simp))
    rw [cr_rev] at f2
    have e : cr a b p = 0 := by omega
    exact ⟨f1.2 e, e⟩
  · rintro ⟨hb, e⟩
    refine ⟨by simp, hc, ?_⟩
    have hp : p = a ∨ lx a p := by
      rcases lx_tri a p with h | h | h
      · exact Or.inr h
      · exact Or.inl h.symm
      · exfalso
        unfold cr at e
        unfold Bt at hb
        unfold lx at h hab
        have h1 : p.1 = a.1 := by omega
        have h2 : p.2 < a.2 := by omega
        rw [h1, Int.sub_self, Int.mul_zero, Int.sub_zero] at e
        rcases Int.mul_eq_zero.mp e with k | k
        · omega
        · omega
    have all0 : ∀ q ∈ srt ([a, b] ++ [p]), cr a b q = 0 ∧ Bt q a b := fun q hq => by
      rcases (hm q).mp hq with rfl | rfl | rfl
      · exact ⟨by unfold cr; grind, by unfold Bt; omega⟩
      · exact ⟨by unfold cr; grind, by unfold Bt; omega⟩
      · exact ⟨e, hb⟩
    refine hull_unique (srt_asc _) h2 (head_of (srt_asc _) ((hm a).mpr (by simp)) fun q hq => ?_) ⟨⟨⟨hne, fun q hq => ?_⟩, ⟨hne.symm, fun q hq => ?_⟩, trivial⟩, ?_, ?_⟩
    · rcases (hm q).mp hq with rfl | rfl | rfl
      · exact Or.inl rfl
      · exact Or.inr hab
      · exact hp
    · obtain ⟨k1, k2⟩ := all0 q hq
      exact ⟨by omega, fun _ => k2⟩
    · obtain ⟨k1, k2⟩ := all0 q hq
      rw [cr_rev]
      exact ⟨by omega, fun _ => k2.symm⟩
    · intro x hx
      simp at hx
      rcases hx with rfl | rfl
      · exact (hm _).mpr (by simp)
      · exact (hm _).mpr (by simp)
    · simpa using hne
theorem has_more (h : List (Int × Int)) (p : Int × Int) (h3 : 3 ≤ h.length) (hc : h = hullL (srt h)) : hasH h p = leftB h p := by
  obtain ⟨x0, xs, e, C, h0, hlt⟩ := self_cyc (by omega) hc
  have hn : 0 < h.length := by omega
  rw [Bool.eq_iff_iff, left_iff hn]
  unfold hasH
  rw [decide_eq_true_eq]
  have hm : ∀ q, q ∈ srt (h ++ [p]) ↔ q ∈ h ∨ q = p := fun q => by rw [srt_mem]; simp
  have h2 : 2 ≤ (srt (h ++ [p])).length := by
    have := nodup_len (x0 :: xs) (srt (h ++ [p])) (cyc_nodup C) (fun q hq => (hm q).mpr (Or.inl (by rw [e]; exact hq)))
    rw [← e] at this
    omega
  have hx3 : 3 ≤ xs.length + 1 := by rw [e] at h3; exact h3
  constructor
  · rintro ⟨_, _, hh⟩ i
    obtain ⟨y0, ys, _, eH, D⟩ := hull_cyc (srt_asc (h ++ [p])) h2
    rw [hh] at eH
    rw [eH]
    exact ((links_iff.mp D.links i).2 p ((hm p).mpr (Or.inr rfl))).1
  · intro H
    refine ⟨hn, hc, ?_⟩
    have turns := cyc_turns C hx3
    have E := links_iff.mp C.links
    rw [← e] at turns E
    have wrap : ∀ i, cAt h (i + h.length) = cAt h i := fun i => by unfold cAt; rw [Nat.add_mod_right]
    have x0m : x0 ∈ h := by rw [e]; simp
    have c0 : cAt h 0 = x0 := by
      rw [cAt_lt hn]
      simp [e]
    have least : p = x0 ∨ lx x0 p := by
      have t := turns (h.length - 1)
      have a := H (h.length - 1)
      have b := H 0
      rw [show h.length - 1 + 1 = 0 + h.length by omega, show h.length - 1 + 2 = 1 + h.length by omega, wrap, wrap, c0] at t
      rw [show h.length - 1 + 1 = 0 + h.length by omega, wrap, c0] at a
      rw [c0] at b
      have inx : ∀ i, cAt h i ≠ x0 → lx x0 (cAt h i) := fun i hi => by
        have := cAt_mem hn i
        rw [e] at this
        rcases List.mem_cons.mp this with k | k
        · rw [← e] at k; exact absurd k hi
        · rw [← e] at k; exact hlt _ k
      have f1 := (E (h.length - 1)).1
      have f2 := (E 0).1
      rw [show h.length - 1 + 1 = 0 + h.length by omega, wrap, c0] at f1
      rw [c0] at f2
      exact least_corner t a b (inx _ f1) (inx _ (fun k => f2 k.symm))
    rw [e]
    rw [e] at hm h2
    refine hull_unique (srt_asc _) h2 (head_of (srt_asc _) ((hm x0).mpr (Or.inl (by simp))) fun q hq => ?_) ⟨links_iff.mpr fun i => ?_, fun x hx => (hm x).mpr (Or.inl hx), C.fresh⟩
    · rcases (hm q).mp hq with k | k
      · rcases List.mem_cons.mp k with k | k
        · exact Or.inl k
        · exact Or.inr (hlt q k)
      · subst k; exact least
    · rw [← e]
      refine ⟨(E i).1, fun q hq => ?_⟩
      rcases (hm q).mp (by rw [← e]; exact hq) with k | k
      · rw [← e] at k
        exact (E i).2 q ((srt_mem h q).mpr k)
      · subst k
        refine ⟨H i, fun hz => ?_⟩
        have t1 := turns (i + h.length - 1)
        have a1 := H (i + h.length - 1)
        rw [show i + h.length - 1 + 1 = i + h.length by omega, show i + h.length - 1 + 2 = i + 1 + h.length by omega, wrap, wrap] at t1
        rw [show i + h.length - 1 + 1 = i + h.length by omega, wrap] at a1
        exact bt_corner t1 (turns i) a1 (H (i + 1)) hz
end
end Go.Proofs.Ytljdnahomhbenaa
