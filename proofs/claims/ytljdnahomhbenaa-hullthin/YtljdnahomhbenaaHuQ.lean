/- Plain: the hull as the program joins it is a way around: each corner is followed by the one that has all points at its left; there is but one such way from the least point on. -/
import Derived.Test.YtljdnahomhbenaaHuP
namespace Go.Proofs.Ytljdnahomhbenaa
section
/-- Between two points, in both coordinates. -/
def Bt (p a b : Int × Int) : Prop := ((a.1 ≤ p.1 ∧ p.1 ≤ b.1) ∨ (b.1 ≤ p.1 ∧ p.1 ≤ a.1)) ∧ ((a.2 ≤ p.2 ∧ p.2 ≤ b.2) ∨ (b.2 ≤ p.2 ∧ p.2 ≤ a.2))
def Fol (l : List (Int × Int)) (a b : Int × Int) : Prop := a ≠ b ∧ ∀ p ∈ l, 0 ≤ cr a b p ∧ (cr a b p = 0 → Bt p a b)
theorem cr_swap (a b c : Int × Int) : cr a c b = -cr a b c := by unfold cr; grind
theorem cr_rev (a b c : Int × Int) : cr b a c = -cr a b c := by unfold cr; grind
theorem fol_unique {l : List (Int × Int)} {a b c : Int × Int} (h : Fol l a b) (k : Fol l a c) (hb : b ∈ l) (hc : c ∈ l) : b = c := by
  have h1 := h.2 c hc
  have k1 := k.2 b hb
  rw [cr_swap a b c] at k1
  have e : cr a b c = 0 := by omega
  have x := h1.2 e
  have y := k1.2 (by omega)
  unfold Bt at x y
  obtain ⟨b1, b2⟩ := b; obtain ⟨c1, c2⟩ := c
  simp only [Prod.mk.injEq]
  simp only at x y
  omega
theorem Fol.mono {l l' : List (Int × Int)} {a b : Int × Int} (h : Fol l a b) (k : ∀ p ∈ l', p ∈ l) : Fol l' a b := ⟨h.1, fun p hp => h.2 p (k p hp)⟩

def Links (R : Int × Int → Int × Int → Prop) : List (Int × Int) → Prop
  | a :: b :: r => R a b ∧ Links R (b :: r)
  | _ => True
theorem links_of {R : Int × Int → Int × Int → Prop} : ∀ L : List (Int × Int), (∀ x y A B, L = A ++ x :: y :: B → R x y) → Links R L
  | [], _ => trivial
  | [_], _ => trivial
  | a :: b :: r, h => ⟨h a b [] r rfl, links_of (b :: r) fun x y A B e => h x y (a :: A) B (by rw [e]; rfl)⟩
theorem Links.mono {R S : Int × Int → Int × Int → Prop} (k : ∀ x y, R x y → S x y) : ∀ {L : List (Int × Int)}, Links R L → Links S L
  | [], _ => trivial
  | [_], _ => trivial
  | _ :: _ :: _, h => ⟨k _ _ h.1, Links.mono k h.2⟩
theorem links_join {R : Int × Int → Int × Int → Prop} {m : Int × Int} {B : List (Int × Int)} : ∀ A : List (Int × Int), Links R (A ++ [m]) → Links R (m :: B) → Links R (A ++ m :: B)
  | [], _, h => h
  | [_], h, k => ⟨h.1, k⟩
  | _ :: b :: r, h, k => ⟨h.1, links_join (b :: r) h.2 k⟩
theorem links_right {R : Int × Int → Int × Int → Prop} {B : List (Int × Int)} : ∀ A : List (Int × Int), Links R (A ++ B) → Links R B
  | [], h => h
  | [_], h => by cases B with | nil => trivial | cons b r => exact h.2
  | _ :: b :: r, h => links_right (b :: r) h.2
theorem links_edge {R : Int × Int → Int × Int → Prop} {A B : List (Int × Int)} {x y : Int × Int} (h : Links R (A ++ x :: y :: B)) : R x y := (links_right A h).1

/-- A way around: from x0 on, and back to it, not met between. -/
structure Cyc (l : List (Int × Int)) (x0 : Int × Int) (xs : List (Int × Int)) : Prop where
  links : Links (Fol l) (x0 :: (xs ++ [x0]))
  sub : ∀ x ∈ x0 :: xs, x ∈ l
  fresh : x0 ∉ xs
theorem way_unique {l : List (Int × Int)} {x0 : Int × Int} (h0 : x0 ∈ l) : ∀ (xs : List (Int × Int)) (a : Int × Int) (ys : List (Int × Int)), Links (Fol l) (a :: (xs ++ [x0])) → Links (Fol l) (a :: (ys ++ [x0])) → (∀ x ∈ xs, x ∈ l) → (∀ y ∈ ys, y ∈ l) → x0 ∉ xs → x0 ∉ ys → xs = ys
  | [], a, [], _, _, _, _, _, _ => rfl
  | [], a, y :: ys, h, k, _, hy, _, fy => by
    have := fol_unique h.1 k.1 h0 (hy y (by simp))
    subst this
    exact absurd (List.mem_cons_self ..) fy
  | x :: xs, a, [], h, k, hx, _, fx, _ => by
    have := fol_unique h.1 k.1 (hx x (by simp)) h0
    subst this
    exact absurd (List.mem_cons_self ..) fx
  | x :: xs, a, y :: ys, h, k, hx, hy, fx, fy => by
    have := fol_unique h.1 k.1 (hx x (by simp)) (hy y (by simp))
    subst this
    rw [way_unique h0 xs x ys h.2 k.2 (fun z hz => hx z (by simp [hz])) (fun z hz => hy z (by simp [hz])) (fun m => fx (by simp [m])) (fun m => fy (by simp [m]))]
theorem cyc_unique {l : List (Int × Int)} {x0 : Int × Int} {xs ys : List (Int × Int)} (h : Cyc l x0 xs) (k : Cyc l x0 ys) : xs = ys :=
  way_unique (h.sub x0 (by simp)) xs x0 ys h.links k.links (fun z hz => h.sub z (by simp [hz])) (fun z hz => k.sub z (by simp [hz])) h.fresh k.fresh
theorem cyc_ne {l : List (Int × Int)} {x0 : Int × Int} {xs : List (Int × Int)} (h : Cyc l x0 xs) : xs ≠ [] := by
  rintro rfl
  exact h.links.1.1 rfl
theorem way_nodup {l : List (Int × Int)} {x0 : Int × Int} (h0 : x0 ∈ l) : ∀ (xs : List (Int × Int)) (a : Int × Int), Links (Fol l) (a :: (xs ++ [x0])) → (∀ x ∈ xs, x ∈ l) → x0 ∉ xs → xs.Nodup
  | [], _, _, _, _ => List.nodup_nil
  | x :: xs, a, h, hx, fx => by
    rw [List.nodup_cons]
    refine ⟨fun m => ?_, way_nodup h0 xs x h.2 (fun z hz => hx z (by simp [hz])) (fun m => fx (by simp [m]))⟩
    obtain ⟨A, B, e⟩ := List.append_of_mem m
    have l1 : Links (Fol l) (x :: (xs ++ [x0])) := h.2
    have l2 : Links (Fol l) (x :: (B ++ [x0])) := by
      have : xs ++ [x0] = A ++ (x :: (B ++ [x0])) := by rw [e]; simp
      have l1' := l1
      rw [this] at l1'
      exact links_right (x :: A) l1'
    have := way_unique h0 xs x B l1 l2 (fun z hz => hx z (by simp [hz])) (fun z hz => hx z (by simp [e, hz])) (fun m => fx (by simp [m])) (fun m => fx (by simp [e, m]))
    have := congrArg List.length this
    rw [e] at this
    simp at this
    omega
theorem cyc_nodup {l : List (Int × Int)} {x0 : Int × Int} {xs : List (Int × Int)} (h : Cyc l x0 xs) : (x0 :: xs).Nodup :=
  List.nodup_cons.mpr ⟨h.fresh, way_nodup (h.sub x0 (by simp)) xs x0 h.links (fun z hz => h.sub z (by simp [hz])) h.fresh⟩
theorem nodup_len : ∀ (a b : List (Int × Int)), a.Nodup → (∀ x ∈ a, x ∈ b) → a.length ≤ b.length
  | [], _, _, _ => by simp
  | x :: a, b, h, k => by
    have hx := k x (by simp)
    have := nodup_len a (b.erase x) (List.nodup_cons.mp h).2 fun y hy => by
      have : y ≠ x := by rintro rfl; exact (List.nodup_cons.mp h).1 hy
      exact (List.mem_erase_of_ne this).mpr (k y (by simp [hy]))
    rw [List.length_erase_of_mem hx] at this
    have := List.length_pos_of_mem hx
    simp; omega
theorem cyc_len {l : List (Int × Int)} {x0 : Int × Int} {xs : List (Int × Int)} (h : Cyc l x0 xs) : xs.length + 1 ≤ l.length := by
  have := nodup_len _ _ (cyc_nodup h) h.sub
  simpa using this

/-- On a line between, by the order: between in both coordinates. -/
theorem bt_line (X Y u v : Int) (hX : 0 ≤ X) (hu : 0 ≤ u) (huX : u ≤ X) (h : X * v = Y * u) (h0 : X = 0 → (0 ≤ v ∧ v ≤ Y)) : (0 ≤ v ∧ v ≤ Y) ∨ (Y ≤ v ∧ v ≤ 0) := by
  by_cases e : X = 0
  · exact Or.inl (h0 e)
  · have hX' : 0 < X := by omega
    by_cases hY : 0 ≤ Y
    · have h1 : 0 ≤ v := by
        apply Int.not_lt.mp; intro hv
        have := Int.mul_neg_of_pos_of_neg hX' hv
        have := Int.mul_nonneg hY hu
        omega
      have h2 : v ≤ Y := by
        apply Int.not_lt.mp; intro hv
        have a := Int.mul_lt_mul_of_pos_left hv hX'
        have b := Int.mul_le_mul_of_nonneg_left huX hY
        have c : X * Y = Y * X := Int.mul_comm _ _
        omega
      exact Or.inl ⟨h1, h2⟩
    · have hY' : 0 ≤ -Y := by omega
      have h1 : v ≤ 0 := by
        apply Int.not_lt.mp; intro hv
        have := Int.mul_pos hX' hv
        have := Int.mul_nonneg hY' hu
        have e : -Y * u = -(Y * u) := by grind
        omega
      have h2 : Y ≤ v := by
        apply Int.not_lt.mp; intro hv
        have a := Int.mul_lt_mul_of_pos_left hv hX'
        have b := Int.mul_le_mul_of_nonneg_left huX hY'
        have c : X * Y = Y * X := Int.mul_comm _ _
        have d1 : -Y * u = -(Y * u) := by grind
        have d2 : -Y * X = -(Y * X) := by grind
        omega
      exact Or.inr ⟨h2, h1⟩
theorem bt_of {x y p : Int × Int} (hxy : lx x y) (h : cr x y p = 0) (h1 : p = x ∨ lx x p) (h2 : p = y ∨ lx p y) : Bt p x y := by
  have k := bt_line (y.1 - x.1) (y.2 - x.2) (p.1 - x.1) (p.2 - x.2) (by unfold lx at *; omega) (by rcases h1 with rfl | h1 <;> (unfold lx at *; omega)) (by rcases h2 with rfl | h2 <;> (unfold lx at *; omega)) (by unfold cr at h; omega)
    (fun e => by rcases h1 with rfl | h1 <;> rcases h2 with rfl | h2 <;> (unfold lx at *; omega))
  unfold Bt
  rcases h1 with rfl | h1 <;> rcases h2 with rfl | h2 <;> (unfold lx at *; omega)
theorem Bt.symm {p x y : Int × Int} (h : Bt p x y) : Bt p y x := by unfold Bt at *; omega

def ng (p : Int × Int) : Int × Int := (-p.1, -p.2)
theorem ng_ng (p : Int × Int) : ng (ng p) = p := by simp [ng]
theorem cr_ng (a b c : Int × Int) : cr (ng a) (ng b) (ng c) = cr a b c := by unfold cr ng; grind
theorem lx_ng {a b : Int × Int} : lx (ng a) (ng b) ↔ lx b a := by unfold lx ng; omega
theorem pop_ng (q : Int × Int) : ∀ s, (popS q s).map ng = popS (ng q) (s.map ng)
  | [] => by simp [popS]
  | [a] => by simp [popS]
  | b :: a :: r => by
    simp only [List.map_cons]
    unfold popS
    rw [cr_ng]
    split
    · rw [pop_ng q (a :: r)]; rfl
    · rfl
theorem foldl_ng : ∀ (l s : List (Int × Int)), (l.foldl pushS s).map ng = (l.map ng).foldl pushS (s.map ng)
  | [], s => rfl
  | q :: l, s => by
    rw [List.foldl_cons, List.map_cons, List.foldl_cons, foldl_ng l (pushS s q)]
    congr 1
    simp only [pushS, List.map_cons, pop_ng]
theorem half_ng (l : List (Int × Int)) : (halfR l).map ng = halfR (l.map ng) := foldl_ng l []
theorem asc_ng {l : List (Int × Int)} (h : Asc l) : Asc (l.reverse.map ng) := by
  unfold Asc
  rw [List.pairwise_map, List.pairwise_reverse]
  exact h.imp fun h => lx_ng.mpr h

theorem rev_edge {s A B : List (Int × Int)} {x y : Int × Int} (e : s.reverse = A ++ x :: y :: B) : Edge s x y := by
  refine ⟨B.reverse, A.reverse, ?_⟩
  have := congrArg List.reverse e
  simpa using this
theorem edge_map {s : List (Int × Int)} {x y : Int × Int} (h : Edge s x y) : Edge (s.map ng) (ng x) (ng y) := by
  obtain ⟨s1, s2, rfl⟩ := h
  exact ⟨s1.map ng, s2.map ng, by simp⟩

/-- The lower and the upper half, each from its beginning on. -/
def lowerL (l : List (Int × Int)) : List (Int × Int) := (halfR l).reverse
def upperL (l : List (Int × Int)) : List (Int × Int) := (halfR l.reverse).reverse
theorem lower_links {l : List (Int × Int)} (h : Asc l) : Links (Fol l) (lowerL l) := by
  have H := half_is h
  refine links_of _ fun x y A B e => ?_
  have he := rev_edge e
  have hxy := edge_lx H.desc he
  refine ⟨fun e => by subst e; exact lx_irr hxy, fun p hp => ?_⟩
  have k := edge_left _ H.desc H.cvx x y he p (H.cov p hp)
  exact ⟨k.1, fun e => bt_of hxy e (k.2 e).1 (k.2 e).2⟩
theorem upper_links {l : List (Int × Int)} (h : Asc l) : Links (Fol l) (upperL l) := by
  have H := half_is (asc_ng h)
  refine links_of _ fun x y A B e => ?_
  have he0 := edge_map (rev_edge e)
  rw [half_ng] at he0
  have hxy := edge_lx H.desc he0
  refine ⟨fun e => by subst e; exact lx_irr hxy, fun p hp => ?_⟩
  have k := edge_left _ H.desc H.cvx (ng x) (ng y) he0 (ng p) (H.cov (ng p) (List.mem_map.mpr ⟨p, by simpa using hp, rfl⟩))
  have hl : lx y x := lx_ng.mp hxy
  have inj : ∀ {a b : Int × Int}, ng a = ng b → a = b := fun {a b} e => by rw [← ng_ng a, e, ng_ng]
  rw [cr_ng] at k
  refine ⟨k.1, fun e => ?_⟩
  obtain ⟨k1, k2⟩ := k.2 e
  refine (bt_of hl (by rw [cr_rev]; omega) ?_ ?_).symm
  · exact k2.elim (fun e => Or.inl (inj e)) (fun e => Or.inr (lx_ng.mp e))
  · exact k1.elim (fun e => Or.inl (inj e)) (fun e => Or.inr (lx_ng.mp e))
theorem lower_ends {l : List (Int × Int)} (h : Asc l) : (lowerL l).head? = l.head? ∧ (lowerL l).getLast? = l.getLast? := by
  have H := half_is h
  unfold lowerL
  rw [List.head?_reverse, List.getLast?_reverse]
  exact ⟨H.last, H.head⟩
theorem upper_ends {l : List (Int × Int)} (h : Asc l) : (upperL l).head? = l.getLast? ∧ (upperL l).getLast? = l.head? := by
  have H := half_is (asc_ng h)
  have a := H.last
  have b := H.head
  rw [← half_ng] at a b
  unfold upperL
  rw [List.head?_reverse, List.getLast?_reverse]
  simp only [List.getLast?_map, List.head?_map, List.head?_reverse, List.getLast?_reverse] at a b
  have inj : ∀ {a b : Option (Int × Int)}, a.map ng = b.map ng → a = b := fun {a b} e => by
    have := congrArg (Option.map ng) e
    simp only [Option.map_map] at this
    have id : ng ∘ ng = id := funext ng_ng
    simpa [id] using this
  exact ⟨inj a, inj b⟩
theorem lower_asc {l : List (Int × Int)} (h : Asc l) : Asc (lowerL l) := by
  unfold lowerL Asc
  rw [List.pairwise_reverse]
  exact (half_is h).desc
theorem upper_desc {l : List (Int × Int)} (h : Asc l) : Desc (upperL l) := by
  have H := (half_is (asc_ng h)).desc
  rw [← half_ng] at H
  unfold upperL Desc
  rw [List.pairwise_reverse]
  unfold Desc at H
  rw [List.pairwise_map] at H
  exact H.imp fun h => lx_ng.mp h
theorem lower_sub {l : List (Int × Int)} (h : Asc l) : ∀ c ∈ lowerL l, c ∈ l := fun c hc => (half_is h).sub c (by simpa [lowerL] using hc)
theorem upper_sub {l : List (Int × Int)} (h : Asc l) : ∀ c ∈ upperL l, c ∈ l := fun c hc => by
  have := (half_is (asc_ng h)).sub (ng c) (by rw [← half_ng]; exact List.mem_map.mpr ⟨c, by simpa [upperL] using hc, rfl⟩)
  obtain ⟨d, hd, e⟩ := List.mem_map.mp this
  have : d = c := by rw [← ng_ng d, e, ng_ng]
  subst this
  simpa using hd

/-- The hull, of points in order, each once. -/
def hullL (l : List (Int × Int)) : List (Int × Int) := if (lowerL l).length < 2 then lowerL l else (lowerL l).dropLast ++ (upperL l).dropLast
theorem drop_last {L : List (Int × Int)} {z : Int × Int} (h : L.getLast? = some z) : L = L.dropLast ++ [z] := by
  have hne : L ≠ [] := by rintro rfl; simp at h
  have e := List.dropLast_concat_getLast hne
  rw [List.getLast?_eq_some_getLast hne] at h
  have := Option.some.inj h
  rw [this] at e
  exact e.symm
theorem asc_ends {x y : Int × Int} {r : List (Int × Int)} (h : Asc (x :: y :: r)) : ∃ z, (x :: y :: r).getLast? = some z ∧ lx x z := by
  cases e : (y :: r).getLast? with
  | none => simp at e
  | some z => exact ⟨z, by rw [List.getLast?_cons, e]; rfl, (List.pairwise_cons.mp h).1 z (List.mem_of_getLast? e)⟩
theorem hull_cyc {l : List (Int × Int)} (h : Asc l) (h2 : 2 ≤ l.length) : ∃ x0 xs, l.head? = some x0 ∧ hullL l = x0 :: xs ∧ Cyc l x0 xs := by
  obtain ⟨x0, y0, r, rfl⟩ : ∃ x y r, l = x :: y :: r := by
    cases l with
    | nil => simp at h2
    | cons x l => cases l with
      | nil => simp at h2
      | cons y r => exact ⟨x, y, r, rfl⟩
  obtain ⟨z, hz, hxz⟩ := asc_ends h
  obtain ⟨a1, a2⟩ := lower_ends h
  obtain ⟨b1, b2⟩ := upper_ends h
  rw [hz] at a2 b1
  have hL := lower_links h
  have hU := upper_links h
  have hA := lower_asc h
  have hD := upper_desc h
  have sL := lower_sub h
  have sU := upper_sub h
  obtain ⟨Lo, e0⟩ : ∃ Lo, lowerL (x0 :: y0 :: r) = Lo := ⟨_, rfl⟩
  obtain ⟨Up, f0⟩ : ∃ Up, upperL (x0 :: y0 :: r) = Up := ⟨_, rfl⟩
  rw [e0] at a1 a2 hL hA sL
  rw [f0] at b1 b2 hU hD sU
  obtain ⟨L1, rfl⟩ : ∃ L1, Lo = x0 :: L1 := by cases Lo with | nil => simp at a1 | cons a b => simp at a1; exact ⟨b, by rw [a1]⟩
  obtain ⟨U1, rfl⟩ : ∃ U1, Up = z :: U1 := by cases Up with | nil => simp at b1 | cons a b => simp at b1; exact ⟨b, by rw [b1]⟩
  obtain ⟨L2, e2⟩ : ∃ L2, x0 :: L1 = L2 ++ [z] := ⟨_, drop_last a2⟩
  obtain ⟨U2, f2⟩ : ∃ U2, z :: U1 = U2 ++ [x0] := ⟨_, drop_last b2⟩
  obtain ⟨L3, rfl⟩ : ∃ L3, L2 = x0 :: L3 := by
    cases L2 with
    | nil => simp at e2; exact absurd (e2.1 ▸ hxz) lx_irr
    | cons a b => simp at e2; exact ⟨b, by rw [e2.1]⟩
  have eH : hullL (x0 :: y0 :: r) = x0 :: (L3 ++ U2) := by
    unfold hullL
    rw [show lowerL (x0 :: y0 :: r) = x0 :: L3 ++ [z] from e0.trans e2, show upperL (x0 :: y0 :: r) = U2 ++ [x0] from f0.trans f2, if_neg (by simp), List.dropLast_concat, List.dropLast_concat]
    rfl
  refine ⟨x0, L3 ++ U2, rfl, eH, ?_, ?_, ?_⟩
  · have : x0 :: (L3 ++ U2 ++ [x0]) = (x0 :: L3) ++ z :: U1 := by rw [f2]; simp
    rw [this]
    exact links_join _ (by rw [← e2]; exact hL) hU
  · intro x hx
    simp only [List.mem_cons, List.mem_append] at hx
    rcases hx with rfl | hx | hx
    · simp
    · exact sL x (by rw [e2]; simp [hx])
    · exact sU x (by rw [f2]; simp [hx])
  · intro hx
    rcases List.mem_append.mp hx with hx | hx
    · have e3 : L1 = L3 ++ [z] := by simpa using e2
      exact lx_irr ((List.pairwise_cons.mp hA).1 x0 (by rw [e3]; simp [hx]))
    · rw [f2] at hD
      exact lx_irr ((List.pairwise_append.mp hD).2.2 x0 hx x0 (by simp))
theorem hull_unique {l : List (Int × Int)} (h : Asc l) (h2 : 2 ≤ l.length) {x0 : Int × Int} {xs : List (Int × Int)} (h0 : l.head? = some x0) (k : Cyc l x0 xs) : hullL l = x0 :: xs := by
  obtain ⟨y0, ys, a, b, c⟩ := hull_cyc h h2
  obtain rfl : y0 = x0 := Option.some.inj (a.symm.trans h0)
  rw [b, cyc_unique c k]
theorem hull_one (p : Int × Int) : hullL [p] = [p] := rfl
theorem hull_none : hullL [] = [] := rfl
/-- All on one line: the ends. -/
theorem hull_flat {x0 z : Int × Int} {l : List (Int × Int)} (h : Asc l) (h2 : 2 ≤ l.length) (h0 : l.head? = some x0) (hz : l.getLast? = some z) (hf : ∀ p ∈ l, cr x0 z p = 0) : hullL l = [x0, z] := by
  have hxz : lx x0 z := by
    cases l with
    | nil => simp at h2
    | cons x l => cases l with
      | nil => simp at h2
      | cons y r =>
        obtain ⟨z', e, hl⟩ := asc_ends h
        simp at h0
        subst h0
        rw [hz] at e
        rw [Option.some.inj e]; exact hl
  have hne : x0 ≠ z := fun e => by subst e; exact lx_irr hxz
  have m0 : x0 ∈ l := List.mem_of_head? h0
  have mz : z ∈ l := List.mem_of_getLast? hz
  have lo : ∀ p ∈ l, p = x0 ∨ lx x0 p := fun p hp => by
    cases l with
    | nil => cases hp
    | cons x l =>
      simp at h0; subst h0
      rcases List.mem_cons.mp hp with e | hp
      · exact Or.inl e
      · exact Or.inr ((List.pairwise_cons.mp h).1 p hp)
  have hi : ∀ p ∈ l, p = z ∨ lx p z := fun p hp => by
    rw [drop_last hz] at h hp
    rcases List.mem_append.mp hp with hp | hp
    · exact Or.inr ((List.pairwise_append.mp h).2.2 p hp z (by simp))
    · exact Or.inl (by simpa using hp)
  refine hull_unique h h2 h0 ⟨⟨⟨hne, fun p hp => ⟨by rw [hf p hp]; omega, fun e => bt_of hxz e (lo p hp) (hi p hp)⟩⟩, ⟨hne.symm, fun p hp => ⟨?_, fun e => (bt_of hxz (hf p hp) (lo p hp) (hi p hp)).symm⟩⟩, trivial⟩, ?_, ?_⟩
  · rw [cr_rev, hf p hp]; omega
  · intro x hx
    simp at hx
    rcases hx with rfl | rfl
    · exact m0
    · exact mz
  · simpa using hne
end
end Go.Proofs.Ytljdnahomhbenaa
