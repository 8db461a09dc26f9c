/- Plain: fractions in lowest terms; where along a segment a point is. Plain: which points are on a segment; what two segments have in common, as their ends show it. -/
import Derived.Test.YtgcofpfjdplopaaGreatWordJ
namespace Go.Proofs.YtgcofpfjdplopaaGreat
section
abbrev P2 := Int × Int
abbrev Fr := Int × Int

def sgI (d : Int) : Int := if d < 0 then -1 else 1
/-- A fraction in lowest terms, its second number above 0. -/
def lowF (n d : Int) : Fr := (Int.tdiv n (sgI d * (Int.gcd n d : Int)), Int.tdiv d (sgI d * (Int.gcd n d : Int)))

theorem sgI_sq (d : Int) : sgI d * sgI d = 1 := by unfold sgI; split <;> rfl
theorem lowF_parts {n d : Int} (hd : d ≠ 0) : ∃ k p q : Int, k ≠ 0 ∧ (0 < k ↔ 0 < d) ∧ n = k * p ∧ d = k * q ∧ 0 < q ∧ Int.gcd p q = 1 ∧ lowF n d = (p, q) ∧ k = sgI d * (Int.gcd n d : Int) := by
  have hg : 0 < Int.gcd n d := by
    rcases Nat.eq_zero_or_pos (Int.gcd n d) with h | h
    · exact absurd (Int.gcd_eq_zero_iff.mp h).2 hd
    · exact h
  obtain ⟨p, hp⟩ := Int.gcd_dvd_left n d
  obtain ⟨q, hq⟩ := Int.gcd_dvd_right n d
  have hc : Int.gcd p q = 1 := by
    have h := Int.gcd_mul_left (Int.gcd n d : Int) p q
    rw [← hp, ← hq, Int.natAbs_natCast] at h
    have : Int.gcd n d * 1 = Int.gcd n d * Int.gcd p q := by rw [Nat.mul_one]; exact h
    exact (Nat.eq_of_mul_eq_mul_left hg this).symm
  generalize hG : (Int.gcd n d : Int) = G at *
  have hG0 : 0 < G := by omega
  have s2 := sgI_sq d
  have hs : sgI d ≠ 0 := by intro h; rw [h] at s2; simp at s2
  have hk : sgI d * G ≠ 0 := Int.mul_ne_zero hs (by omega)
  have hn : n = sgI d * G * (sgI d * p) := by rw [hp]; grind
  have hd' : d = sgI d * G * (sgI d * q) := by
    have : sgI d * G * (sgI d * q) = G * q := by grind
    rw [this]; exact hq
  refine ⟨sgI d * G, sgI d * p, sgI d * q, hk, ?_, hn, hd', ?_, ?_, ?_, rfl⟩
  · unfold sgI; split
    · constructor <;> intro h <;> omega
    · constructor <;> intro h <;> omega
  · have h0 : d ≠ 0 := hd
    rcases Int.lt_or_gt_of_ne h0 with h | h
    · have e : sgI d = -1 := by unfold sgI; rw [if_pos h]
      rw [e]
      have : q < 0 := by
        rcases Int.lt_trichotomy q 0 with h' | h' | h'
        · exact h'
        · subst h'; simp at hq; omega
        · have := Int.mul_pos hG0 h'; omega
      omega
    · have e : sgI d = 1 := by unfold sgI; rw [if_neg (by omega)]
      rw [e]
      have : 0 < q := by
        rcases Int.lt_trichotomy q 0 with h' | h' | h'
        · have := Int.mul_neg_of_pos_of_neg hG0 h'; omega
        · subst h'; simp at hq; omega
        · exact h'
      omega
  · unfold sgI; split <;> simp [Int.neg_mul, hc]
  · show (Int.tdiv n (sgI d * (Int.gcd n d : Int)), Int.tdiv d (sgI d * (Int.gcd n d : Int))) = _
    rw [hG]
    refine Prod.ext ?_ ?_
    · show Int.tdiv n (sgI d * G) = _
      conv => lhs; arg 1; rw [hn]
      exact Int.mul_tdiv_cancel_left _ hk
    · show Int.tdiv d (sgI d * G) = _
      conv => lhs; arg 1; rw [hd']
      exact Int.mul_tdiv_cancel_left _ hk

theorem dvd_cop {a b c : Int} (h : a ∣ b * c) (k : Int.gcd a b = 1) : a ∣ c := by
  have h1 : a.natAbs ∣ b.natAbs * c.natAbs := by rw [← Int.natAbs_mul]; exact Int.natAbs_dvd_natAbs.mpr h
  exact Int.natAbs_dvd_natAbs.mp (Nat.Coprime.dvd_of_dvd_mul_left (k := a.natAbs) (m := b.natAbs) k h1)
theorem low_unique {p q p' q' : Int} (h : p * q' = p' * q) (hq : 0 < q) (hq' : 0 < q') (c : Int.gcd p q = 1) (c' : Int.gcd p' q' = 1) : p = p' ∧ q = q' := by
  have d1 : q ∣ q' := by
    have : q ∣ p * q' := ⟨p', by rw [h, Int.mul_comm]⟩
    exact dvd_cop this (by rw [Int.gcd_comm]; exact c)
  have d2 : q' ∣ q := by
    have : q' ∣ p' * q := ⟨p, by rw [← h, Int.mul_comm]⟩
    exact dvd_cop this (by rw [Int.gcd_comm]; exact c')
  have e : q = q' := Int.le_antisymm (Int.le_of_dvd hq' d1) (Int.le_of_dvd hq d2)
  subst e
  exact ⟨Int.eq_of_mul_eq_mul_right (by omega) h, rfl⟩

theorem lowF_eq {n d n' d' : Int} (hd : d ≠ 0) (hd' : d' ≠ 0) (h : n * d' = n' * d) : lowF n d = lowF n' d' := by
  obtain ⟨k, p, q, hk, _, e1, e2, hq, c, e, _⟩ := lowF_parts (n := n) hd
  obtain ⟨k', p', q', hk', _, e1', e2', hq', c', e', _⟩ := lowF_parts (n := n') hd'
  rw [e, e']
  have : k * k' * (p * q') = k * k' * (p' * q) := by rw [e1, e2, e1', e2'] at h; grind
  have := Int.eq_of_mul_eq_mul_left (Int.mul_ne_zero hk hk') this
  obtain ⟨a, b⟩ := low_unique this hq hq' c c'
  rw [a, b]

theorem lowF_inj {n d n' d' : Int} (hd : d ≠ 0) (hd' : d' ≠ 0) (h : lowF n d = lowF n' d') : n * d' = n' * d := by
  obtain ⟨k, p, q, hk, _, e1, e2, hq, c, e, _⟩ := lowF_parts (n := n) hd
  obtain ⟨k', p', q', hk', _, e1', e2', hq', c', e', _⟩ := lowF_parts (n := n') hd'
  rw [e, e'] at h
  have h1 : p = p' := congrArg Prod.fst h
  have h2 : q = q' := congrArg Prod.snd h
  rw [e1, e2, e1', e2', h1, h2]; grind

/-- Is a fraction below another? -/
def ltF (x y : Fr) : Bool := decide (x.1 * y.2 < y.1 * x.2)
theorem lowF_lt {t t' N : Int} (hN : 0 < N) : ltF (lowF t N) (lowF t' N) = decide (t < t') := by
  obtain ⟨k, p, q, hk, k0, e1, e2, hq, c, e, _⟩ := lowF_parts (n := t) (d := N) (by omega)
  obtain ⟨k', p', q', hk', k0', e1', e2', hq', c', e', _⟩ := lowF_parts (n := t') (d := N) (by omega)
  rw [e, e']
  have hk0 := k0.mpr hN
  have hk0' := k0'.mpr hN
  have hkk : 0 < k * k' := Int.mul_pos hk0 hk0'
  unfold ltF
  have a1 : k * k' * (p * q') = t * N := by grind
  have a2 : k * k' * (p' * q) = t' * N := by grind
  have : (p * q' < p' * q) ↔ (t < t') := by
    constructor
    · intro h
      have := Int.mul_lt_mul_of_pos_left h hkk
      rw [a1, a2] at this
      exact Int.lt_of_mul_lt_mul_right this (by omega)
    · intro h
      have := Int.mul_lt_mul_of_pos_right h hN
      rw [← a1, ← a2] at this
      exact Int.lt_of_mul_lt_mul_left this (by omega)
  simp only [this]

theorem lowF_iff {t t' N : Int} (hN : 0 < N) : lowF t N = lowF t' N ↔ t = t' := by
  constructor
  · intro h
    have := lowF_inj (by omega) (by omega) h
    exact Int.eq_of_mul_eq_mul_right (by omega) this
  · intro h; rw [h]
theorem lowF_zero {N : Int} (hN : N ≠ 0) : lowF 0 N = (0, 1) := by
  rw [lowF_eq (n := 0) (d := N) (n' := 0) (d' := 1) hN (by omega) (by omega)]; rfl
theorem lowF_one {N : Int} (hN : N ≠ 0) : lowF N N = (1, 1) := by
  rw [lowF_eq (n := N) (d := N) (n' := 1) (d' := 1) hN (by omega) (by omega)]; rfl
/-- 1 less a fraction. -/
theorem lowF_less {t N : Int} (hN : N ≠ 0) : lowF (N - t) N = ((lowF t N).2 - (lowF t N).1, (lowF t N).2) := by
  obtain ⟨k, p, q, hk, k0, e1, e2, hq, c, e, _⟩ := lowF_parts (n := t) (d := N) hN
  obtain ⟨k', p', q', hk', k0', e1', e2', hq', c', e', _⟩ := lowF_parts (n := N - t) (d := N) hN
  rw [e, e']
  have h : k * k' * (p' * q) = k * k' * ((q - p) * q') := by
    have a1 : k * k' * (p' * q) = (N - t) * N := by grind
    have a2 : k * k' * ((q - p) * q') = (N - t) * N := by grind
    rw [a1, a2]
  have h' := Int.eq_of_mul_eq_mul_left (Int.mul_ne_zero hk hk') h
  have c2 : Int.gcd (q - p) q = 1 := by
    rw [Int.gcd_comm, ← Int.gcd_neg, Int.neg_sub, Int.gcd_comm]
    have : p - q = p - q * 1 := by omega
    rw [Int.gcd_sub_right_left_of_dvd _ (Int.dvd_refl _)]
    exact c
  obtain ⟨x, y⟩ := low_unique h' hq' hq c' c2
  show (p', q') = (q - p, q)
  rw [x, y]
end
section
theorem lt_ge (a b : Int) : a < b ∨ b ≤ a := by omega
theorem nn_mul {a b : Int} (h : 0 ≤ a) (k : 0 ≤ b) : 0 ≤ a * b := Int.mul_nonneg h k
/-- What lies between, by a ratio from 0 to 1. -/
theorem btw {N x X T : Int} (hN : 0 < N) (h : N * x = X * T) (h0 : 0 ≤ T) (h1 : T ≤ N) : (0 ≤ x ∧ x ≤ X) ∨ (X ≤ x ∧ x ≤ 0) := by
  rcases Int.le_total 0 X with hX | hX
  · left
    constructor
    · have : N * 0 ≤ N * x := by rw [h, Int.mul_zero]; exact nn_mul hX h0
      exact Int.le_of_mul_le_mul_left this hN
    · have : N * x ≤ N * X := by rw [h, Int.mul_comm N X]; exact Int.mul_le_mul_of_nonneg_left h1 hX
      exact Int.le_of_mul_le_mul_left this hN
  · right
    constructor
    · have : N * X ≤ N * x := by rw [h, Int.mul_comm N X]; exact Int.mul_le_mul_of_nonpos_left hX h1
      exact Int.le_of_mul_le_mul_left this hN
    · have : N * x ≤ N * 0 := by rw [h, Int.mul_zero]; exact Int.mul_nonpos_of_nonpos_of_nonneg hX h0
      exact Int.le_of_mul_le_mul_left this hN
/-- A number between 0 and X has a product with X between 0 and the square. -/
theorem btw_prod {x X : Int} (h : (0 ≤ x ∧ x ≤ X) ∨ (X ≤ x ∧ x ≤ 0)) : 0 ≤ X * x ∧ X * x ≤ X * X := by
  rcases h with ⟨a, b⟩ | ⟨a, b⟩
  · exact ⟨nn_mul (by omega) a, Int.mul_le_mul_of_nonneg_left b (by omega)⟩
  · exact ⟨Int.mul_nonneg_of_nonpos_of_nonpos (by omega) b, Int.mul_le_mul_of_nonpos_left (by omega) a⟩
theorem sq_nn (x : Int) : 0 ≤ x * x := by rcases Int.le_total 0 x with h | h; exact nn_mul h h; exact Int.mul_nonneg_of_nonpos_of_nonpos h h
theorem sq_pos {x : Int} (h : x ≠ 0) : 0 < x * x := by
  have := sq_nn x
  have : x * x ≠ 0 := Int.mul_ne_zero h h
  omega

def crs (o a b : P2) : Int := (a.1 - o.1) * (b.2 - o.2) - (a.2 - o.2) * (b.1 - o.1)
def dtt (o a b : P2) : Int := (a.1 - o.1) * (b.1 - o.1) + (a.2 - o.2) * (b.2 - o.2)
def dd (a b : P2) : Int := (b.1 - a.1) * (b.1 - a.1) + (b.2 - a.2) * (b.2 - a.2)
theorem dd_nn (a b : P2) : 0 ≤ dd a b := by unfold dd; have := sq_nn (b.1 - a.1); have := sq_nn (b.2 - a.2); omega
theorem dd_pos {a b : P2} (h : a ≠ b) : 0 < dd a b := by
  unfold dd
  have h1 := sq_nn (b.1 - a.1)
  have h2 := sq_nn (b.2 - a.2)
  by_cases hx : b.1 - a.1 = 0
  · by_cases hy : b.2 - a.2 = 0
    · exact absurd (Prod.ext (by omega) (by omega)) h
    · have := sq_pos hy; omega
  · have := sq_pos hx; omega

/-- Is p on the segment from a to b? -/
def On (p a b : P2) : Prop := crs a b p = 0 ∧ (min a.1 b.1 ≤ p.1 ∧ p.1 ≤ max a.1 b.1) ∧ (min a.2 b.2 ≤ p.2 ∧ p.2 ≤ max a.2 b.2)
theorem on_same (p a : P2) : On p a a ↔ p = a := by
  unfold On
  constructor
  · rintro ⟨_, h1, h2⟩; exact Prod.ext (by omega) (by omega)
  · rintro rfl; unfold crs; simp
theorem on_iff {p a b : P2} (h : a ≠ b) : On p a b ↔ crs a b p = 0 ∧ 0 ≤ dtt a b p ∧ dtt a b p ≤ dd a b := by
  have hN := dd_pos h
  constructor
  · rintro ⟨hc, h1, h2⟩
    have b1 := btw_prod (x := p.1 - a.1) (X := b.1 - a.1) (by omega)
    have b2 := btw_prod (x := p.2 - a.2) (X := b.2 - a.2) (by omega)
    refine ⟨hc, ?_, ?_⟩ <;> unfold dtt <;> (try unfold dd) <;> omega
  · rintro ⟨hc, h1, h2⟩
    have e1 : dd a b * (p.1 - a.1) = (b.1 - a.1) * dtt a b p := by unfold dd dtt; unfold crs at hc; grind
    have e2 : dd a b * (p.2 - a.2) = (b.2 - a.2) * dtt a b p := by unfold dd dtt; unfold crs at hc; grind
    have q1 := btw hN e1 h1 h2
    have q2 := btw hN e2 h1 h2
    exact ⟨hc, by omega, by omega⟩
theorem on_left (a b : P2) : On a a b := by unfold On crs; refine ⟨by grind, by omega, by omega⟩
theorem on_right (a b : P2) : On b a b := by unfold On crs; refine ⟨by grind, by omega, by omega⟩
theorem on_swap (p a b : P2) : On p a b ↔ On p b a := by
  have : crs b a p = - crs a b p := by unfold crs; grind
  unfold On; rw [this]
  constructor <;> rintro ⟨h, h1, h2⟩ <;> exact ⟨by omega, by omega, by omega⟩

/-- Two numbers of unlike sign, or one of them 0. -/
def opp (A B : Int) : Prop := (A ≤ 0 ∧ 0 ≤ B) ∨ (B ≤ 0 ∧ 0 ≤ A)

/-- e on the line of a and b, and on that of c and d: where along a, b. -/
theorem along_eq {a b c d e : P2} (h : crs a b e = 0) (k : crs c d e = 0) : dtt a b e * (crs c d a - crs c d b) = crs c d a * dd a b := by
  unfold crs at *; unfold dtt dd; grind
theorem sides (a b c d : P2) : crs c d a - crs c d b = crs a b d - crs a b c := by unfold crs; grind

/-- A ratio from 0 to 1 has ends of unlike sign. -/
theorem opp_of {T N A B : Int} (hN : 0 < N) (h : T * (A - B) = A * N) (h0 : 0 ≤ T) (h1 : T ≤ N) : opp A B := by
  have h' : (N - T) * (A - B) = - (B * N) := by grind
  unfold opp
  rcases Int.le_total 0 (A - B) with k | k
  · right
    have a1 : 0 ≤ A * N := by rw [← h]; exact nn_mul h0 k
    have a2 : 0 ≤ -(B * N) := by rw [← h']; exact nn_mul (by omega) k
    constructor
    · rcases lt_ge 0 B with g | g
      · have := Int.mul_pos g hN; omega
      · exact g
    · rcases lt_ge A 0 with g | g
      · have := Int.mul_neg_of_neg_of_pos g hN; omega
      · exact g
  · left
    have a1 : A * N ≤ 0 := by rw [← h]; exact Int.mul_nonpos_of_nonneg_of_nonpos h0 k
    have a2 : -(B * N) ≤ 0 := by rw [← h']; exact Int.mul_nonpos_of_nonneg_of_nonpos (by omega) k
    constructor
    · rcases lt_ge 0 A with g | g
      · have := Int.mul_pos g hN; omega
      · exact g
    · rcases lt_ge B 0 with g | g
      · have := Int.mul_neg_of_neg_of_pos g hN; omega
      · exact g
/-- An end on the other's line, the other's ends on either side: it is on the other. -/
theorem on_of_opp {a b c d : P2} (h : crs c d a = 0) (k : opp (crs a b c) (crs a b d)) (hne : crs a b c ≠ crs a b d) : On a c d := by
  have hcd : c ≠ d := by rintro rfl; exact hne rfl
  rw [on_iff hcd]
  have e := along_eq (a := c) (b := d) (c := a) (d := b) (e := a) h (by unfold crs; grind)
  have hN := dd_pos hcd
  generalize dtt c d a = T at *
  generalize dd c d = N at *
  generalize crs a b c = C at *
  generalize crs a b d = D at *
  refine ⟨h, ?_, ?_⟩
  · rcases lt_ge T 0 with g | g
    · exfalso
      rcases k with ⟨k1, k2⟩ | ⟨k1, k2⟩
      · have x : 0 < T * (C - D) := Int.mul_pos_of_neg_of_neg g (by omega)
        have y : C * N ≤ 0 := Int.mul_nonpos_of_nonpos_of_nonneg k1 (by omega)
        omega
      · have x : T * (C - D) < 0 := Int.mul_neg_of_neg_of_pos g (by omega)
        have y : 0 ≤ C * N := nn_mul k2 (by omega)
        omega
    · exact g
  · rcases lt_ge N T with g | g
    · exfalso
      have e' : (T - N) * (C - D) = D * N := by grind
      rcases k with ⟨k1, k2⟩ | ⟨k1, k2⟩
      · have x : (T - N) * (C - D) < 0 := Int.mul_neg_of_pos_of_neg (by omega) (by omega)
        have y : 0 ≤ D * N := nn_mul k2 (by omega)
        omega
      · have x : 0 < (T - N) * (C - D) := Int.mul_pos (by omega) (by omega)
        have y : D * N ≤ 0 := Int.mul_nonpos_of_nonpos_of_nonneg k1 (by omega)
        omega
    · exact g
end
end Go.Proofs.YtgcofpfjdplopaaGreat
