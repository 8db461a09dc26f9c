/- Plain: fractions in lowest terms; where along a segment a point is. -/
import Derived.Test.YtagabccaipfjeaaPlain
namespace Go.Proofs.Ytagabccaipfjeaa

abbrev P2 := Int × Int
abbrev Fr := Int × Int

def sgI (d : Int) : Int := if d < 0 then -1 else 1
/-- A fraction in lowest terms, its second number above 0. -/
def lowF (n d : Int) : Fr := (Int.tdiv n (sgI d * (Int.gcd n d : Int)), Int.tdiv d (sgI d * (Int.gcd n d : Int)))

theorem sgI_sq (d : Int) : sgI d * sgI d = 1 := by unfold sgI; split <;> rfl
theorem lowF_parts {n d : Int} (hd : d ≠ 0) : ∃ k p q : Int, k ≠ 0 ∧ (0 < k ↔ 0 < d) ∧ n = k * p ∧ d = k * q ∧ 0 < q ∧ Int.gcd p q = 1 ∧ lowF n d = (p, q) ∧ k = sgI d * (Int.gcd n d : Int) := by
  have hg : 0 < Int.gcd n d := by
    rcases Nat.eq_zero_or_pos (Int.gcd n d) with h | h
    · exact absurd (Int.gcd_eq_zero_iff.mp h).2 hd
    · exact h
  obtain ⟨p, hp⟩ := Int.gcd_dvd_left n d
  obtain ⟨q, hq⟩ := Int.gcd_dvd_right n d
  have hc : Int.gcd p q = 1 := by
    have h := Int.gcd_mul_left (Int.gcd n d : Int) p q
    rw [← hp, ← hq, Int.natAbs_natCast] at h
    have : Int.gcd n d * 1 = Int.gcd n d * Int.gcd p q := by rw [Nat.mul_one]; exact h
    exact (Nat.eq_of_mul_eq_mul_left hg this).symm
  generalize hG : (Int.gcd n d : Int) = G at *
  have hG0 : 0 < G := by omega
  have s2 := sgI_sq d
  have hs : sgI d ≠ 0 := by intro h; rw [h] at s2; simp at s2
  have hk : sgI d * G ≠ 0 := Int.mul_ne_zero hs (by omega)
  have hn : n = sgI d * G * (sgI d * p) := by rw [hp]; grind
  have hd' : d = sgI d * G * (sgI d * q) := by
    have : sgI d * G * (sgI d * q) = G * q := by grind
    rw [this]; exact hq
  refine ⟨sgI d * G, sgI d * p, sgI d * q, hk, ?_, hn, hd', ?_, ?_, ?_, rfl⟩
  · unfold sgI; split
    · constructor <;> intro h <;> omega
    · constructor <;> intro h <;> omega
  · have h0 : d ≠ 0 := hd
    rcases Int.lt_or_gt_of_ne h0 with h | h
    · have e : sgI d = -1 := by unfold sgI; rw [if_pos h]
      rw [e]
      have : q < 0 := by
        rcases Int.lt_trichotomy q 0 with h' | h' | h'
        · exact h'
        · subst h'; simp at hq; omega
        · have := Int.mul_pos hG0 h'; omega
      omega
    · have e : sgI d = 1 := by unfold sgI; rw [if_neg (by omega)]
      rw [e]
      have : 0 < q := by
        rcases Int.lt_trichotomy q 0 with h' | h' | h'
        · have := Int.mul_neg_of_pos_of_neg hG0 h'; omega
        · subst h'; simp at hq; omega
        · exact h'
      omega
  · unfold sgI; split <;> simp [Int.neg_mul, hc]
  · show (Int.tdiv n (sgI d * (Int.gcd n d : Int)), Int.tdiv d (sgI d * (Int.gcd n d : Int))) = _
    rw [hG]
    refine Prod.ext ?_ ?_
    · show Int.tdiv n (sgI d * G) = _
      conv => lhs; arg 1; rw [hn]
      exact Int.mul_tdiv_cancel_left _ hk
    · show Int.tdiv d (sgI d * G) = _
      conv => lhs; arg 1; rw [hd']
      exact Int.mul_tdiv_cancel_left _ hk

theorem dvd_cop {a b c : Int} (h : a ∣ b * c) (k : Int.gcd a b = 1) : a ∣ c := by
  have h1 : a.natAbs ∣ b.natAbs * c.natAbs := by rw [← Int.natAbs_mul]; exact Int.natAbs_dvd_natAbs.mpr h
  exact Int.natAbs_dvd_natAbs.mp (Nat.Coprime.dvd_of_dvd_mul_left (k := a.natAbs) (m := b.natAbs) k h1)
theorem low_unique {p q p' q' : Int} (h : p * q' = p' * q) (hq : 0 < q) (hq' : 0 < q') (c : Int.gcd p q = 1) (c' : Int.gcd p' q' = 1) : p = p' ∧ q = q' := by
  have d1 : q ∣ q' := by
    have : q ∣ p * q' := ⟨p', by rw [h, Int.mul_comm]⟩
    exact dvd_cop this (by rw [Int.gcd_comm]; exact c)
  have d2 : q' ∣ q := by
    have : q' ∣ p' * q := ⟨p, by rw [← h, Int.mul_comm]⟩
    exact dvd_cop this (by rw [Int.gcd_comm]; exact c')
  have e : q = q' := Int.le_antisymm (Int.le_of_dvd hq' d1) (Int.le_of_dvd hq d2)
  subst e
  exact ⟨Int.eq_of_mul_eq_mul_right (by omega) h, rfl⟩

theorem lowF_eq {n d n' d' : Int} (hd : d ≠ 0) (hd' : d' ≠ 0) (h : n * d' = n' * d) : lowF n d = lowF n' d' := by
  obtain ⟨k, p, q, hk, _, e1, e2, hq, c, e, _⟩ := lowF_parts (n := n) hd
  obtain ⟨k', p', q', hk', _, e1', e2', hq', c', e', _⟩ := lowF_parts (n := n') hd'
  rw [e, e']
  have : k * k' * (p * q') = k * k' * (p' * q) := by rw [e1, e2, e1', e2'] at h; grind
  have := Int.eq_of_mul_eq_mul_left (Int.mul_ne_zero hk hk') this
  obtain ⟨a, b⟩ := low_unique this hq hq' c c'
  rw [a, b]

theorem lowF_inj {n d n' d' : Int} (hd : d ≠ 0) (hd' : d' ≠ 0) (h : lowF n d = lowF n' d') : n * d' = n' * d := by
  obtain ⟨k, p, q, hk, _, e1, e2, hq, c, e, _⟩ := lowF_parts (n := n) hd
  obtain ⟨k', p', q', hk', _, e1', e2', hq', c', e', _⟩ := lowF_parts (n := n') hd'
  rw [e, e'] at h
  have h1 : p = p' := congrArg Prod.fst h
  have h2 : q = q' := congrArg Prod.snd h
  rw [e1, e2, e1', e2', h1, h2]; grind

/-- Is a fraction below another? -/
def ltF (x y : Fr) : Bool := decide (x.1 * y.2 < y.1 * x.2)
theorem lowF_lt {t t' N : Int} (hN : 0 < N) : ltF (lowF t N) (lowF t' N) = decide (t < t') := by
  obtain ⟨k, p, q, hk, k0, e1, e2, hq, c, e, _⟩ := lowF_parts (n := t) (d := N) (by omega)
  obtain ⟨k', p', q', hk', k0', e1', e2', hq', c', e', _⟩ := lowF_parts (n := t') (d := N) (by omega)
  rw [e, e']
  have hk0 := k0.mpr hN
  have hk0' := k0'.mpr hN
  have hkk : 0 < k * k' := Int.mul_pos hk0 hk0'
  unfold ltF
  have a1 : k * k' * (p * q') = t * N := by grind
  have a2 : k * k' * (p' * q) = t' * N := by grind
  have : (p * q' < p' * q) ↔ (t < t') := by
    constructor
    · intro h
      have := Int.mul_lt_mul_of_pos_left h hkk
      rw [a1, a2] at this
      exact Int.lt_of_mul_lt_mul_right this (by omega)
    · intro h
      have := Int.mul_lt_mul_of_pos_right h hN
      rw [← a1, ← a2] at this
      exact Int.lt_of_mul_lt_mul_left this (by omega)
  simp only [this]

theorem lowF_iff {t t' N : Int} (hN : 0 < N) : lowF t N = lowF t' N ↔ t = t' := by
  constructor
  · intro h
    have := lowF_inj (by omega) (by omega) h
    exact Int.eq_of_mul_eq_mul_right (by omega) this
  · intro h; rw [h]
theorem lowF_zero {N : Int} (hN : N ≠ 0) : lowF 0 N = (0, 1) := by
  rw [lowF_eq (n := 0) (d := N) (n' := 0) (d' := 1) hN (by omega) (by omega)]; rfl
theorem lowF_one {N : Int} (hN : N ≠ 0) : lowF N N = (1, 1) := by
  rw [lowF_eq (n := N) (d := N) (n' := 1) (d' := 1) hN (by omega) (by omega)]; rfl
/-- 1 less a fraction. -/
theorem lowF_less {t N : Int} (hN : N ≠ 0) : lowF (N - t) N = ((lowF t N).2 - (lowF t N).1, (lowF t N).2) := by
  obtain ⟨k, p, q, hk, k0, e1, e2, hq, c, e, _⟩ := lowF_parts (n := t) (d := N) hN
  obtain ⟨k', p', q', hk', k0', e1', e2', hq', c', e', _⟩ := lowF_parts (n := N - t) (d := N) hN
  rw [e, e']
  have h : k * k' * (p' * q) = k * k' * ((q - p) * q') := by
    have a1 : k * k' * (p' * q) = (N - t) * N := by grind
    have a2 : k * k' * ((q - p) * q') = (N - t) * N := by grind
    rw [a1, a2]
  have h' := Int.eq_of_mul_eq_mul_left (Int.mul_ne_zero hk hk') h
  have c2 : Int.gcd (q - p) q = 1 := by
    rw [Int.gcd_comm, ← Int.gcd_neg, Int.neg_sub, Int.gcd_comm]
    have : p - q = p - q * 1 := by omega
    rw [Int.gcd_sub_right_left_of_dvd _ (Int.dvd_refl _)]
    exact c
  obtain ⟨x, y⟩ := low_unique h' hq' hq c' c2
  show (p', q') = (q - p, q)
  rw [x, y]
end Go.Proofs.Ytagabccaipfjeaa
