/- Plain: a root of a middling number above 0, and how far it is off. -/
import Derived.Test.YtgdmbcfjjdngdaaDoorEr3
set_option linter.unusedSimpArgs false
namespace Go.Proofs.YtgdmbcfjjdngdaaDoor
open Ieee

theorem rootFrom_ok (n : Nat) : ∀ (t r : Nat), r * r ≤ n → n < (r + 2 ^ t) * (r + 2 ^ t) → Datum.rootFrom n t r * Datum.rootFrom n t r ≤ n ∧ n < (Datum.rootFrom n t r + 1) * (Datum.rootFrom n t r + 1)
  | 0, r, h1, h2 => by
    unfold Datum.rootFrom
    exact ⟨h1, by rw [Nat.pow_zero] at h2; exact h2⟩
  | t + 1, r, h1, h2 => by
    unfold Datum.rootFrom
    simp only [Nat.one_shiftLeft]
    by_cases c : (r + 2 ^ t) * (r + 2 ^ t) ≤ n
    · rw [if_pos c]
      refine rootFrom_ok n t (r + 2 ^ t) c ?_
      rw [show r + 2 ^ t + 2 ^ t = r + 2 ^ (t + 1) from by rw [Nat.pow_succ]; omega]
      exact h2
    · rw [if_neg c]
      exact rootFrom_ok n t r h1 (by omega)
theorem nb_far {w n q u : Nat} (a1 : 4 * q + 4 * w + 1 ≤ 4 * n + (4 * w + 1)) (a2 : 4 * n ≤ 4 * q + 4 * w + 1 + (4 * w + 1)) (t1 : (4 * w + 1) * 9007199254740992 = 2 * u + 9007199254740992) (t2 : 9007199254740992 ≤ u) (z : u ≤ q) (hn : q < n) : Nb 1 (4 * q + 4 * w + 1) (4 * n) := by
  refine nb_pq a1 a2 ?_ ?_
  · rw [t1]; exact Nat.le_trans (Nat.add_le_add_left t2 _) (by omega)
  · rw [t1]; exact Nat.le_trans (Nat.add_le_add_left t2 _) (by omega)
theorem two53 {w : Nat} (h : 18014398509481984 ≤ w) : 9007199254740992 ≤ w := Nat.le_trans (by decide) h
theorem nb_root {w n A : Nat} (h1 : w * w ≤ n) (h2 : n < (w + 1) * (w + 1)) (hw : 18014398509481984 ≤ w) (hA : A = 2 * w + (w * w != n).toNat) : Nb 1 (A * A) (4 * n) := by
  by_cases c : w * w = n
  · have : (w * w != n).toNat = 0 := by simp [c]
    rw [hA, this, Nat.add_zero, ← c, Nat.mul_mul_mul_comm]
    exact (Nb.refl _).mono (by omega)
  · have e : (w * w != n).toNat = 1 := by simp [c]
    rw [hA, e]
    have x : (2 * w + 1) * (2 * w + 1) = 4 * (w * w) + 4 * w + 1 := by rw [Nat.add_mul, Nat.mul_add, Nat.mul_mul_mul_comm]; omega
    have y : (w + 1) * (w + 1) = w * w + 2 * w + 1 := by rw [Nat.add_mul, Nat.mul_add]; omega
    have z : w * 18014398509481984 ≤ w * w := Nat.mul_le_mul_left _ hw
    rw [y] at h2
    rw [x]
    have hn : w * w < n := by omega
    clear x y e hA
    generalize w * w = q at *
    have t1 : (4 * w + 1) * 9007199254740992 = 2 * (w * 18014398509481984) + 9007199254740992 := by
      rw [Nat.add_mul, Nat.one_mul, Nat.mul_comm 4 w, Nat.mul_assoc, Nat.mul_left_comm 2 w]
    have t2 : 9007199254740992 ≤ w * 18014398509481984 := Nat.le_trans (by decide) (Nat.mul_le_mul_right 18014398509481984 (Nat.le_trans (show 1 ≤ 18014398509481984 from by decide) hw))
    have a1 : 4 * q + 4 * w + 1 ≤ 4 * n + (4 * w + 1) := by omega
    have a2 : 4 * n ≤ 4 * q + 4 * w + 1 + (4 * w + 1) := by omega
    exact nb_far a1 a2 t1 t2 z hn
theorem c_ok {L f k M : Nat} (h : L < 57) (hk : k = M + 2 * f) (hq : k ≤ 1102) : L + (f + 484) ≤ 2000 := by omega
theorem c_ok' {L f : Nat} (h : 54 ≤ L) : 0 + 1 ≤ L + (f + 484) := by omega
theorem sqrt_nb {a v : Nat} (ha : Pn a v) : ∃ c, FloatKind.f64.format.sqrt a = some c ∧ 4503599627370496 ≤ c ∧ c < 9218868437227405312 ∧ Nb 5 (valN c * valN c) (v * one1) := by
  obtain ⟨m, k, e1, v1, l1, g1, p1, q1⟩ := ha.read
  have lg : m.log2 = 52 := log2_of l1 g1
  obtain ⟨M, hM⟩ : ∃ M : Nat, M = 56 + (((k : Int) - 1074 - 56) % 2).toNat := ⟨_, rfl⟩
  have hM1 : 56 ≤ M ∧ M ≤ 57 := by omega
  obtain ⟨f, hf⟩ : ∃ f : Nat, k = M + 2 * f := ⟨(k - M) / 2, by omega⟩
  obtain ⟨n, hn⟩ : ∃ n, n = m * 2 ^ M := ⟨_, rfl⟩
  have n1 : 2 ^ 108 ≤ n := by
    have h1 : 2 ^ 56 ≤ 2 ^ M := Nat.pow_le_pow_right (by omega) hM1.1
    have h2 : 4503599627370496 * 2 ^ 56 ≤ m * 2 ^ M := Nat.mul_le_mul l1 h1
    rw [hn]; exact Nat.le_trans (by decide) h2
  have n2 : n < 2 ^ 110 := by
    have h1 : 2 ^ M ≤ 2 ^ 57 := Nat.pow_le_pow_right (by omega) hM1.2
    have h2 : m * 2 ^ M < 9007199254740992 * 2 ^ M := Nat.mul_lt_mul_of_pos_right g1 (Nat.two_pow_pos _)
    have h3 : 9007199254740992 * 2 ^ M ≤ 9007199254740992 * 2 ^ 57 := Nat.mul_le_mul_left _ h1
    rw [hn]; exact Nat.lt_of_lt_of_le h2 (Nat.le_trans h3 (by decide))
  obtain ⟨w, hw⟩ : ∃ w, w = Datum.rootFrom n (n.log2 / 2 + 1) 0 := ⟨_, rfl⟩
  have hsp := rootFrom_ok n (n.log2 / 2 + 1) 0 (by omega) (by
    have h1 : n < 2 ^ (n.log2 + 1) := Nat.lt_log2_self
    have h2 : 2 ^ (n.log2 + 1) ≤ 2 ^ (n.log2 / 2 + 1 + (n.log2 / 2 + 1)) := Nat.pow_le_pow_right (by omega) (by omega)
    rw [Nat.zero_add, ← Nat.pow_add]
    exact Nat.lt_of_lt_of_le h1 h2)
  rw [← hw] at hsp
  have w1 : 18014398509481984 ≤ w := by
    apply Classical.byContradiction
    intro c
    have h1 : (w + 1) * (w + 1) ≤ 18014398509481984 * 18014398509481984 := Nat.mul_le_mul (by omega) (by omega)
    have h2 := Nat.lt_of_lt_of_le hsp.2 h1
    exact absurd (Nat.lt_of_lt_of_le h2 (by decide)) (Nat.not_lt.2 n1)
  have w2 : w < 36028797018963968 := by
    apply Classical.byContradiction
    intro c
    have h1 : 36028797018963968 * 36028797018963968 ≤ w * w := Nat.mul_le_mul (by omega) (by omega)
    exact absurd (Nat.lt_of_le_of_lt (Nat.le_trans (Nat.le_trans (by decide) h1) hsp.1) n2) (Nat.lt_irrefl _)
  obtain ⟨A, hA⟩ : ∃ A, A = 2 * w + (w * w != n).toNat := ⟨_, rfl⟩
  have hA1 : 2 * w ≤ A ∧ A ≤ 2 * w + 1 := by
    rw [hA]
    cases (w * w != n) <;> exact ⟨by simp, by simp⟩
  have NA := nb_root hsp.1 hsp.2 w1 hA
  obtain ⟨posA, lg1, lg2⟩ := log2_q (two53 w1) w2 hA1.1 hA1.2
  have c1 : 0 + 1 ≤ A.log2 + (f + 484) := c_ok' lg1
  have c3 : A.log2 + (f + 484) ≤ 2000 := c_ok lg2 hf q1
  have c2 : A.log2 + (f + 484) ≤ 0 + 2000 := by rw [Nat.zero_add]; exact c3
  obtain ⟨r, r0, r1, r2, r3, r4⟩ := near_any false A 0 (f + 484) posA c1 c2
  refine ⟨r, ?_, r1, r2, ?_⟩
  · show Format.sqrt double a = _
    unfold Format.sqrt
    rw [e1]
    simp only [Datum.root, dbl_frac]
    rw [if_neg (by omega), if_neg (by decide), lg, show 2 * (52 + 2) - 52 = 56 from rfl]
    have eM : 56 + (((k : Int) - 1074 - ((56 : Nat) : Int)) % 2).toNat = M := by rw [hM]; rfl
    rw [eM, Nat.shiftLeft_eq, ← hn, ← hw, ← hA]
    show some (double.nearest false A (((k : Int) - 1074 - (M : Int)) / 2 - 1)) = _
    rw [show ((k : Int) - 1074 - (M : Int)) / 2 - 1 = (((f + 484 : Nat) : Int) - ((0 : Nat) : Int) - 1074 + 52) from by omega, r3]
    rfl
  · have s1 := r4.mul r4 (by decide)
    rw [Nat.pow_zero, Nat.mul_one] at s1
    have s2 := NA.mulr (2 ^ (f + 484 + 52) * 2 ^ (f + 484 + 52))
    have e3 : A * 2 ^ (f + 484 + 52) * (A * 2 ^ (f + 484 + 52)) = A * A * (2 ^ (f + 484 + 52) * 2 ^ (f + 484 + 52)) := Nat.mul_mul_mul_comm _ _ _ _
    have e4 : 4 * n * (2 ^ (f + 484 + 52) * 2 ^ (f + 484 + 52)) = v * one1 := by
      obtain ⟨T, hT⟩ : ∃ T : Nat, T = 1074 := ⟨_, rfl⟩
      rw [one_is', ← hT, ← v1, hn, ← Nat.pow_add, show (4 : Nat) = 2 ^ 2 from rfl, Nat.mul_comm (2 ^ 2), Nat.mul_assoc, Nat.mul_assoc, Nat.mul_assoc, ← Nat.pow_add, ← Nat.pow_add, ← Nat.pow_add, show M + (2 + (f + 484 + 52 + (f + 484 + 52))) = k + T from by omega]
    rw [e3] at s1
    rw [e4] at s2
    exact s1.trans s2 (by decide)
end Go.Proofs.YtgdmbcfjjdngdaaDoor
