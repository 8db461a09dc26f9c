/- Plain facts on how far a rounded number is off: two sizes that are within k parts of 2^53 of one another; nothing of the program is in here. -/
import Derived.Test.YtgdmbcfjjdngdaaDoorQp
set_option linter.unusedSimpArgs false
namespace Go.Proofs.YtgdmbcfjjdngdaaDoor
open Ieee

/-- Each of the two is at most k parts of 2^53 greater than the other. -/
structure Nb (k a b : Nat) : Prop where
  l : a * 9007199254740992 ≤ b * (9007199254740992 + k)
  r : b * 9007199254740992 ≤ a * (9007199254740992 + k)
theorem Nb.refl (a : Nat) : Nb 0 a a := ⟨Nat.le_refl _, Nat.le_refl _⟩
theorem Nb.symm {k a b : Nat} (h : Nb k a b) : Nb k b a := ⟨h.r, h.l⟩
theorem Nb.mono {k l a b : Nat} (h : Nb k a b) (hl : k ≤ l) : Nb l a b :=
  ⟨Nat.le_trans h.l (Nat.mul_le_mul_left _ (by omega)), Nat.le_trans h.r (Nat.mul_le_mul_left _ (by omega))⟩
/-- Two factors near 1 make one. -/
theorem nb_fac {k l : Nat} (hk : k * l ≤ 9007199254740992) : (9007199254740992 + k) * (9007199254740992 + l) ≤ 9007199254740992 * (9007199254740992 + (k + l + 1)) := by
  rw [Nat.add_mul, Nat.mul_add, Nat.mul_add, Nat.mul_add 9007199254740992 _ (k + l + 1)]
  omega
theorem nb_le_trans {k l a b c : Nat} (hk : k * l ≤ 9007199254740992) (h1 : a * 9007199254740992 ≤ b * (9007199254740992 + k)) (h2 : b * 9007199254740992 ≤ c * (9007199254740992 + l)) : a * 9007199254740992 ≤ c * (9007199254740992 + (k + l + 1)) := by
  have h3 : a * 9007199254740992 * 9007199254740992 ≤ b * (9007199254740992 + k) * 9007199254740992 := Nat.mul_le_mul_right _ h1
  have h4 : b * 9007199254740992 * (9007199254740992 + k) ≤ c * (9007199254740992 + l) * (9007199254740992 + k) := Nat.mul_le_mul_right _ h2
  have e1 : b * (9007199254740992 + k) * 9007199254740992 = b * 9007199254740992 * (9007199254740992 + k) := by rw [Nat.mul_assoc, Nat.mul_comm (9007199254740992 + k), ← Nat.mul_assoc]
  have h5 : c * ((9007199254740992 + k) * (9007199254740992 + l)) ≤ c * (9007199254740992 * (9007199254740992 + (k + l + 1))) := Nat.mul_le_mul_left _ (nb_fac hk)
  have e2 : c * (9007199254740992 + l) * (9007199254740992 + k) = c * ((9007199254740992 + k) * (9007199254740992 + l)) := by rw [Nat.mul_assoc, Nat.mul_comm (9007199254740992 + l)]
  have e3 : c * (9007199254740992 * (9007199254740992 + (k + l + 1))) = c * (9007199254740992 + (k + l + 1)) * 9007199254740992 := by rw [Nat.mul_comm 9007199254740992, ← Nat.mul_assoc]
  rw [e1] at h3
  rw [e2] at h4
  rw [e3] at h5
  exact Nat.le_of_mul_le_mul_right (Nat.le_trans h3 (Nat.le_trans h4 h5)) (by decide)
theorem Nb.trans {k l a b c : Nat} (h1 : Nb k a b) (h2 : Nb l b c) (hk : k * l ≤ 9007199254740992) : Nb (k + l + 1) a c :=
  ⟨nb_le_trans hk h1.l h2.l, by have := nb_le_trans (k := l) (l := k) (by rw [Nat.mul_comm]; exact hk) h2.r h1.r; rwa [Nat.add_comm l k] at this⟩
theorem Nb.add {k a b c d : Nat} (h1 : Nb k a b) (h2 : Nb k c d) : Nb k (a + c) (b + d) :=
  ⟨by rw [Nat.add_mul, Nat.add_mul]; exact Nat.add_le_add h1.l h2.l, by rw [Nat.add_mul, Nat.add_mul]; exact Nat.add_le_add h1.r h2.r⟩
theorem Nb.mulr {k a b : Nat} (h : Nb k a b) (c : Nat) : Nb k (a * c) (b * c) :=
  ⟨by rw [Nat.mul_right_comm, Nat.mul_right_comm b]; exact Nat.mul_le_mul_right _ h.l, by rw [Nat.mul_right_comm, Nat.mul_right_comm a]; exact Nat.mul_le_mul_right _ h.r⟩
theorem Nb.mull {k a b : Nat} (h : Nb k a b) (c : Nat) : Nb k (c * a) (c * b) := by rw [Nat.mul_comm c, Nat.mul_comm c]; exact h.mulr c
theorem Nb.mul {k l a b c d : Nat} (h1 : Nb k a b) (h2 : Nb l c d) (hk : k * l ≤ 9007199254740992) : Nb (k + l + 1) (a * c) (b * d) :=
  (h1.mulr c).trans (h2.mull b) hk
theorem Nb.cancel {k a b c : Nat} (hc : 0 < c) (h : Nb k (a * c) (b * c)) : Nb k a b :=
  ⟨Nat.le_of_mul_le_mul_right (by have := h.l; rw [Nat.mul_right_comm, Nat.mul_right_comm b] at this; exact this) hc, Nat.le_of_mul_le_mul_right (by have := h.r; rw [Nat.mul_right_comm, Nat.mul_right_comm a] at this; exact this) hc⟩
/-- Of squares that are near one another the roots are. -/
theorem Nb.root {k a b : Nat} (h : Nb k (a * a) (b * b)) : Nb k a b := by
  have one : ∀ a b, a * a * 9007199254740992 ≤ b * b * (9007199254740992 + k) → a * 9007199254740992 ≤ b * (9007199254740992 + k) := fun a b h => by
    apply Classical.byContradiction
    intro hc
    have h1 : b * (9007199254740992 + k) + 1 ≤ a * 9007199254740992 := by omega
    have h2 : (b * (9007199254740992 + k)) * (b * (9007199254740992 + k)) < (a * 9007199254740992) * (a * 9007199254740992) := Nat.mul_lt_mul'' (by omega) (by omega)
    have e1 : (a * 9007199254740992) * (a * 9007199254740992) = a * a * 9007199254740992 * 9007199254740992 := by rw [Nat.mul_mul_mul_comm, ← Nat.mul_assoc]
    have e2 : (b * (9007199254740992 + k)) * (b * (9007199254740992 + k)) = b * b * (9007199254740992 + k) * (9007199254740992 + k) := by rw [Nat.mul_mul_mul_comm, ← Nat.mul_assoc]
    have h3 : a * a * 9007199254740992 * 9007199254740992 ≤ b * b * (9007199254740992 + k) * 9007199254740992 := Nat.mul_le_mul_right _ h
    have h4 : b * b * (9007199254740992 + k) * 9007199254740992 ≤ b * b * (9007199254740992 + k) * (9007199254740992 + k) := Nat.mul_le_mul_left _ (by omega)
    rw [e1, e2] at h2
    omega
  exact ⟨one a b h.l, one b a h.r⟩
/-- A size of more than 53 bits, rounded: where its rung stands, and how far it is off. -/
theorem near_nb (s : Bool) (A K E : Nat) (p : Int) (hA : 2 ^ (52 + K) ≤ A) (hA' : A < 2 ^ (53 + K)) (hE : p + K + 1074 = E) (hE' : E ≤ 2044) :
    ∃ r, 0 < r ∧ r < 9218868437227405312 ∧ double.nearest s A p = double.word s r ∧ Nb 1 (valN r * 2 ^ K) (A * 2 ^ E) := by
  have hK := Nat.two_pow_pos K
  have hd1 : 4503599627370496 ≤ A / 2 ^ K := by
    rw [Nat.le_div_iff_mul_le hK]
    have : 2 ^ (52 + K) = 4503599627370496 * 2 ^ K := by rw [Nat.pow_add]
    rw [← this]; exact hA
  have hd2 : A / 2 ^ K < 9007199254740992 := by
    rw [Nat.div_lt_iff_lt_mul hK]
    have : 2 ^ (53 + K) = 9007199254740992 * 2 ^ K := by rw [Nat.pow_add]
    rw [← this]; exact hA'
  have hdm := Nat.div_add_mod A (2 ^ K)
  have hm := Nat.mod_lt A hK
  have hR : ∃ R, R = rne A K ∧ 4503599627370496 ≤ R ∧ R ≤ 9007199254740992 ∧ 2 * (R * 2 ^ K) ≤ 2 * A + 2 ^ K ∧ 2 * A ≤ 2 * (R * 2 ^ K) + 2 ^ K := by
    refine ⟨_, rfl, ?_⟩
    unfold rne
    rw [Nat.mul_comm] at hdm
    generalize A / 2 ^ K = q at *
    generalize A % 2 ^ K = m at *
    split
    · refine ⟨by omega, by omega, ?_, ?_⟩ <;> rw [Nat.add_mul, Nat.one_mul] <;> omega
    · refine ⟨by omega, by omega, ?_, ?_⟩ <;> rw [Nat.add_zero] <;> omega
  obtain ⟨R, hRe, r1, r2, r3, r4⟩ := hR
  rw [nearest_at s A K p hA hA' (by omega), ← hRe, show (p + (K : Int) + 1074).toNat = E from by omega, Nat.min_eq_left (by omega)]
  have hv : valN (E * 4503599627370496 + R) = R * 2 ^ E := by
    unfold valN
    rw [if_neg (by omega)]
    by_cases c : R = 9007199254740992
    · rw [c, show (E * 4503599627370496 + 9007199254740992) % 4503599627370496 = 0 from by omega, show (E * 4503599627370496 + 9007199254740992) / 4503599627370496 - 1 = E + 1 from by omega, Nat.pow_succ]
      omega
    · rw [show (E * 4503599627370496 + R) % 4503599627370496 = R - 4503599627370496 from by omega, show (E * 4503599627370496 + R) / 4503599627370496 - 1 = E from by omega, show 4503599627370496 + (R - 4503599627370496) = R from by omega]
  refine ⟨_, by omega, by omega, rfl, ?_⟩
  rw [hv, Nat.mul_right_comm]
  refine Nb.mulr ?_ (2 ^ E)
  have hb : 4503599627370496 * 2 ^ K ≤ R * 2 ^ K := Nat.mul_le_mul_right _ r1
  have ha : 4503599627370496 * 2 ^ K ≤ A := by
    have : 2 ^ (52 + K) = 4503599627370496 * 2 ^ K := by rw [Nat.pow_add]
    rw [← this]; exact hA
  generalize R * 2 ^ K = X at *
  generalize 2 ^ K = u at *
  exact ⟨by omega, by omega⟩
end Go.Proofs.YtgdmbcfjjdngdaaDoor
