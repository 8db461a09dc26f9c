/- Plain facts on a length and the two quotients by it: how far their squares' sum is off 1; nothing of the program is in here. -/
import Derived.Test.YtmjfphidcnjklaaEr4
set_option linter.unusedSimpArgs false
namespace Go.Proofs.Ytmjfphidcnjklaa
open Ieee

theorem Nb.two {k a b : Nat} (h : Nb k a b) (hk : k ≤ 64) : a ≤ 2 * b ∧ b ≤ 2 * a := by
  have one : ∀ a b, a * 9007199254740992 ≤ b * (9007199254740992 + k) → a ≤ 2 * b := fun a b h => by
    have h1 : b * (9007199254740992 + k) ≤ b * (2 * 9007199254740992) := Nat.mul_le_mul_left _ (by omega)
    have h2 : a * 9007199254740992 ≤ (2 * b) * 9007199254740992 := by
      have e : b * (2 * 9007199254740992) = (2 * b) * 9007199254740992 := by rw [← Nat.mul_assoc, Nat.mul_comm b 2]
      rw [← e]; exact Nat.le_trans h h1
    exact Nat.le_of_mul_le_mul_right h2 (by decide)
  exact ⟨one a b h.l, one b a h.r⟩
theorem Pn.of {c v k : Nat} (h1 : 4503599627370496 ≤ c) (h2 : c < 9218868437227405312) (h : Nb k (valN c) v) (hk : k ≤ 64) (l : one1 ≤ v * 604462909807314587353088) (g : v ≤ one1 * 604462909807314587353088) : Pn c (valN c) := by
  obtain ⟨a, b⟩ := h.two hk
  refine ⟨h1, h2, rfl, Nat.le_trans l ?_, Nat.le_trans a ?_⟩
  · have := Nat.mul_le_mul_right 604462909807314587353088 b
    rw [Nat.mul_comm 2, Nat.mul_assoc, show 2 * 604462909807314587353088 = 1208925819614629174706176 from rfl] at this
    exact this
  · have := Nat.mul_le_mul_left 2 g
    rw [Nat.mul_left_comm, show 2 * 604462909807314587353088 = 1208925819614629174706176 from rfl] at this
    exact this
theorem one_gt : 0 < one1 := valN_pos (by decide)
theorem sq_mid {D o : Nat} (h0 : 0 < D) (h1 : D ≤ 4294967296) : o ≤ D * D * o * 604462909807314587353088 ∧ D * D * o ≤ o * 604462909807314587353088 := by
  have a : 1 * 1 ≤ D * D := Nat.mul_le_mul h0 h0
  have b : D * D ≤ 4294967296 * 4294967296 := Nat.mul_le_mul h1 h1
  have c : 1 * 1 * o ≤ D * D * o := Nat.mul_le_mul_right _ a
  have d : D * D * o ≤ 4294967296 * 4294967296 * o := Nat.mul_le_mul_right _ b
  generalize D * D * o = x at *
  exact ⟨by omega, by omega⟩
/-- The square of a whole number. -/
theorem sq_pn {a D : Nat} (ha : Pn a (D * one1)) (h0 : 0 < D) (h1 : D ≤ 4294967296) : ∃ c, floatBits .mul .f64 a a = some c ∧ Pn c (valN c) ∧ Nb 1 (valN c) (D * D * one1) := by
  obtain ⟨c, e, c1, c2, h⟩ := mul_nb ha ha
  have h' : Nb 1 (valN c) (D * D * one1) := by
    refine Nb.cancel one_gt ?_
    rw [Nat.mul_mul_mul_comm, ← Nat.mul_assoc] at h
    exact h
  obtain ⟨m1, m2⟩ := sq_mid (o := one1) h0 h1
  exact ⟨c, e, Pn.of c1 c2 h' (by omega) m1 m2, h'⟩
/-- A word that is 0, or a whole number above 0. -/
def Za (a D : Nat) : Prop := (a = 0 ∧ D = 0) ∨ (0 < D ∧ Pn a (D * one1))
/-- A word that is 0, or a middling number above 0. -/
def Zn (a v : Nat) : Prop := (a = 0 ∧ v = 0) ∨ (0 < v ∧ Pn a v)
theorem Zn.val {a v : Nat} (h : Zn a v) : valN a = v := by
  rcases h with ⟨rfl, rfl⟩ | ⟨_, h⟩
  · exact valN_zero
  · exact h.e
theorem Pn.pos {a v : Nat} (h : Pn a v) : 0 < v := by
  rw [← h.e]; exact valN_pos (by have := h.lo; omega)
theorem mul_00 : floatBits .mul .f64 0 0 = some 0 := by decide
theorem sq_za {a D : Nat} (ha : Za a D) (h1 : D ≤ 4294967296) : ∃ c, floatBits .mul .f64 a a = some c ∧ Zn c (valN c) ∧ Nb 1 (valN c) (D * D * one1) := by
  rcases ha with ⟨rfl, rfl⟩ | ⟨h0, ha⟩
  · refine ⟨0, mul_00, .inl ⟨rfl, valN_zero⟩, ?_⟩
    rw [valN_zero, Nat.zero_mul]
    exact (Nb.refl 0).mono (by omega)
  · obtain ⟨c, e, p, h⟩ := sq_pn ha h0 h1
    exact ⟨c, e, .inr ⟨p.pos, p⟩, h⟩
theorem Pn.fin {a v : Nat} (h : Pn a v) : fin a := ⟨by have := h.hi; omega, by have := h.hi; omega⟩
theorem pos_eq {c y : Nat} (hy : y < 9218868437227405312) (h0 : 0 < y) (h : sgI c = sgI y) : c = y := by
  have hp := valN_pos h0
  have ey : sgI y = (valN y : Int) := by unfold sgI; rw [if_pos (by omega)]
  rw [ey] at h
  unfold sgI at h
  by_cases k : c < 9223372036854775808
  · rw [if_pos k] at h
    have h' : valN c = valN y := by omega
    rcases Nat.lt_trichotomy c y with q | q | q
    · have := valN_lt q; omega
    · exact q
    · have := valN_lt q; omega
  · rw [if_neg k] at h
    omega
theorem fin_0 : fin 0 := ⟨by decide, by decide⟩
theorem sg_0 : sgI 0 = 0 := by decide
theorem add_0l {y v : Nat} (h : Pn y v) : floatBits .add .f64 0 y = some y := by
  obtain ⟨c, h1, h2, h3⟩ := add_exact fin_0 h.fin h.hi (by rw [sg_0, Int.zero_add]; unfold sgI; rw [if_pos (by have := h.hi; omega)]; rfl)
  rw [sg_0, Int.zero_add] at h3
  rw [show floatBits .add .f64 0 y = some c from h1, pos_eq h.hi (by have := h.lo; omega) h3]
theorem add_0r {y v : Nat} (h : Pn y v) : floatBits .add .f64 y 0 = some y := by
  obtain ⟨c, h1, h2, h3⟩ := add_exact h.fin fin_0 h.hi (by rw [sg_0, Int.add_zero]; unfold sgI; rw [if_pos (by have := h.hi; omega)]; rfl)
  rw [sg_0, Int.add_zero] at h3
  rw [show floatBits .add .f64 y 0 = some c from h1, pos_eq h.hi (by have := h.lo; omega) h3]
/-- A sum of two that are not both 0. -/
theorem add_zn {a b u v : Nat} (ha : Zn a u) (hb : Zn b v) (h : 0 < u + v) : ∃ c, floatBits .add .f64 a b = some c ∧ 4503599627370496 ≤ c ∧ c < 9218868437227405312 ∧ Nb 1 (valN c) (u + v) := by
  rcases ha with ⟨rfl, rfl⟩ | ⟨_, ha⟩ <;> rcases hb with ⟨rfl, rfl⟩ | ⟨_, hb⟩
  · omega
  · refine ⟨b, add_0l hb, hb.lo, hb.hi, ?_⟩
    rw [hb.e, Nat.zero_add]; exact (Nb.refl _).mono (by omega)
  · refine ⟨a, add_0r ha, ha.lo, ha.hi, ?_⟩
    rw [ha.e, Nat.add_zero]; exact (Nb.refl _).mono (by omega)
  · exact add_nb ha hb
end Go.Proofs.Ytmjfphidcnjklaa
