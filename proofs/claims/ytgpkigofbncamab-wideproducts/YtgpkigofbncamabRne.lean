/- Plain facts on rounding a size to 53 bits: by one lowest bit that says whether anything fell off; bit by bit. -/
import Derived.Test.YtgpkigofbncamabDbl
namespace Go.Proofs.Ytgpkigofbncamab
open Ieee

/-- A size without its last d bits, the lowest bit set where one of them was. -/
def sticky (A d : Nat) : Nat := if A % 2 ^ d = 0 then A / 2 ^ d else A / 2 ^ d / 2 * 2 + 1
theorem split_pow (A d j : Nat) : A / 2 ^ (d + j) = A / 2 ^ d / 2 ^ j ∧ A % 2 ^ (d + j) = A / 2 ^ d % 2 ^ j * 2 ^ d + A % 2 ^ d := by
  constructor
  · rw [Nat.pow_add, Nat.div_div_eq_div_mul]
  · rw [Nat.pow_add, Nat.mod_mul, Nat.mul_comm (2 ^ d) (A / 2 ^ d % 2 ^ j)]
    omega
theorem rne_sticky (A d : Nat) : rne A (d + 11) = rne (sticky A d) 11 := by
  obtain ⟨e1, e2⟩ := split_pow A d 11
  have hp := Nat.two_pow_pos d
  have hR := Nat.mod_lt A hp
  unfold rne sticky
  rw [e1, e2]
  generalize hQ : A / 2 ^ d = Q
  generalize A % 2 ^ d = R at *
  rw [Nat.pow_add]
  generalize 2 ^ d = P at *
  rw [show (2 : Nat) ^ 11 = 2048 from rfl]
  have hq : Q % 2048 < 2048 := Nat.mod_lt _ (by omega)
  by_cases h0 : R = 0
  · subst h0
    rw [if_pos rfl]
    congr 1
    have c1 : P * 2048 < 2 * (Q % 2048 * P + 0) ↔ 2048 < 2 * (Q % 2048) := by
      constructor
      · intro h
        apply Classical.byContradiction; intro hc
        have : Q % 2048 * P ≤ 1024 * P := Nat.mul_le_mul_right _ (by omega)
        omega
      · intro h
        have : 1025 * P ≤ Q % 2048 * P := Nat.mul_le_mul_right _ (by omega)
        omega
    have c2 : P * 2048 = 2 * (Q % 2048 * P + 0) ↔ 2048 = 2 * (Q % 2048) := by
      constructor
      · intro h
        have : Q % 2048 * P = 1024 * P := by omega
        have := Nat.eq_of_mul_eq_mul_right hp this
        omega
      · intro h
        have : Q % 2048 = 1024 := by omega
        rw [this]; omega
    simp only [c1, c2]
  · rw [if_neg h0]
    have e3 : (Q / 2 * 2 + 1) / 2048 = Q / 2048 := by omega
    have e4 : (Q / 2 * 2 + 1) % 2048 = Q % 2048 / 2 * 2 + 1 := by omega
    rw [e3, e4]
    congr 1
    have c1 : P * 2048 < 2 * (Q % 2048 * P + R) ↔ 2048 < 2 * (Q % 2048 / 2 * 2 + 1) := by
      constructor
      · intro h
        apply Classical.byContradiction; intro hc
        have : Q % 2048 * P ≤ 1023 * P := Nat.mul_le_mul_right _ (by omega)
        omega
      · intro h
        have : 1024 * P ≤ Q % 2048 * P := Nat.mul_le_mul_right _ (by omega)
        omega
    have c2 : ¬ P * 2048 = 2 * (Q % 2048 * P + R) := by
      intro h
      rcases Nat.lt_or_ge (Q % 2048) 1024 with hl | hl
      · have : Q % 2048 * P ≤ 1023 * P := Nat.mul_le_mul_right _ (by omega)
        omega
      · have : 1024 * P ≤ Q % 2048 * P := Nat.mul_le_mul_right _ (by omega)
        omega
    have c3 : ¬ 2048 = 2 * (Q % 2048 / 2 * 2 + 1) := by omega
    simp only [c1, c2, c3]
theorem rne_bd {A K : Nat} (h : 2 ^ (52 + K) ≤ A) (h' : A < 2 ^ (53 + K)) : 4503599627370496 ≤ rne A K ∧ rne A K ≤ 9007199254740992 := by
  have hp := Nat.two_pow_pos K
  have h1 : 4503599627370496 ≤ A / 2 ^ K := (Nat.le_div_iff_mul_le hp).2 (by rw [Nat.pow_add] at h; exact h)
  have h2 : A / 2 ^ K < 9007199254740992 := (Nat.div_lt_iff_lt_mul hp).2 (by rw [Nat.pow_add] at h'; exact h')
  unfold rne
  split <;> omega
/-- A rung that rounding may have carried one binade up, as a word. -/
theorem carry {E n : Nat} (h : 4503599627370496 ≤ n) (h' : n ≤ 9007199254740992) (hE : E ≤ 2044) :
    ∃ M F, Nrm M F ∧ E ≤ F ∧ F ≤ E + 1 ∧ double.word false (min (E * 4503599627370496 + n) 9218868437227405312) = fw false M F ∧ E * 4503599627370496 + n = F * 4503599627370496 + M := by
  by_cases c : n < 9007199254740992
  · exact ⟨n, E, ⟨h, c, by omega⟩, by omega, by omega, word_fw false ⟨h, c, by omega⟩, rfl⟩
  · have e : n = 9007199254740992 := by omega
    subst e
    refine ⟨4503599627370496, E + 1, ⟨by omega, by omega, by omega⟩, by omega, by omega, ?_, by omega⟩
    rw [show E * 4503599627370496 + 9007199254740992 = (E + 1) * 4503599627370496 + 4503599627370496 from by omega]
    exact word_fw false ⟨by omega, by omega, by omega⟩
theorem sticky_bd {A d : Nat} (h : 2 ^ (63 + d) ≤ A) (h' : A < 2 ^ (64 + d)) : 9223372036854775808 ≤ sticky A d ∧ sticky A d < 18446744073709551616 := by
  have hp := Nat.two_pow_pos d
  have h1 : 9223372036854775808 ≤ A / 2 ^ d := (Nat.le_div_iff_mul_le hp).2 (by rw [Nat.pow_add] at h; exact h)
  have h2 : A / 2 ^ d < 18446744073709551616 := (Nat.div_lt_iff_lt_mul hp).2 (by rw [Nat.pow_add] at h'; exact h')
  unfold sticky
  split <;> omega
/-- The nearest word of a size of more than 64 bits is that of its upper 64, shifted. -/
theorem nearest_shift {A d : Nat} (h : 2 ^ (63 + d) ≤ A) (h' : A < 2 ^ (64 + d)) (hd : d ≤ 64) :
    ∃ M E, Nrm M E ∧ E ≤ 1086 ∧ double.nearest false (sticky A d) 0 = fw false M E ∧ double.nearest false A 0 = fw false M (E + d) := by
  obtain ⟨s1, s2⟩ := sticky_bd h h'
  have a1 := nearest_at false (sticky A d) 11 0 (by rw [show 52 + 11 = 63 from rfl]; exact s1) (by rw [show 53 + 11 = 64 from rfl]; exact s2) (by omega)
  have a2 := nearest_at false A (d + 11) 0 (by rw [show 52 + (d + 11) = 63 + d from by omega]; exact h) (by rw [show 53 + (d + 11) = 64 + d from by omega]; exact h') (by omega)
  rw [rne_sticky] at a2
  obtain ⟨b1, b2⟩ := rne_bd (A := sticky A d) (K := 11) s1 s2
  rw [show ((0 : Int) + ((11 : Nat) : Int) + 1074).toNat = 1085 from rfl] at a1
  rw [show ((0 : Int) + ((d + 11 : Nat) : Int) + 1074).toNat = 1085 + d from by omega] at a2
  obtain ⟨M, F, hN, f1, f2, f3, f4⟩ := carry (E := 1085) b1 b2 (by omega)
  obtain ⟨M', F', hN', g1, g2, g3, g4⟩ := carry (E := 1085 + d) b1 b2 (by omega)
  refine ⟨M, F, hN, by omega, by rw [a1, f3], ?_⟩
  rw [a2, g3]
  have := hN.lo
  have := hN.hi
  have := hN'.lo
  have := hN'.hi
  have e1 : F' = F + d := by omega
  have e2 : M' = M := by omega
  rw [e1, e2]

/-- The first bit behind the k last ones that fell off; whether anything is behind it. -/
def hfB (A : Nat) : Nat → Bool
  | 0 => false
  | k + 1 => decide (A / 2 ^ k % 2 = 1)
def stB (A : Nat) : Nat → Bool
  | 0 => false
  | k + 1 => decide (A % 2 ^ k ≠ 0)
theorem st_succ (A k : Nat) : stB A (k + 1) = (stB A k || hfB A k) := by
  cases k with
  | zero => simp [stB, hfB, Nat.mod_one]
  | succ j =>
    obtain ⟨e1, e2⟩ := split_pow A j 1
    have hp := Nat.two_pow_pos j
    simp only [stB, hfB]
    rw [e2, show (2 : Nat) ^ 1 = 2 from rfl]
    have hb : A / 2 ^ j % 2 < 2 := Nat.mod_lt _ (by omega)
    generalize A / 2 ^ j % 2 = b at *
    generalize A % 2 ^ j = r
    generalize 2 ^ j = P at *
    have : b = 0 ∨ b = 1 := by omega
    rcases this with rfl | rfl
    · simp
    · simp; omega
theorem hf_succ (A k : Nat) : hfB A (k + 1) = decide (A / 2 ^ k % 2 = 1) := rfl
theorem up_key (A K : Nat) : (2 ^ K < 2 * (A % 2 ^ K) ∨ (2 ^ K = 2 * (A % 2 ^ K) ∧ A / 2 ^ K % 2 = 1)) ↔ (hfB A K && (stB A K || decide (A / 2 ^ K % 2 = 1))) = true := by
  cases K with
  | zero => simp [hfB, Nat.mod_one]
  | succ j =>
    obtain ⟨e1, e2⟩ := split_pow A j 1
    have hp := Nat.two_pow_pos j
    have hr := Nat.mod_lt A hp
    have e3 : (2 : Nat) ^ (j + 1) = 2 ^ j * 2 := Nat.pow_succ 2 j
    rw [e2]
    generalize A / 2 ^ (j + 1) = Q
    simp only [stB, hfB, Bool.and_eq_true, Bool.or_eq_true, decide_eq_true_eq]
    rw [e3, show (2 : Nat) ^ 1 = 2 from rfl]
    have hb : A / 2 ^ j % 2 = 0 ∨ A / 2 ^ j % 2 = 1 := by omega
    generalize A / 2 ^ j % 2 = b at *
    generalize A % 2 ^ j = r at *
    generalize 2 ^ j = P at *
    rcases hb with rfl | rfl
    · omega
    · omega
theorem rne_bits (A K : Nat) : rne A K = A / 2 ^ K + (if (hfB A K && (stB A K || decide (A / 2 ^ K % 2 = 1))) = true then 1 else 0) := by
  unfold rne
  congr 1
  by_cases c : (hfB A K && (stB A K || decide (A / 2 ^ K % 2 = 1))) = true
  · rw [if_pos c, if_pos ((up_key A K).2 c)]
  · rw [if_neg c, if_neg (fun h => c ((up_key A K).1 h))]
/-- How often a size is halved until it has at most 53 bits. -/
def Kof (A K : Nat) : Prop := (K = 0 ∧ A < 9007199254740992) ∨ (2 ^ (52 + K) ≤ A ∧ A < 2 ^ (53 + K))
theorem ref_word {A K : Nat} (h0 : 0 < A) (hK : Kof A K) (hK' : K ≤ 800) :
    ∃ M E, Nrm M E ∧ E + K ≤ 2045 ∧ rne A K ≤ 9007199254740992 ∧ 1022 ≤ E ∧ double.nearest false (rne A K) 0 = fw false M E ∧ double.nearest false A 0 = fw false M (E + K) := by
  rcases hK with ⟨rfl, h1⟩ | ⟨h1, h2⟩
  · have e : rne A 0 = A := by have := rne_exact A 0; rw [Nat.pow_zero, Nat.mul_one] at this; exact this
    rw [e]
    have l1 : 2 ^ A.log2 ≤ A := Nat.log2_self_le (by omega)
    have l2 : A < 2 ^ (A.log2 + 1) := Nat.lt_log2_self
    have l3 : A.log2 ≤ 52 := by
      have := (Nat.log2_lt (n := A) (k := 53) (by omega)).2 (by omega)
      omega
    obtain ⟨n1, n2⟩ := nearest_small false A A.log2 (A.log2 + 1022) 0 l1 l2 l3 (by omega) (by omega)
    exact ⟨_, _, n2, by omega, by omega, by omega, n1, n1⟩
  · obtain ⟨b1, b2⟩ := rne_bd h1 h2
    have a2 := nearest_at false A K 0 h1 h2 (by omega)
    rw [show ((0 : Int) + ((K : Nat) : Int) + 1074).toNat = 1074 + K from by omega] at a2
    by_cases c : rne A K < 9007199254740992
    · obtain ⟨n1, n2⟩ := nearest_small false (rne A K) 52 1074 0 b1 c (by omega) (by omega) (by omega)
      rw [show 52 - 52 = 0 from rfl, Nat.pow_zero, Nat.mul_one] at n1 n2
      refine ⟨rne A K, 1074, n2, by omega, b2, by omega, n1, ?_⟩
      rw [a2]
      exact word_fw false ⟨b1, c, by omega⟩
    · have e : rne A K = 9007199254740992 := by omega
      rw [e] at a2 ⊢
      have hN : Nrm 4503599627370496 1075 := ⟨by omega, by omega, by omega⟩
      have n1 := nearest_fw false hN 1
      rw [show 4503599627370496 * 2 ^ 1 = 9007199254740992 from rfl, show ((1075 : Nat) : Int) - 1074 - ((1 : Nat) : Int) = 0 from rfl] at n1
      refine ⟨4503599627370496, 1075, hN, by omega, by omega, by omega, n1, ?_⟩
      rw [a2, show (1074 + K) * 4503599627370496 + 9007199254740992 = (1075 + K) * 4503599627370496 + 4503599627370496 from by omega]
      exact word_fw false ⟨by omega, by omega, by omega⟩
end Go.Proofs.Ytgpkigofbncamab
