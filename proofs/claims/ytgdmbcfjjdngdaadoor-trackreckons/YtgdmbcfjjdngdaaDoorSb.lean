/- Plain facts on rounding between words: sums, products and quotients; nothing of the program is in here. -/
import Derived.Test.YtgdmbcfjjdngdaaDoorRd
set_option linter.unusedSimpArgs false
set_option linter.unusedVariables false
namespace Go.Proofs.YtgdmbcfjjdngdaaDoor
open Ieee

theorem sgI_word (s : Bool) {r : Nat} (h : r < 9218868437227405312) : sgI (double.word s r) = if s then -(valN r : Int) else (valN r : Int) := (word_fin s h).2
theorem word_inj (s : Bool) {a b : Nat} (h : double.word s a = double.word s b) : a = b := by unfold Format.word at h; rw [dbl_sw] at h; cases s <;> simp at h <;> omega
theorem sgI_lo {a : Nat} (h : a < 9223372036854775808) : sgI a = (valN a : Int) := by unfold sgI; rw [if_pos h]
/-- What lies between two words is rounded to what lies between them. -/
theorem rnd_btw (T : Int) (s : Bool) (k lo hi : Nat) (hs : T ≠ 0 → s = decide (T < 0)) (hl : fin lo) (hh : fin hi) (h1 : sgI lo * (2 ^ k : Nat) ≤ T) (h2 : T ≤ sgI hi * (2 ^ k : Nat)) :
    fin (double.nearest s T.natAbs (-1074 - (k : Int))) ∧ sgI lo ≤ sgI (double.nearest s T.natAbs (-1074 - (k : Int))) ∧ sgI (double.nearest s T.natAbs (-1074 - (k : Int))) ≤ sgI hi := by
  have hP : (0 : Int) < ((2 ^ k : Nat) : Int) := by have := Nat.two_pow_pos k; omega
  rcases Int.lt_trichotomy T 0 with h | h | h
  · obtain rfl : s = true := by rw [hs (by omega)]; exact decide_eq_true h
    -- below 0
    have l0 : sgI lo < 0 := by
      apply Classical.byContradiction
      intro hn
      have := Int.mul_nonneg (show 0 ≤ sgI lo by omega) (Int.le_of_lt hP)
      omega
    have el : ¬ lo < 9223372036854775808 := fun hc => by rw [sgI_lo hc] at l0; omega
    obtain ⟨hl1, hl2⟩ := hl
    have el2 : sgI lo = -(valN (lo - 9223372036854775808) : Int) := by unfold sgI; rw [if_neg el]
    obtain ⟨R, hR, e⟩ := nearest_le true T.natAbs k (lo - 9223372036854775808) (by omega) (by
      rw [el2, Int.neg_mul] at h1
      have : ((valN (lo - 9223372036854775808) * 2 ^ k : Nat) : Int) = (valN (lo - 9223372036854775808) : Int) * ((2 ^ k : Nat) : Int) := Int.natCast_mul _ _
      omega)
    have hRf : R < 9218868437227405312 := by omega
    refine ⟨by rw [e]; exact (word_fin true hRf).1, ?_, ?_⟩
    · rw [e, sgI_word true hRf, el2]; have := valN_le hR; simp only [if_true]; omega
    · rw [e, sgI_word true hRf]
      simp only [if_true]
      by_cases h0 : 0 ≤ sgI hi
      · omega
      · have eh : ¬ hi < 9223372036854775808 := fun hc => by rw [sgI_lo hc] at h0; omega
        obtain ⟨hh1, hh2⟩ := hh
        have eh2 : sgI hi = -(valN (hi - 9223372036854775808) : Int) := by unfold sgI; rw [if_neg eh]
        obtain ⟨R', hR', _, e'⟩ := nearest_ge true T.natAbs k (hi - 9223372036854775808) (by omega) (by
          rw [eh2, Int.neg_mul] at h2
          have : ((valN (hi - 9223372036854775808) * 2 ^ k : Nat) : Int) = (valN (hi - 9223372036854775808) : Int) * ((2 ^ k : Nat) : Int) := Int.natCast_mul _ _
          omega)
        rw [e] at e'
        obtain rfl := word_inj true e'
        have := valN_le hR'
        omega
  · subst h
    have l0 : sgI lo ≤ 0 := by
      apply Classical.byContradiction
      intro hn
      have := Int.mul_pos (show 0 < sgI lo by omega) hP
      omega
    have h0 : 0 ≤ sgI hi := by
      apply Classical.byContradiction
      intro hn
      have := Int.mul_neg_of_neg_of_pos (show sgI hi < 0 by omega) hP
      omega
    have e : double.nearest s (0 : Int).natAbs (-1074 - (k : Int)) = double.word s 0 := nearest_zero _ _
    have e2 : sgI (double.word s 0) = 0 := by rw [sgI_word s (by decide), valN_zero]; split <;> rfl
    rw [e]
    exact ⟨(word_fin s (by decide)).1, by omega, by omega⟩
  · obtain rfl : s = false := by rw [hs (by omega)]; exact decide_eq_false (by omega)
    have h0 : 0 < sgI hi := by
      apply Classical.byContradiction
      intro hn
      have := Int.mul_nonpos_of_nonpos_of_nonneg (show sgI hi ≤ 0 by omega) (Int.le_of_lt hP)
      omega
    have eh : hi < 9223372036854775808 := by
      apply Classical.byContradiction
      intro hc
      unfold sgI at h0
      rw [if_neg hc] at h0
      omega
    obtain ⟨hh1, hh2⟩ := hh
    rw [sgI_lo eh] at h2 h0
    obtain ⟨R, hR, e⟩ := nearest_le false T.natAbs k hi (by omega) (by
      have : ((valN hi * 2 ^ k : Nat) : Int) = (valN hi : Int) * ((2 ^ k : Nat) : Int) := Int.natCast_mul _ _
      omega)
    have hRf : R < 9218868437227405312 := by omega
    refine ⟨by rw [e]; exact (word_fin false hRf).1, ?_, ?_⟩
    · rw [e, sgI_word false hRf]
      simp only [Bool.false_eq_true, if_false]
      by_cases l0 : sgI lo ≤ 0
      · omega
      · have el : lo < 9223372036854775808 := by
          apply Classical.byContradiction
          intro hc
          unfold sgI at l0
          rw [if_neg hc] at l0
          omega
        obtain ⟨hl1, hl2⟩ := hl
        rw [sgI_lo el] at h1 ⊢
        obtain ⟨R', hR', _, e'⟩ := nearest_ge false T.natAbs k lo (by omega) (by
          have : ((valN lo * 2 ^ k : Nat) : Int) = (valN lo : Int) * ((2 ^ k : Nat) : Int) := Int.natCast_mul _ _
          omega)
        rw [e] at e'
        obtain rfl := word_inj false e'
        have := valN_le hR'
        omega
    · rw [e, sgI_word false hRf, sgI_lo eh]; have := valN_le hR; simp only [Bool.false_eq_true, if_false]; omega
/-- A sum, rounded. -/
theorem sum_near (s t : Bool) (m n k l : Nat) (T : Int)
    (hT : T = (if s then -((m * 2 ^ k : Nat) : Int) else ((m * 2 ^ k : Nat) : Int)) + (if t then -((n * 2 ^ l : Nat) : Int) else ((n * 2 ^ l : Nat) : Int))) :
    ∃ z, ((Datum.number s m ((k : Int) - 1074)).sum (Datum.number t n ((l : Int) - 1074))).map double.write = some (double.nearest z T.natAbs (-1074 - ((0 : Nat) : Int))) ∧ (T ≠ 0 → z = decide (T < 0)) := by
  simp only [Datum.sum, Option.map_some, Format.write]
  have f0 : min ((k : Int) - 1074) ((l : Int) - 1074) = ((min k l : Nat) : Int) - 1074 := by omega
  rw [f0]
  have f1 : ((k : Int) - 1074 - (((min k l : Nat) : Int) - 1074)).toNat = k - min k l := by omega
  have f2 : ((l : Int) - 1074 - (((min k l : Nat) : Int) - 1074)).toNat = l - min k l := by omega
  rw [f1, f2]
  have g1 := signed_scale s m (k - min k l) (min k l)
  have g2 := signed_scale t n (l - min k l) (min k l)
  rw [show k - min k l + min k l = k from by omega] at g1
  rw [show l - min k l + min k l = l from by omega] at g2
  rw [← g1, ← g2, ← Int.add_mul] at hT
  generalize signed s m (k - min k l) + signed t n (l - min k l) = S at *
  generalize min k l = z at *
  have hz := Nat.two_pow_pos z
  have hz' : (0 : Int) < ((2 ^ z : Nat) : Int) := by omega
  refine ⟨if S = 0 then s && t else decide (S < 0), ?_, ?_⟩
  · have e := nearest_scale (if S = 0 then s && t else decide (S < 0)) S.natAbs z ((z : Int) - 1074)
    have e2 : T.natAbs = S.natAbs * 2 ^ z := by rw [hT, Int.natAbs_mul, Int.natAbs_natCast]
    rw [e2, show (-1074 - ((0 : Nat) : Int)) = (z : Int) - 1074 - (z : Int) from by omega, e]
  · intro h
    have hS : S ≠ 0 := fun h0 => h (by rw [hT, h0, Int.zero_mul])
    rw [if_neg hS, hT]
    by_cases c : S < 0
    · rw [decide_eq_true c, decide_eq_true (Int.mul_neg_of_neg_of_pos c hz')]
    · rw [decide_eq_false c, decide_eq_false (by have := Int.mul_nonneg (show 0 ≤ S by omega) (Int.le_of_lt hz'); omega)]
theorem add_near {a b : Nat} (ha : fin a) (hb : fin b) : ∃ z, floatBits .add .f64 a b = some (double.nearest z (sgI a + sgI b).natAbs (-1074 - ((0 : Nat) : Int))) ∧ (sgI a + sgI b ≠ 0 → z = decide (sgI a + sgI b < 0)) := by
  obtain ⟨m, k, e1, v1⟩ := read_fin ha
  obtain ⟨n, l, e2, v2⟩ := read_fin hb
  show ∃ z, double.add a b = _ ∧ _
  unfold Format.add
  rw [e1, e2]
  exact sum_near _ _ m n k l _ (by rw [sgI_read ha v1, sgI_read hb v2])
theorem sub_near {a b : Nat} (ha : fin a) (hb : fin b) : ∃ z, floatBits .sub .f64 a b = some (double.nearest z (sgI a - sgI b).natAbs (-1074 - ((0 : Nat) : Int))) ∧ (sgI a - sgI b ≠ 0 → z = decide (sgI a - sgI b < 0)) := by
  obtain ⟨m, k, e1, v1⟩ := read_fin ha
  obtain ⟨n, l, e2, v2⟩ := read_fin hb
  show ∃ z, double.sub a b = _ ∧ _
  unfold Format.sub
  rw [e1, e2]
  refine sum_near _ _ m n k l _ ?_
  rw [sgI_read ha v1, sgI_read hb v2]
  cases decide (9223372036854775808 ≤ b) <;> simp <;> omega
theorem add_btw {a b lo hi : Nat} (ha : fin a) (hb : fin b) (hl : fin lo) (hh : fin hi) (h1 : sgI lo ≤ sgI a + sgI b) (h2 : sgI a + sgI b ≤ sgI hi) :
    ∃ c, floatBits .add .f64 a b = some c ∧ fin c ∧ sgI lo ≤ sgI c ∧ sgI c ≤ sgI hi := by
  obtain ⟨z, e, hz⟩ := add_near ha hb
  exact ⟨_, e, rnd_btw _ z 0 lo hi hz hl hh (by simpa using h1) (by simpa using h2)⟩
theorem sub_btw {a b lo hi : Nat} (ha : fin a) (hb : fin b) (hl : fin lo) (hh : fin hi) (h1 : sgI lo ≤ sgI a - sgI b) (h2 : sgI a - sgI b ≤ sgI hi) :
    ∃ c, floatBits .sub .f64 a b = some c ∧ fin c ∧ sgI lo ≤ sgI c ∧ sgI c ≤ sgI hi := by
  obtain ⟨z, e, hz⟩ := sub_near ha hb
  exact ⟨_, e, rnd_btw _ z 0 lo hi hz hl hh (by simpa using h1) (by simpa using h2)⟩
/-- A product, rounded. -/
theorem mul_btw {a b lo hi : Nat} (ha : fin a) (hb : fin b) (hl : fin lo) (hh : fin hi) (h1 : sgI lo * (one1 : Int) ≤ sgI a * sgI b) (h2 : sgI a * sgI b ≤ sgI hi * (one1 : Int)) :
    ∃ c, floatBits .mul .f64 a b = some c ∧ fin c ∧ sgI lo ≤ sgI c ∧ sgI c ≤ sgI hi := by
  obtain ⟨m, k, e1, v1⟩ := read_fin ha
  obtain ⟨n, l, e2, v2⟩ := read_fin hb
  have ea := sgI_read ha v1
  have eb := sgI_read hb v2
  generalize hT : sgI a * sgI b = T at *
  obtain ⟨K, hS, hK⟩ := one_pow
  rw [hS] at h1 h2
  have hm : ∃ z, floatBits .mul .f64 a b = some (double.nearest z T.natAbs (-1074 - (K : Int))) ∧ (T ≠ 0 → z = decide (T < 0)) := by
    show ∃ z, double.mul a b = _ ∧ _
    unfold Format.mul
    rw [e1, e2]
    simp only [Datum.product, Option.map_some, Format.write]
    generalize hs : decide (9223372036854775808 ≤ a) = s at *
    generalize ht : decide (9223372036854775808 ≤ b) = t at *
    have e := nearest_scale (s ^^ t) (m * n) (k + l) ((k : Int) - 1074 + ((l : Int) - 1074))
    have eN : T.natAbs = m * n * 2 ^ (k + l) := by
      rw [← hT, Int.natAbs_mul, ea, eb, Nat.pow_add]
      have h1 : (if s = true then -((m * 2 ^ k : Nat) : Int) else ((m * 2 ^ k : Nat) : Int)).natAbs = m * 2 ^ k := by split <;> omega
      have h2 : (if t = true then -((n * 2 ^ l : Nat) : Int) else ((n * 2 ^ l : Nat) : Int)).natAbs = n * 2 ^ l := by split <;> omega
      rw [h1, h2, Nat.mul_mul_mul_comm]
    refine ⟨s ^^ t, ?_, ?_⟩
    · rw [eN, show (-1074 - (K : Int)) = (k : Int) - 1074 + ((l : Int) - 1074) - ((k + l : Nat) : Int) from by omega, e]
    · intro h
      rw [ea, eb] at hT
      generalize m * 2 ^ k = x at *
      generalize n * 2 ^ l = y at *
      have hx : x ≠ 0 := fun h0 => h (by rw [← hT, h0]; cases s <;> simp)
      have hy : y ≠ 0 := fun h0 => h (by rw [← hT, h0]; cases t <;> simp)
      have hp : (0 : Int) < (x : Int) * (y : Int) := Int.mul_pos (by omega) (by omega)
      cases s <;> cases t <;> simp [Int.neg_mul, Int.mul_neg] at hT <;> simp <;> omega
  obtain ⟨z, e, hz⟩ := hm
  exact ⟨_, e, rnd_btw T z K lo hi hz hl hh h1 h2⟩
end Go.Proofs.YtgdmbcfjjdngdaaDoor
