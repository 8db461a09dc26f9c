/- Plain facts on headings: their signs, the sector that they point into, their length less 1; nothing of the program is in here. -/
import Derived.Test.YtmjfphidcnjklaaEr6
import Derived.Test.YtmjfphidcnjklaaHp
set_option linter.unusedSimpArgs false
namespace Go.Proofs.Ytmjfphidcnjklaa
open Ieee

abbrev fi' (n : Int) : Nat := floatOfInt .f64 n
theorem rd_word {r : Nat} (h : r < 9218868437227405312) (s : Bool) : ∃ m k, double.read r = .number false m k ∧ double.read (double.word s r) = .number s m k := by
  have W : double.word s r = if s then r + 9223372036854775808 else r := by unfold Format.word; rw [dbl_sw]; cases s <;> simp <;> omega
  rw [W]
  unfold Format.read
  rw [dbl_sw, dbl_bin, dbl_inf, dbl_least]
  simp only []
  have a1 : r / 9223372036854775808 % 2 = 0 := by omega
  have a2 : r % 9223372036854775808 = r := by omega
  have a3 : (r + 9223372036854775808) / 9223372036854775808 % 2 = 1 := by omega
  have a4 : (r + 9223372036854775808) % 9223372036854775808 = r := by omega
  rw [a1, a2]
  cases s
  · simp only [Bool.false_eq_true, if_false]
    rw [a1, a2]
    by_cases c : r < 4503599627370496
    · rw [if_pos c]; exact ⟨_, _, rfl, rfl⟩
    · rw [if_neg c, if_pos h]; exact ⟨_, _, rfl, rfl⟩
  · simp only [if_true]
    rw [a3, a4]
    by_cases c : r < 4503599627370496
    · rw [if_pos c, if_pos c]; exact ⟨_, _, rfl, rfl⟩
    · rw [if_neg c, if_pos h, if_neg c, if_pos h]; exact ⟨_, _, rfl, rfl⟩
theorem mul_ss {r : Nat} (h : r < 9218868437227405312) (s : Bool) : floatBits .mul .f64 (double.word s r) (double.word s r) = floatBits .mul .f64 r r := by
  obtain ⟨m, k, e1, e2⟩ := rd_word h s
  show Format.mul double _ _ = Format.mul double _ _
  unfold Format.mul
  rw [e1, e2]
  cases s <;> rfl
theorem quo_s {r L l q : Nat} (h : r < 9218868437227405312) (hL : Pn L l) (s : Bool) (hq : floatBits .quo .f64 r L = some q) : floatBits .quo .f64 (double.word s r) L = some (double.word s q) := by
  obtain ⟨m, k, e1, e2⟩ := rd_word h s
  obtain ⟨n, i, e3, v, l1, g1, _, _⟩ := hL.read
  have hq' : Format.div double r L = some q := hq
  show Format.div double _ _ = _
  unfold Format.div at hq' ⊢
  rw [e1, e3] at hq'
  rw [e2, e3]
  simp only [Datum.quotient] at hq' ⊢
  rw [if_neg (by omega)] at hq' ⊢
  simp only [Format.write, Option.map_some, Option.some.injEq, Bool.xor_false] at hq' ⊢
  rw [nearest_sign, hq']
theorem fi_word (n : Int) : fi' n = double.word (decide (n < 0)) (fi' n.natAbs) := by
  show double.nearest (decide (n < 0)) n.natAbs 0 = double.word (decide (n < 0)) (double.nearest (decide ((n.natAbs : Int) < 0)) (n.natAbs : Int).natAbs 0)
  rw [nearest_sign, show decide ((n.natAbs : Int) < 0) = false from by simp, Int.natAbs_natCast]
theorem fi_za {D : Nat} (h : D ≤ 4294967296) : Za (fi' (D : Int)) D ∧ fi' (D : Int) < 9218868437227405312 := by
  rcases Nat.eq_zero_or_pos D with c | c
  · subst c; exact ⟨.inl ⟨by decide, rfl⟩, by decide⟩
  · have F : Fl (fi' (D : Int)) (D : Int) := Fl.ofInt (by omega)
    have f := F.1
    have p : 0 < sgI (fi' (D : Int)) := by rw [F.2, ← Int.natCast_mul]; exact Int.ofNat_lt.2 (Nat.mul_pos c one_gt)
    have f2 := f.2
    have f1 := f.1
    have np : ¬ 9223372036854775808 ≤ fi' (D : Int) := by
      intro c
      rw [sgI_of f, if_pos (by simpa using c)] at p
      omega
    have e : sgI (fi' (D : Int)) = (valN (fi' (D : Int)) : Int) := by unfold sgI; rw [if_pos (by omega)]
    have hv : valN (fi' (D : Int)) = D * one1 := by
      have := F.2
      rw [e, ← Int.natCast_mul] at this
      exact Int.ofNat.inj this
    have hi : fi' (D : Int) < 9218868437227405312 := by omega
    have c1 : 1 * one1 ≤ D * one1 := Nat.mul_le_mul_right _ c
    have lo : 4607182418800017408 ≤ fi' (D : Int) := by
      apply Classical.byContradiction
      intro hc
      have := valN_lt (show fi' (D : Int) < 4607182418800017408 by omega)
      rw [hv] at this
      have t : one1 = valN 4607182418800017408 := rfl
      rw [← t] at this
      generalize D * one1 = x at *
      generalize one1 = o at *
      omega
    have d1 : D * one1 ≤ 1208925819614629174706176 * one1 := Nat.mul_le_mul_right _ (Nat.le_trans h (by decide))
    refine ⟨.inr ⟨c, ⟨by omega, hi, hv, ?_, ?_⟩⟩, hi⟩
    · exact Nat.le_trans (by rw [Nat.one_mul] at c1; exact c1) (Nat.le_mul_of_pos_right _ (by decide))
    · rw [Nat.mul_comm one1]; exact d1
/-- A sector is told by the signs and by which of the two is greater. -/
theorem secI_like {a b A B : Int} (h1 : (0 < a ↔ 0 < A) ∧ (a < 0 ↔ A < 0)) (h2 : (0 < b ↔ 0 < B) ∧ (b < 0 ↔ B < 0)) (h3 : a.natAbs < b.natAbs ↔ A.natAbs < B.natAbs) (h4 : b.natAbs < a.natAbs ↔ B.natAbs < A.natAbs) : secI a b = secI A B := by
  unfold secI
  repeat' split
  all_goals omega
theorem q_lt {D E P Q l o : Nat} (hD : D ≤ 4294967296) (o0 : 0 < o) (h1 : Nb 3 (P * l) (D * o * o)) (h2 : Nb 3 (Q * l) (E * o * o)) (h : D < E) : P < Q := by
  apply Classical.byContradiction
  intro hc
  have a1 : Q * l ≤ P * l := Nat.mul_le_mul_right _ (by omega)
  have h3 := nb_le_trans (k := 3) (l := 3) (by decide) (a := E * o * o) (b := P * l) (c := D * o * o) (Nat.le_trans h2.r (Nat.mul_le_mul_right _ a1)) h1.l
  have e1 : E * o * o * 9007199254740992 = E * 9007199254740992 * (o * o) := by rw [Nat.mul_assoc E o o, Nat.mul_right_comm]
  have e2 : D * o * o * (9007199254740992 + (3 + 3 + 1)) = D * (9007199254740992 + (3 + 3 + 1)) * (o * o) := by rw [Nat.mul_assoc D o o, Nat.mul_right_comm]
  rw [e1, e2] at h3
  have h4 := Nat.le_of_mul_le_mul_right h3 (Nat.mul_pos o0 o0)
  omega
theorem sgI_word {q : Nat} (h : q < 9218868437227405312) (s : Bool) : sgI (double.word s q) = if s then -(valN q : Int) else (valN q : Int) := (word_fin s h).2
theorem valN_shift {r : Nat} (h : 4503599627370496 ≤ r) (j : Nat) : valN (r + j * 4503599627370496) = valN r * 2 ^ j := by
  unfold valN
  rw [if_neg (by omega), if_neg (by omega), show (r + j * 4503599627370496) % 4503599627370496 = r % 4503599627370496 from by omega, show (r + j * 4503599627370496) / 4503599627370496 - 1 = (r / 4503599627370496 - 1) + j from by omega, Nat.pow_add, Nat.mul_assoc]
theorem rung_half {n : Nat} (h : n ≤ 9007199254740992) : ∃ r, r < 9218868437227405312 ∧ valN r * 9007199254740992 = n * one1 := by
  rcases Nat.eq_zero_or_pos n with c | c
  · subst c; exact ⟨0, by decide, by rw [valN_zero, Nat.zero_mul, Nat.zero_mul]⟩
  · obtain ⟨r, hr, hv⟩ := rung_of h
    have c1 : 1 * one1 ≤ n * one1 := Nat.mul_le_mul_right _ c
    have lo : 4607182418800017408 ≤ r := by
      apply Classical.byContradiction
      intro hc
      have := valN_lt (show r < 4607182418800017408 by omega)
      rw [hv] at this
      have t : one1 = valN 4607182418800017408 := rfl
      rw [← t] at this
      generalize n * one1 = x at *
      generalize one1 = o at *
      omega
    refine ⟨r - 53 * 4503599627370496, by omega, ?_⟩
    have := valN_shift (r := r - 53 * 4503599627370496) (by omega) 53
    rw [show r - 53 * 4503599627370496 + 53 * 4503599627370496 = r from by omega, hv] at this
    exact this.symm
/-- What is near 1, less 1: exact, and small. -/
theorem near_one {g : Nat} (h1 : 4503599627370496 ≤ g) (h2 : g < 9218868437227405312) (h : Nb 21 (valN g) one1) :
    ∃ c, floatBits .sub .f64 g 4607182418800017408 = some c ∧ fin c ∧ (sgI c).natAbs ≤ valN 4391009636686233600 := by
  have o0 := one_gt
  have one : one1 = valN 4607182418800017408 := rfl
  obtain ⟨t1, t2⟩ := h.two (by decide)
  have s1 : valN (4602678819172646912 + 1 * 4503599627370496) = valN 4602678819172646912 * 2 ^ 1 := valN_shift (by decide) 1
  have s2 : valN (4607182418800017408 + 1 * 4503599627370496) = valN 4607182418800017408 * 2 ^ 1 := valN_shift (by decide) 1
  have s3 : valN (4391009636686233600 + 48 * 4503599627370496) = valN 4391009636686233600 * 2 ^ 48 := valN_shift (by decide) 48
  rw [show 4391009636686233600 + 48 * 4503599627370496 = 4607182418800017408 from by decide, ← one] at s3
  rw [show 4602678819172646912 + 1 * 4503599627370496 = 4607182418800017408 from by decide, ← one] at s1
  rw [← one] at s2
  have g1 : 4602678819172646912 ≤ g := by
    apply Classical.byContradiction
    intro hc
    have := valN_lt (show g < 4602678819172646912 by omega)
    generalize valN g = x at *
    generalize valN 4602678819172646912 = y at *
    generalize one1 = o at *
    omega
  have g2 : g ≤ 4607182418800017408 + 1 * 4503599627370496 := by
    apply Classical.byContradiction
    intro hc
    have := valN_lt (show 4607182418800017408 + 1 * 4503599627370496 < g by omega)
    rw [s2] at this
    generalize valN g = x at *
    generalize one1 = o at *
    omega
  have fg : fin g := ⟨by omega, by omega⟩
  have fo1 : fin 4607182418800017408 := ⟨by decide, by decide⟩
  have eg : sgI g = (valN g : Int) := by unfold sgI; rw [if_pos (by omega)]
  have e1 : sgI 4607182418800017408 = (one1 : Int) := by unfold sgI; rw [if_pos (by decide)]; rfl
  -- the difference, by rungs
  have D : ∃ n, n ≤ 9007199254740992 ∧ (sgI g - sgI 4607182418800017408).natAbs * 9007199254740992 = n * one1 := by
    rw [eg, e1]
    obtain ⟨X, hX⟩ : ∃ X : Nat, X = 1021 := ⟨_, rfl⟩
    have eo : one1 = 9007199254740992 * 2 ^ X := by
      obtain ⟨T, hT⟩ : ∃ T : Nat, T = 1074 := ⟨_, rfl⟩
      rw [one_is', ← hT, show T = 53 + X from by omega, Nat.pow_add]
    have hb := Nat.two_pow_pos X
    by_cases c : g < 4607182418800017408
    · have hv : valN g = (4503599627370496 + g % 4503599627370496) * 2 ^ X := by
        unfold valN
        rw [if_neg (by omega), show g / 4503599627370496 - 1 = X from by omega]
      refine ⟨4503599627370496 - g % 4503599627370496, by omega, ?_⟩
      have e : one1 = valN g + (4503599627370496 - g % 4503599627370496) * 2 ^ X := by
        rw [hv, ← Nat.add_mul, show 4503599627370496 + g % 4503599627370496 + (4503599627370496 - g % 4503599627370496) = 9007199254740992 from by omega]
        exact eo
      have e' : ((valN g : Int) - (one1 : Int)).natAbs = (4503599627370496 - g % 4503599627370496) * 2 ^ X := by
        generalize (4503599627370496 - g % 4503599627370496) * 2 ^ X = z at *
        generalize valN g = x at *
        generalize one1 = o at *
        omega
      rw [e', eo, Nat.mul_assoc, Nat.mul_comm (2 ^ X)]
    · by_cases c2 : g = 4607182418800017408 + 1 * 4503599627370496
      · refine ⟨9007199254740992, by omega, ?_⟩
        have t : valN g = 2 * one1 := by rw [c2, s2, Nat.pow_one, Nat.mul_comm]
        have e' : ((valN g : Int) - (one1 : Int)).natAbs = one1 := by
          generalize valN g = x at *
          generalize one1 = o at *
          omega
        rw [e', Nat.mul_comm]
      · have hv : valN g = (4503599627370496 + g % 4503599627370496) * 2 ^ (X + 1) := by
          unfold valN
          rw [if_neg (by omega), show g / 4503599627370496 - 1 = X + 1 from by omega]
        refine ⟨2 * (g % 4503599627370496), by omega, ?_⟩
        have e : valN g = one1 + 2 * (g % 4503599627370496) * 2 ^ X := by
          rw [hv, eo, ← Nat.add_mul, Nat.pow_succ, Nat.mul_comm (2 ^ X), ← Nat.mul_assoc, show (4503599627370496 + g % 4503599627370496) * 2 = 9007199254740992 + 2 * (g % 4503599627370496) from by omega]
        have e' : ((valN g : Int) - (one1 : Int)).natAbs = 2 * (g % 4503599627370496) * 2 ^ X := by
          generalize 2 * (g % 4503599627370496) * 2 ^ X = z at *
          generalize valN g = x at *
          generalize one1 = o at *
          omega
        rw [e', eo, Nat.mul_assoc, Nat.mul_comm (2 ^ X)]
  obtain ⟨n, hn, hd⟩ := D
  obtain ⟨r, hr, hv⟩ := rung_half hn
  have hd' : (sgI g - sgI 4607182418800017408).natAbs = valN r := Nat.eq_of_mul_eq_mul_right (by decide) (hd.trans hv.symm)
  obtain ⟨c, h3, h4, h5⟩ := sub_exact fg fo1 hr hd'
  refine ⟨c, h3, h4, ?_⟩
  rw [h5, eg, e1]
  have l := h.l
  have k := h.r
  generalize valN g = x at *
  generalize valN 4391009636686233600 = y at *
  generalize one1 = o at *
  clear hd hv hd' h5 h4 h3 eg e1
  omega
end Go.Proofs.Ytmjfphidcnjklaa
