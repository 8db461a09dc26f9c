/- Plain facts on the nearest whole number: by a cut to the even one, and by what is left above the number below; nothing of the program is in here. -/
import Derived.Test.YtmjfphidcnjklaaQd
set_option linter.unusedSimpArgs false
namespace Go.Proofs.Ytmjfphidcnjklaa
open Ieee

theorem cut_rne' (s : Bool) (A K : Nat) : Toward.even.cut s A K = rne A K := by
  by_cases h : K ≤ A.log2 + 2
  · exact cut_rne s A K h
  · have h1 : A < 2 ^ (A.log2 + 1) := Nat.lt_log2_self
    have h2 : 2 ^ (A.log2 + 2) = 2 * 2 ^ (A.log2 + 1) := by rw [show A.log2 + 2 = A.log2 + 1 + 1 from rfl, Nat.pow_succ]; omega
    have h3 : 2 ^ (A.log2 + 2) ≤ 2 ^ K := Nat.pow_le_pow_right (by omega) (by omega)
    unfold Toward.cut rne
    rw [Nat.min_eq_right (by omega)]
    simp only [Nat.one_shiftLeft]
    have a1 : A / 2 ^ (A.log2 + 2) = 0 := Nat.div_eq_of_lt (by omega)
    have a2 : A % 2 ^ (A.log2 + 2) = A := Nat.mod_eq_of_lt (by omega)
    have a3 : A / 2 ^ K = 0 := Nat.div_eq_of_lt (by omega)
    have a4 : A % 2 ^ K = A := Nat.mod_eq_of_lt (by omega)
    rw [a1, a2, a3, a4, if_neg (by omega)]
    have e1 : decide (2 ^ (A.log2 + 2) < 2 * A) = false := by simp; omega
    have e2 : (2 ^ (A.log2 + 2) == 2 * A) = false := by rw [beq_eq_false_iff_ne]; omega
    rw [e1, e2]
    rfl
/-- The size of the nearest whole number. -/
def rcI (v : Nat) : Nat := v / one1 + (if one1 < 2 * (v % one1) ∨ (one1 = 2 * (v % one1) ∧ v / one1 % 2 = 1) then 1 else 0)
theorem rte_gen {x : Nat} (h : fin x) (hb : rcI (valN (x % 9223372036854775808)) ≤ 9007199254740992) : Fl (rteF x) (if 9223372036854775808 ≤ x then -(rcI (valN (x % 9223372036854775808)) : Int) else (rcI (valN (x % 9223372036854775808)) : Int)) := by
  obtain ⟨m, k, e, v⟩ := read_fin h
  unfold rteF
  rw [e]
  show Fl (double.nearest (decide (9223372036854775808 ≤ x)) (Toward.even.cut (decide (9223372036854775808 ≤ x)) (m <<< ((k : Int) - 1074).toNat) (-((k : Int) - 1074)).toNat) 0) _
  have C : Toward.even.cut (decide (9223372036854775808 ≤ x)) (m <<< ((k : Int) - 1074).toNat) (-((k : Int) - 1074)).toNat = rcI (valN (x % 9223372036854775808)) := by
    obtain ⟨T, hT⟩ : ∃ T : Nat, T = 1074 := ⟨_, rfl⟩
    have hR : rcI (valN (x % 9223372036854775808)) = rne (m * 2 ^ k) T := by unfold rcI rne; rw [one_is', ← hT, ← v]
    rw [hR, Nat.shiftLeft_eq]
    by_cases c : T ≤ k
    · rw [show ((k : Int) - 1074).toNat = k - T from by omega, show (-((k : Int) - 1074)).toNat = 0 from by omega, cut_even0]
      rw [show m * 2 ^ k = m * 2 ^ (k - T) * 2 ^ T from by rw [Nat.mul_assoc, ← Nat.pow_add, show k - T + T = k from by omega], rne_exact]
    · rw [show ((k : Int) - 1074).toNat = 0 from by omega, show (-((k : Int) - 1074)).toNat = T - k from by omega, Nat.pow_zero, Nat.mul_one]
      by_cases m0 : m = 0
      · subst m0
        rw [cut_rne', Nat.zero_mul]
        unfold rne
        simp
      · have := cut_scale (decide (9223372036854775808 ≤ x)) m (T - k) k m0
        rw [← this, show T - k + k = T from by omega, cut_rne']
  rw [C]
  generalize rcI (valN (x % 9223372036854775808)) = c at *
  by_cases c0 : c = 0
  · subst c0
    rw [nearest_zero]
    have := word_zero (decide (9223372036854775808 ≤ x))
    simpa using this
  · by_cases hs : 9223372036854775808 ≤ x
    · rw [decide_eq_true hs, if_pos hs]
      have := Fl.ofInt (n := -(c : Int)) (by omega)
      have e2 : floatOfInt .f64 (-(c : Int)) = double.nearest true c 0 := by
        show double.nearest (decide (-(c : Int) < 0)) (-(c : Int)).natAbs 0 = _
        rw [decide_eq_true (by omega), show (-(c : Int)).natAbs = c from by omega]
      rwa [e2] at this
    · rw [decide_eq_false hs, if_neg hs]
      have := Fl.ofInt (n := (c : Int)) (by omega)
      have e2 : floatOfInt .f64 (c : Int) = double.nearest false c 0 := by
        show double.nearest (decide ((c : Int) < 0)) (c : Int).natAbs 0 = _
        rw [decide_eq_false (by omega), show (c : Int).natAbs = c from by omega]
      rwa [e2] at this
/-- The nearest whole number of one below 2^52, and how Nearest tells it. -/
def rcS (s : Int) : Int := if s < 0 then -(rcI s.natAbs : Int) else (rcI s.natAbs : Int)
theorem nr_gen {x : Nat} (h : fin x) (hb : (sgI x).natAbs < 4503599627370496 * one1) : nrF x = if (rcS (sgI x)).natAbs ≤ 1073741823 then (rcS (sgI x), 0) else (0, 21) := by
  have hp := one_pos
  have hv : (sgI x).natAbs = valN (x % 9223372036854775808) := by rw [sgI_of h]; split <;> omega
  have hq : valN (x % 9223372036854775808) / one1 < 4503599627370496 := by rw [Nat.div_lt_iff_lt_mul hp, ← hv]; exact hb
  have hc : rcI (valN (x % 9223372036854775808)) ≤ 4503599627370496 := by unfold rcI; split <;> omega
  have hr := rte_gen h (by omega)
  have e : (if 9223372036854775808 ≤ x then -(rcI (valN (x % 9223372036854775808)) : Int) else (rcI (valN (x % 9223372036854775808)) : Int)) = rcS (sgI x) := by
    unfold rcS
    rw [hv]
    by_cases c : 9223372036854775808 ≤ x
    · rw [if_pos c]
      by_cases z : x % 9223372036854775808 = 0
      · rw [z, valN_zero]
        have : rcI 0 = 0 := by unfold rcI; simp
        rw [this]; simp
      · have := valN_pos (r := x % 9223372036854775808) (by omega)
        rw [if_pos (by rw [sgI_of h, if_pos (by simpa using c)]; omega)]
    · rw [if_neg c, if_neg (by rw [sgI_of h, if_neg (by simpa using c)]; omega)]
  rw [e] at hr
  have hn : (rcS (sgI x)).natAbs ≤ 4503599627370496 := by rw [← e]; split <;> omega
  generalize rcS (sgI x) = n at *
  unfold nrF
  rw [if_neg (fin_num h)]
  have ho : outB (rteF x) = decide (1073741823 < n.natAbs) := by
    unfold outB
    rw [show double.order (rteF x) 13965662444467519488 = some (compare n (-1073741823)) from hr.order fl_lo, show double.order (rteF x) 4742290407612743680 = some (compare n 1073741823) from hr.order fl_hi]
    rcases Int.lt_trichotomy n (-1073741823) with c | c | c
    · rw [cmp_lt c, decide_eq_true (by omega)]; rfl
    · rw [cmp_eq c, cmp_lt (show n < 1073741823 from by omega), decide_eq_false (by omega)]; rfl
    · rw [cmp_gt c]
      rcases Int.lt_trichotomy n 1073741823 with c2 | c2 | c2
      · rw [cmp_lt c2, decide_eq_false (by omega)]; rfl
      · rw [cmp_eq c2, decide_eq_false (by omega)]; rfl
      · rw [cmp_gt c2, decide_eq_true (by omega)]; rfl
  rw [ho]
  by_cases c : n.natAbs ≤ 1073741823
  · rw [if_pos c, decide_eq_false (by omega), if_neg (by decide), val_whole hr c]; rfl
  · rw [if_neg c, decide_eq_true (by omega), if_pos rfl]
/-- One that is too great: whole already, and out of bounds. -/
theorem nr_huge {x : Nat} (hx : x < 18446744073709551616) (n : ¬ isN x) (hb : 4503599627370496 * one1 ≤ (sgI x).natAbs) : nrF x = (0, 21) := by
  unfold nrF
  rw [if_neg n]
  have ho : outB (rteF x) = true := by
    rcases inf_cases hx n with f | rfl | rfl
    · have hp := one_pos
      have hv : (sgI x).natAbs = valN (x % 9223372036854775808) := by rw [sgI_of f]; split <;> omega
      obtain ⟨m, k, e, v, lm⟩ := read_fin' f
      obtain ⟨T, hT⟩ : ∃ T : Nat, T = 1074 := ⟨_, rfl⟩
      have hk : T ≤ k := by
        apply Classical.byContradiction
        intro hc
        rw [hv, ← v, one_is', ← hT] at hb
        obtain ⟨d, hd⟩ : ∃ d, T = k + 1 + d := ⟨T - (k + 1), by omega⟩
        have e2 : 2 ^ T = 2 ^ k * 2 * 2 ^ d := by rw [hd, Nat.pow_add, Nat.pow_add]
        have hk' := Nat.two_pow_pos k
        have hd' := Nat.two_pow_pos d
        have h5 : 2 ^ k * 2 * 1 ≤ 2 ^ k * 2 * 2 ^ d := Nat.mul_le_mul_left _ hd'
        have h6 : m * 2 ^ k < 9007199254740992 * 2 ^ k := Nat.mul_lt_mul_of_pos_right lm hk'
        rw [← e2] at h5
        generalize 2 ^ T = y at *
        generalize m * 2 ^ k = z at *
        generalize 2 ^ k = u at *
        omega
      have er : rteF x = double.word (decide (9223372036854775808 ≤ x)) (x % 9223372036854775808) := by
        unfold rteF
        rw [e]
        show double.nearest (decide (9223372036854775808 ≤ x)) (Toward.even.cut _ (m <<< ((k : Int) - 1074).toNat) (-((k : Int) - 1074)).toNat) 0 = _
        rw [show (-((k : Int) - 1074)).toNat = 0 from by omega, cut_even0, show ((k : Int) - 1074).toNat = k - T from by omega, Nat.shiftLeft_eq]
        have := nearest_scale (decide (9223372036854775808 ≤ x)) m (k - T) ((k - T : Nat) : Int)
        rw [Int.sub_self] at this
        rw [this, show ((k - T : Nat) : Int) = (k : Int) - 1074 from by omega, nearest_exact _ m k _ f.2 v]
      have ex : double.word (decide (9223372036854775808 ≤ x)) (x % 9223372036854775808) = x := by
        unfold Format.word
        rw [dbl_sw]
        by_cases c : 9223372036854775808 ≤ x
        · rw [decide_eq_true c, if_pos rfl]; omega
        · rw [decide_eq_false c, if_neg (by decide)]; omega
      rw [er, ex]
      unfold outB
      rw [lt_key hx fl_lo.1.1, gt_key hx fl_hi.1.1, key_num n, key_num (fin_num fl_lo.1), key_num (fin_num fl_hi.1), fl_lo.2, fl_hi.2]
      have n1 := fin_num fl_lo.1
      have n2 := fin_num fl_hi.1
      by_cases c : sgI x < 0
      · rw [decide_eq_true ⟨n, n1, by omega⟩]; rfl
      · have q : decide (¬ isN x ∧ ¬ isN 4742290407612743680 ∧ 1073741823 * (one1 : Int) < sgI x) = true := decide_eq_true ⟨n, n2, by omega⟩
        rw [q, Bool.or_true]
    · decide +kernel
    · decide +kernel
  rw [ho, if_pos rfl]
end Go.Proofs.Ytmjfphidcnjklaa
