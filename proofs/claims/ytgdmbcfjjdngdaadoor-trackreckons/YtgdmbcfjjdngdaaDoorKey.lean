/- Plain facts on the order of all double words, and on sums of words; nothing of the program is in here. -/
import Derived.Test.YtgdmbcfjjdngdaaDoorDbl
namespace Go.Proofs.YtgdmbcfjjdngdaaDoor
open Ieee

/-- A word of 64 bits, of none that is a number, of an infinite one. -/
abbrev isN (b : Nat) : Prop := 9218868437227405312 < b % 9223372036854775808
theorem read_nan {b : Nat} (h : isN b) : ∃ s t, double.read b = .nan s t := by
  unfold isN at h
  unfold Format.read
  rw [dbl_sw, dbl_bin, dbl_inf, dbl_least]
  refine ⟨b / 9223372036854775808 % 2 == 1, b % 9223372036854775808 - 9218868437227405312, ?_⟩
  simp only []
  rw [if_neg (by omega), if_neg (by omega), if_neg (by omega)]
theorem order_nan_l {b : Nat} (c : Nat) (h : isN b) : double.order b c = none := by
  obtain ⟨s, t, e⟩ := read_nan h
  unfold Format.order
  rw [e]
  rfl
theorem order_nan_r {b : Nat} (c : Nat) (h : isN b) : double.order c b = none := by
  obtain ⟨s, t, e⟩ := read_nan h
  unfold Format.order
  rw [e]
  cases double.read c <;> rfl
theorem read_inf (s : Bool) : double.read ((if s then 9223372036854775808 else 0) + 9218868437227405312) = .infinity s := by cases s <;> decide
theorem inf_cases {b : Nat} (h : b < 18446744073709551616) (hn : ¬ isN b) : fin b ∨ b = 9218868437227405312 ∨ b = 18442240474082181120 := by
  unfold isN at hn
  unfold fin
  omega
theorem valN_le {r t : Nat} (h : r ≤ t) : valN r ≤ valN t := by
  rcases Nat.lt_or_eq_of_le h with h | h
  · exact Nat.le_of_lt (valN_lt h)
  · rw [h]; exact Nat.le_refl _
theorem valN_pos {r : Nat} (h : 0 < r) : 0 < valN r := by have := valN_lt h; rw [valN_zero] at this; exact this
theorem sgI_abs {b : Nat} (h : fin b) : -(valN 9218868437227405312 : Int) < sgI b ∧ sgI b < (valN 9218868437227405312 : Int) := by
  have h1 := valN_lt h.2
  rw [sgI_of h]
  split <;> omega
theorem sgI_inf : sgI 9218868437227405312 = (valN 9218868437227405312 : Int) := by unfold sgI; rw [if_pos (by decide)]
theorem sgI_ninf : sgI 18442240474082181120 = -(valN 9218868437227405312 : Int) := by unfold sgI; rw [if_neg (by decide)]
theorem cmp_lt {a b : Int} (h : a < b) : compare a b = .lt := by
  show compareOfLessAndEq a b = _
  unfold compareOfLessAndEq
  rw [if_pos h]
theorem cmp_gt {a b : Int} (h : b < a) : compare a b = .gt := by
  show compareOfLessAndEq a b = _
  unfold compareOfLessAndEq
  rw [if_neg (by omega), if_neg (by omega)]
theorem cmp_eq {a b : Int} (h : a = b) : compare a b = .eq := by
  show compareOfLessAndEq a b = _
  unfold compareOfLessAndEq
  rw [if_neg (by omega), if_pos h]
/-- The order of two numbers, infinite ones too. -/
theorem order_num {a b : Nat} (ha : a < 18446744073709551616) (hb : b < 18446744073709551616) (na : ¬ isN a) (nb : ¬ isN b) :
    double.order a b = some (compare (sgI a) (sgI b)) := by
  have ip : double.read 9218868437227405312 = .infinity false := read_inf false
  have im : double.read 18442240474082181120 = .infinity true := read_inf true
  have vp : (0 : Int) < (valN 9218868437227405312 : Int) := by have := valN_pos (r := 9218868437227405312) (by decide); omega
  rcases inf_cases ha na with fa | rfl | rfl
  · rcases inf_cases hb nb with fb | rfl | rfl
    · exact order_fin fa fb
    · rw [sgI_inf, cmp_lt (sgI_abs fa).2]
      obtain ⟨m, k, e, _⟩ := read_fin fa
      unfold Format.order; rw [ip, e]; rfl
    · rw [sgI_ninf, cmp_gt (sgI_abs fa).1]
      obtain ⟨m, k, e, _⟩ := read_fin fa
      unfold Format.order; rw [im, e]; rfl
  · rcases inf_cases hb nb with fb | rfl | rfl
    · rw [sgI_inf, cmp_gt (sgI_abs fb).2]
      obtain ⟨m, k, e, _⟩ := read_fin fb
      unfold Format.order; rw [ip, e]; rfl
    · rw [cmp_eq rfl]; unfold Format.order; rw [ip]; rfl
    · rw [sgI_inf, sgI_ninf, cmp_gt (by omega)]; unfold Format.order; rw [ip, im]; rfl
  · rcases inf_cases hb nb with fb | rfl | rfl
    · rw [sgI_ninf, cmp_lt (sgI_abs fb).1]
      obtain ⟨m, k, e, _⟩ := read_fin fb
      unfold Format.order; rw [im, e]; rfl
    · rw [sgI_inf, sgI_ninf, cmp_lt (by omega)]; unfold Format.order; rw [ip, im]; rfl
    · rw [cmp_eq rfl]; unfold Format.order; rw [im]; rfl

/-- The place of a word in the order: none that is a number is above all. -/
def key (b : Nat) : Int := if isN b then (valN 9223372036854775808 : Int) else sgI b
theorem key_nan {b : Nat} (h : isN b) : key b = (valN 9223372036854775808 : Int) := by unfold key; rw [if_pos h]
theorem key_num {b : Nat} (h : ¬ isN b) : key b = sgI b := by unfold key; rw [if_neg h]
theorem key_lt {b : Nat} (hb : b < 18446744073709551616) (h : ¬ isN b) : key b < (valN 9223372036854775808 : Int) := by
  rw [key_num h]
  have hv := valN_lt (r := 9218868437227405312) (t := 9223372036854775808) (by decide)
  rcases inf_cases hb h with f | rfl | rfl
  · have := (sgI_abs f).2; omega
  · rw [sgI_inf]; omega
  · rw [sgI_ninf]; omega
/-- The three tests of two words. -/
theorem lt_key {a b : Nat} (ha : a < 18446744073709551616) (hb : b < 18446744073709551616) : (double.order a b == some .lt) = decide (¬ isN a ∧ ¬ isN b ∧ key a < key b) := by
  by_cases na : isN a
  · rw [order_nan_l _ na, decide_eq_false (fun h => h.1 na)]; rfl
  · by_cases nb : isN b
    · rw [order_nan_r _ nb, decide_eq_false (fun h => h.2.1 nb)]; rfl
    · rw [order_num ha hb na nb, key_num na, key_num nb]
      by_cases c : sgI a < sgI b
      · rw [cmp_lt c, decide_eq_true ⟨na, nb, c⟩]; rfl
      · rw [decide_eq_false (fun h => c h.2.2)]
        by_cases c2 : sgI a = sgI b
        · rw [cmp_eq c2]; rfl
        · rw [cmp_gt (by omega)]; rfl
theorem gt_key {a b : Nat} (ha : a < 18446744073709551616) (hb : b < 18446744073709551616) : (double.order a b == some .gt) = decide (¬ isN a ∧ ¬ isN b ∧ key b < key a) := by
  by_cases na : isN a
  · rw [order_nan_l _ na, decide_eq_false (fun h => h.1 na)]; rfl
  · by_cases nb : isN b
    · rw [order_nan_r _ nb, decide_eq_false (fun h => h.2.1 nb)]; rfl
    · rw [order_num ha hb na nb, key_num na, key_num nb]
      by_cases c : sgI b < sgI a
      · rw [cmp_gt c, decide_eq_true ⟨na, nb, c⟩]; rfl
      · rw [decide_eq_false (fun h => c h.2.2)]
        by_cases c2 : sgI a = sgI b
        · rw [cmp_eq c2]; rfl
        · rw [cmp_lt (by omega)]; rfl
theorem eq_key {a b : Nat} (ha : a < 18446744073709551616) (hb : b < 18446744073709551616) : (double.order a b == some .eq) = decide (¬ isN a ∧ ¬ isN b ∧ key a = key b) := by
  by_cases na : isN a
  · rw [order_nan_l _ na, decide_eq_false (fun h => h.1 na)]; rfl
  · by_cases nb : isN b
    · rw [order_nan_r _ nb, decide_eq_false (fun h => h.2.1 nb)]; rfl
    · rw [order_num ha hb na nb, key_num na, key_num nb]
      by_cases c : sgI a = sgI b
      · rw [cmp_eq c, decide_eq_true ⟨na, nb, c⟩]; rfl
      · rw [decide_eq_false (fun h => c h.2.2)]
        by_cases c2 : sgI a < sgI b
        · rw [cmp_lt c2]; rfl
        · rw [cmp_gt (by omega)]; rfl
/-- Which of two numbers is the smaller. -/
def cmpI (m n : Int) : Int := if m < n then -1 else if n < m then 1 else 0
end Go.Proofs.YtgdmbcfjjdngdaaDoor
