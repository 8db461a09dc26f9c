/- Plain facts on numbers of 128 bits, as a pair of a signed upper and an unsigned lower word; nothing of the program is in here. -/
import Derived.WalkKit
namespace Go.Proofs.Ytljdnahomhbenaa
section
open Go.RowKit

/-- The lower and the upper word of a whole number, modulo 2^128. -/
def loI (n : Int) : Int := n % 18446744073709551616
def hiI (n : Int) : Int := (n / 18446744073709551616 + 9223372036854775808) % 18446744073709551616 - 9223372036854775808

/-- What Add64 and Sub64 answer. -/
def sumLo (x y c : Int) : Int := (x + y + c) % 18446744073709551616
def sumCar (x y c : Int) : Int := (x + y + c) / 18446744073709551616
def difLo (x y c : Int) : Int := (x - y - c) % 18446744073709551616
def difCar (x y c : Int) : Int := if x < y + c then 1 else 0

theorem loI_bd (n : Int) : 0 ≤ loI n ∧ loI n ≤ 18446744073709551615 := by unfold loI; omega
theorem hiI_bd (n : Int) : -9223372036854775808 ≤ hiI n ∧ hiI n ≤ 9223372036854775807 := by unfold hiI; omega

theorem pair_lo (h l : Int) (hl : 0 ≤ l) (hl' : l ≤ 18446744073709551615) : loI (h * 18446744073709551616 + l) = l := by unfold loI; omega
theorem pair_hi (h l : Int) (hl : 0 ≤ l) (hl' : l ≤ 18446744073709551615) (hh : -9223372036854775808 ≤ h) (hh' : h ≤ 9223372036854775807) :
    hiI (h * 18446744073709551616 + l) = h := by unfold hiI; omega

theorem add_lo (m n : Int) : sumLo (loI m) (loI n) 0 = loI (m + n) := by unfold sumLo loI; omega
theorem add_car (m n : Int) : 0 ≤ sumCar (loI m) (loI n) 0 ∧ sumCar (loI m) (loI n) 0 ≤ 1 := by unfold sumCar loI; omega
theorem add_hi (m n : Int) : IntKind.i64.wrap (sumLo (IntKind.u64.wrap (hiI m)) (IntKind.u64.wrap (hiI n)) (sumCar (loI m) (loI n) 0)) = hiI (m + n) := by
  unfold sumLo sumCar loI hiI; simp only [IntKind.wrap_i64, IntKind.wrap_u64]; omega

theorem sub_lo (m n : Int) : difLo (loI m) (loI n) 0 = loI (m - n) := by unfold difLo loI; omega
theorem sub_car (m n : Int) : 0 ≤ difCar (loI m) (loI n) 0 ∧ difCar (loI m) (loI n) 0 ≤ 1 := by unfold difCar; split <;> omega
theorem sub_hi (m n : Int) : IntKind.i64.wrap (difLo (IntKind.u64.wrap (hiI m)) (IntKind.u64.wrap (hiI n)) (difCar (loI m) (loI n) 0)) = hiI (m - n) := by
  unfold difLo difCar loI hiI; simp only [IntKind.wrap_i64, IntKind.wrap_u64]; split <;> omega
theorem wrap_u64_bd (n : Int) : 0 ≤ IntKind.u64.wrap n ∧ IntKind.u64.wrap n < 18446744073709551616 := by rw [IntKind.wrap_u64]; omega

theorem word_eq {m n : Int} (h : hiI m = hiI n) (l : loI m = loI n) : m % 340282366920938463463374607431768211456 = n % 340282366920938463463374607431768211456 := by
  unfold hiI loI at *; omega

theorem add_hi64 (m n : Int) : wrap64 (sumLo (IntKind.u64.wrap (hiI m)) (IntKind.u64.wrap (hiI n)) (sumCar (loI m) (loI n) 0)) = hiI (m + n) := by
  unfold sumLo sumCar loI hiI wrap64; simp only [IntKind.wrap_u64]; omega
theorem sub_hi64 (m n : Int) : wrap64 (difLo (IntKind.u64.wrap (hiI m)) (IntKind.u64.wrap (hiI n)) (difCar (loI m) (loI n) 0)) = hiI (m - n) := by
  unfold difLo difCar loI hiI wrap64; simp only [IntKind.wrap_u64]; split <;> omega

/-- Which of two numbers is the smaller. -/
def cmpI (m n : Int) : Int := if m < n then -1 else if n < m then 1 else 0
/-- A number of 128 bits. -/
def inI (m : Int) : Prop := -170141183460469231731687303715884105728 ≤ m ∧ m < 170141183460469231731687303715884105728
theorem inI_pair (h l : Int) (hl : 0 ≤ l) (hl' : l ≤ 18446744073709551615) (hh : -9223372036854775808 ≤ h) (hh' : h ≤ 9223372036854775807) : inI (h * 18446744073709551616 + l) := by
  unfold inI; omega
theorem cmp_eq {m n : Int} (hm : inI m) (hn : inI n) (h : hiI m = hiI n) (l : loI m = loI n) : m = n := by
  unfold inI hiI loI at *; omega
theorem cmp_same {m n : Int} (hm : inI m) (hn : inI n) (h : hiI m = hiI n) (l : loI m = loI n) : cmpI m n = 0 := by
  rw [cmp_eq hm hn h l]; unfold cmpI; simp
theorem cmp_hi {m n : Int} (hm : inI m) (hn : inI n) (h : hiI m ≠ hiI n) : cmpI (hiI m) (hiI n) = cmpI m n := by
  have e : hiI m < hiI n ↔ m < n := by unfold inI hiI at *; omega
  have e' : hiI n < hiI m ↔ n < m := by unfold inI hiI at *; omega
  unfold cmpI; simp only [e, e']
theorem cmp_lo {m n : Int} (hm : inI m) (hn : inI n) (h : hiI m = hiI n) : cmpI (loI m) (loI n) = cmpI m n := by
  have e : loI m < loI n ↔ m < n := by unfold inI hiI loI at *; omega
  have e' : loI n < loI m ↔ n < m := by unfold inI hiI loI at *; omega
  unfold cmpI; simp only [e, e']
theorem cmpI_bd (m n : Int) : -1 ≤ cmpI m n ∧ cmpI m n ≤ 1 := by unfold cmpI; split <;> (try split) <;> omega
theorem cmpI_neg (m n : Int) : cmpI m n = -cmpI n m := by unfold cmpI; split <;> split <;> (try split) <;> omega
theorem cmpI_zero (m n : Int) : cmpI m n = 0 ↔ m = n := by unfold cmpI; split <;> (try split) <;> omega
theorem cmpI_tri (m n k : Int) : 0 < cmpI m n ∨ 0 < cmpI n k ∨ cmpI m k ≤ 0 := by
  unfold cmpI; split <;> split <;> split <;> (try split) <;> (try split) <;> (try split) <;> omega
theorem inI_zero : inI 0 := by unfold inI; omega
theorem hiI_zero : hiI 0 = 0 := by unfold hiI; omega
theorem loI_zero : loI 0 = 0 := by unfold loI; omega
end
end Go.Proofs.Ytljdnahomhbenaa
