/- Plain: bits moved apart and back, by the places they come from; the same by sums. -/
import Derived.Test.YtmoddfikhipagaaBa
import Derived.Laws.BitsAllLaws
namespace Go.Proofs.Ytmoddfikhipagaa
open Go.RowKit Go.Sort

/-- One step apart: what lies there and the same m places on, masked. -/
def stN (m M x : Nat) : Nat := (x ||| (x * 2 ^ m % 18446744073709551616)) &&& M
def gtN (m M x : Nat) : Nat := (x ||| (x / 2 ^ m)) &&& M
def spN (n : Nat) : Nat := stN 1 6148914691236517205 (stN 2 3689348814741910323 (stN 4 1085102592571150095 (stN 8 71777214294589695 (stN 16 281470681808895 n))))
def gaN (n : Nat) : Nat := gtN 16 4294967295 (gtN 8 281470681808895 (gtN 4 71777214294589695 (gtN 2 1085102592571150095 (gtN 1 3689348814741910323 (n &&& 6148914691236517205)))))

/-- Where each bit may come from. -/
def Comes (n : Nat) (S : Nat → List Nat) (x : Nat) : Prop := ∀ j, x.testBit j = (S j).any n.testBit
def sSt (m M : Nat) (S : Nat → List Nat) (j : Nat) : List Nat := if M.testBit j then S j ++ (if j < 64 && m ≤ j then S (j - m) else []) else []
def sGt (m M : Nat) (S : Nat → List Nat) (j : Nat) : List Nat := if M.testBit j then S j ++ S (j + m) else []
def s0 (k j : Nat) : List Nat := if j < k then [j] else []
theorem comes0 {n k : Nat} (h : n < 2 ^ k) : Comes n (s0 k) n := fun j => by
  unfold s0
  by_cases hj : j < k
  · rw [if_pos hj]; simp
  · rw [if_neg hj, Nat.testBit_lt_two_pow (Nat.lt_of_lt_of_le h (Nat.pow_le_pow_right (by omega) (by omega)))]; rfl
theorem comesSt {n x : Nat} {S : Nat → List Nat} (m M : Nat) (h : Comes n S x) : Comes n (sSt m M S) (stN m M x) := fun j => by
  have e : (x * 2 ^ m % 18446744073709551616).testBit j = (decide (j < 64) && (decide (m ≤ j) && x.testBit (j - m))) := by
    rw [show (18446744073709551616 : Nat) = 2 ^ 64 from rfl, Nat.testBit_mod_two_pow, ← Nat.shiftLeft_eq, Nat.testBit_shiftLeft]
  unfold stN sSt
  rw [Nat.testBit_and, Nat.testBit_or, e, h j, h (j - m)]
  by_cases hM : M.testBit j = true
  · rw [if_pos hM, hM, Bool.and_true, List.any_append]
    by_cases h1 : j < 64 <;> by_cases h2 : m ≤ j <;> simp [h1, h2]
  · rw [if_neg hM]
    simp at hM
    simp [hM]
theorem comesGt {n x : Nat} {S : Nat → List Nat} (m M : Nat) (h : Comes n S x) : Comes n (sGt m M S) (gtN m M x) := fun j => by
  have e : (x / 2 ^ m).testBit j = x.testBit (j + m) := by rw [Nat.testBit_div_two_pow]
  unfold gtN sGt
  rw [Nat.testBit_and, Nat.testBit_or, e, h j, h (j + m)]
  by_cases hM : M.testBit j = true
  · rw [if_pos hM, hM, Bool.and_true, List.any_append]
  · rw [if_neg hM]
    simp at hM
    simp [hM]
theorem comesAnd {n x : Nat} {S : Nat → List Nat} (M : Nat) (h : Comes n S x) : Comes n (fun j => if M.testBit j then S j else []) (x &&& M) := fun j => by
  rw [Nat.testBit_and, h j]
  by_cases hM : M.testBit j = true
  · simp [hM]
  · simp at hM; simp [hM]
def sSp : Nat → List Nat := sSt 1 6148914691236517205 (sSt 2 3689348814741910323 (sSt 4 1085102592571150095 (sSt 8 71777214294589695 (sSt 16 281470681808895 (s0 32)))))
def sGa : Nat → List Nat := sGt 16 4294967295 (sGt 8 281470681808895 (sGt 4 71777214294589695 (sGt 2 1085102592571150095 (sGt 1 3689348814741910323 (fun j => if (6148914691236517205 : Nat).testBit j then s0 64 j else [])))))
theorem sSp_all : (List.range 64).all (fun j => sSp j == (if j % 2 == 0 then [j / 2] else [])) = true := by kernel_rfl
theorem sGa_all : (List.range 32).all (fun j => sGa j == [2 * j]) = true := by kernel_rfl
theorem sp_bit {n : Nat} (h : n < 4294967296) (j : Nat) : (spN n).testBit j = (decide (j < 64) && (decide (j % 2 = 0) && n.testBit (j / 2))) := by
  have hc := comesSt 1 6148914691236517205 (comesSt 2 3689348814741910323 (comesSt 4 1085102592571150095 (comesSt 8 71777214294589695 (comesSt 16 281470681808895 (comes0 (n := n) (k := 32) h)))))
  have hj := hc j
  by_cases h1 : j < 64
  · have := List.all_eq_true.1 sSp_all j (List.mem_range.2 h1)
    rw [beq_iff_eq] at this
    unfold spN
    rw [hj, show sSt 1 6148914691236517205 (sSt 2 3689348814741910323 (sSt 4 1085102592571150095 (sSt 8 71777214294589695 (sSt 16 281470681808895 (s0 32))))) j = sSp j from rfl, this]
    by_cases h2 : j % 2 = 0 <;> simp [h1, h2]
  · have hM : (6148914691236517205 : Nat).testBit j = false := Nat.testBit_lt_two_pow (Nat.lt_of_lt_of_le (by decide : 6148914691236517205 < 2 ^ 64) (Nat.pow_le_pow_right (by omega) (by omega)))
    unfold spN stN
    rw [Nat.testBit_and, hM]
    simp [h1]
theorem ga_bit {n : Nat} (h : n < 18446744073709551616) (j : Nat) : (gaN n).testBit j = (decide (j < 32) && n.testBit (2 * j)) := by
  have hc := comesGt 16 4294967295 (comesGt 8 281470681808895 (comesGt 4 71777214294589695 (comesGt 2 1085102592571150095 (comesGt 1 3689348814741910323 (comesAnd 6148914691236517205 (comes0 (n := n) (k := 64) h))))))
  have hj := hc j
  by_cases h1 : j < 32
  · have := List.all_eq_true.1 sGa_all j (List.mem_range.2 h1)
    rw [beq_iff_eq] at this
    unfold gaN
    rw [hj]
    show (sGa j).any n.testBit = _
    rw [this]
    simp [h1]
  · have hM : (4294967295 : Nat).testBit j = false := Nat.testBit_lt_two_pow (Nat.lt_of_lt_of_le (by decide : 4294967295 < 2 ^ 32) (Nat.pow_le_pow_right (by omega) (by omega)))
    unfold gaN gtN
    rw [Nat.testBit_and, hM]
    simp [h1]

/-! ### The same by sums -/
def inA : Nat → Nat → Nat → Nat
  | 0, _, _ => 0
  | k + 1, u, v => u % 2 + 2 * (v % 2) + 4 * inA k (u / 2) (v / 2)
def outA : Nat → Nat → Nat
  | 0, _ => 0
  | k + 1, n => n % 2 + 2 * outA k (n / 4)
theorem inA_bit : ∀ (k u v j : Nat), (inA k u v).testBit j = (decide (j < 2 * k) && (if j % 2 = 0 then u.testBit (j / 2) else v.testBit (j / 2)))
  | 0, u, v, j => by simp [inA]
  | k + 1, u, v, 0 => by
    rw [Nat.testBit_zero, inA]
    have : (u % 2 + 2 * (v % 2) + 4 * inA k (u / 2) (v / 2)) % 2 = u % 2 := by omega
    rw [this]
    simp [Nat.testBit_zero]
  | k + 1, u, v, 1 => by
    rw [Nat.testBit_succ, Nat.testBit_zero, inA]
    have : (u % 2 + 2 * (v % 2) + 4 * inA k (u / 2) (v / 2)) / 2 % 2 = v % 2 := by omega
    rw [this]
    have h : (1 : Nat) < 2 * (k + 1) := by omega
    simp [Nat.testBit_zero, h]
  | k + 1, u, v, j + 2 => by
    rw [Nat.testBit_succ, Nat.testBit_succ, inA]
    have : (u % 2 + 2 * (v % 2) + 4 * inA k (u / 2) (v / 2)) / 2 / 2 = inA k (u / 2) (v / 2) := by omega
    rw [this, inA_bit k]
    have e1 : (j + 2) % 2 = j % 2 := by omega
    have e2 : (j + 2) / 2 = j / 2 + 1 := by omega
    have e3 : decide (j + 2 < 2 * (k + 1)) = decide (j < 2 * k) := by congr 1; apply propext; omega
    rw [e1, e2, e3, Nat.testBit_succ, Nat.testBit_succ]
theorem outA_bit : ∀ (k n j : Nat), (outA k n).testBit j = (decide (j < k) && n.testBit (2 * j))
  | 0, n, j => by simp [outA]
  | k + 1, n, 0 => by
    rw [Nat.testBit_zero, outA]
    have : (n % 2 + 2 * outA k (n / 4)) % 2 = n % 2 := by omega
    rw [this]
    simp [Nat.testBit_zero]
  | k + 1, n, j + 1 => by
    rw [Nat.testBit_succ, outA]
    have : (n % 2 + 2 * outA k (n / 4)) / 2 = outA k (n / 4) := by omega
    rw [this, outA_bit k]
    have e1 : 2 * (j + 1) = 2 * j + 1 + 1 := by omega
    have e3 : decide (j + 1 < k + 1) = decide (j < k) := by congr 1; apply propext; omega
    have e4 : n / 4 = n / 2 / 2 := by omega
    rw [e1, e3, Nat.testBit_succ, Nat.testBit_succ, e4]
/-- Code's number. -/
theorem code_eq {u v : Nat} (hu : u < 4294967296) (hv : v < 4294967296) : spN u ||| (spN v * 2 % 18446744073709551616) = inA 32 u v := by
  refine Nat.eq_of_testBit_eq fun j => ?_
  have e : (spN v * 2 % 18446744073709551616).testBit j = (decide (j < 64) && (decide (1 ≤ j) && (spN v).testBit (j - 1))) := by
    rw [show (18446744073709551616 : Nat) = 2 ^ 64 from rfl, Nat.testBit_mod_two_pow, show spN v * 2 = spN v <<< 1 from by rw [Nat.shiftLeft_eq], Nat.testBit_shiftLeft]
  rw [Nat.testBit_or, e, sp_bit hu, sp_bit hv, inA_bit]
  by_cases h1 : j < 64
  · by_cases h2 : j % 2 = 0
    · by_cases h3 : 1 ≤ j
      · have : ¬ (j - 1) % 2 = 0 := by omega
        simp [h1, h2, this]
      · simp [h1, h2, h3]
    · have h3 : 1 ≤ j := by omega
      have h4 : (j - 1) % 2 = 0 := by omega
      have h5 : (j - 1) / 2 = j / 2 := by omega
      have h6 : j - 1 < 64 := by omega
      simp [h1, h2, h3, h4, h5, h6]
  · simp [h1]
theorem decode_eq {n : Nat} (h : n < 18446744073709551616) : gaN n = outA 32 n ∧ gaN (n / 2) = outA 32 (n / 2) := by
  refine ⟨Nat.eq_of_testBit_eq fun j => ?_, Nat.eq_of_testBit_eq fun j => ?_⟩
  · rw [ga_bit h, outA_bit]
  · rw [ga_bit (by omega), outA_bit]
theorem inA_lt : ∀ k u v, inA k u v < 4 ^ k
  | 0, _, _ => by simp [inA]
  | k + 1, u, v => by have := inA_lt k (u / 2) (v / 2); rw [inA, Nat.pow_succ]; omega
theorem outA_lt : ∀ k n, outA k n < 2 ^ k
  | 0, _ => by simp [outA]
  | k + 1, n => by have := outA_lt k (n / 4); rw [outA, Nat.pow_succ]; omega
theorem out_in : ∀ k u v, u < 2 ^ k → v < 2 ^ k → outA k (inA k u v) = u ∧ outA k (inA k u v / 2) = v
  | 0, u, v, hu, hv => by simp at hu hv; subst hu; subst hv; exact ⟨rfl, rfl⟩
  | k + 1, u, v, hu, hv => by
    rw [Nat.pow_succ] at hu hv
    obtain ⟨h1, h2⟩ := out_in k (u / 2) (v / 2) (by omega) (by omega)
    simp only [inA, outA]
    have e1 : (u % 2 + 2 * (v % 2) + 4 * inA k (u / 2) (v / 2)) % 2 = u % 2 := by omega
    have e2 : (u % 2 + 2 * (v % 2) + 4 * inA k (u / 2) (v / 2)) / 4 = inA k (u / 2) (v / 2) := by omega
    have e3 : (u % 2 + 2 * (v % 2) + 4 * inA k (u / 2) (v / 2)) / 2 % 2 = v % 2 := by omega
    have e4 : (u % 2 + 2 * (v % 2) + 4 * inA k (u / 2) (v / 2)) / 2 / 4 = inA k (u / 2) (v / 2) / 2 := by omega
    rw [e1, e2, e3, e4, h1, h2]
    omega
theorem in_out : ∀ k n, n < 4 ^ k → inA k (outA k n) (outA k (n / 2)) = n
  | 0, n, h => by simp at h; subst h; rfl
  | k + 1, n, h => by
    rw [Nat.pow_succ] at h
    have ih := in_out k (n / 4) (by omega)
    simp only [inA, outA]
    have e1 : (n % 2 + 2 * outA k (n / 4)) % 2 = n % 2 := by omega
    have e2 : (n % 2 + 2 * outA k (n / 4)) / 2 = outA k (n / 4) := by omega
    have e3 : (n / 2 % 2 + 2 * outA k (n / 2 / 4)) % 2 = n / 2 % 2 := by omega
    have e4 : (n / 2 % 2 + 2 * outA k (n / 2 / 4)) / 2 = outA k (n / 2 / 4) := by omega
    have e5 : n / 2 / 4 = n / 4 / 2 := by omega
    rw [e1, e2, e3, e4, e5, ih]
    omega
theorem in_mono : ∀ k u v u' v', u ≤ u' → v ≤ v' → u' < 2 ^ k → v' < 2 ^ k → inA k u v ≤ inA k u' v' ∧ (u < u' ∨ v < v' → inA k u v < inA k u' v')
  | 0, u, v, u', v', h1, h2, h3, h4 => by simp at h3 h4; simp [inA]; omega
  | k + 1, u, v, u', v', h1, h2, h3, h4 => by
    rw [Nat.pow_succ] at h3 h4
    obtain ⟨i1, i2⟩ := in_mono k (u / 2) (v / 2) (u' / 2) (v' / 2) (by omega) (by omega) (by omega) (by omega)
    simp only [inA]
    by_cases h : u / 2 < u' / 2 ∨ v / 2 < v' / 2
    · have := i2 h
      refine ⟨by omega, fun _ => by omega⟩
    · have e1 : u / 2 = u' / 2 := by omega
      have e2 : v / 2 = v' / 2 := by omega
      rw [e1, e2]
      refine ⟨by omega, fun h => by omega⟩
theorem inA_top : ∀ k u v, inA (k + 1) u v = inA k u v + 4 ^ k * (u / 2 ^ k % 2) + 2 * 4 ^ k * (v / 2 ^ k % 2)
  | 0, u, v => by simp [inA]
  | k + 1, u, v => by
    have ih := inA_top k (u / 2) (v / 2)
    rw [inA, ih, inA, Nat.div_div_eq_div_mul, Nat.div_div_eq_div_mul, Nat.mul_comm 2 (2 ^ k), ← Nat.pow_succ, Nat.pow_succ 4 k]
    generalize u / 2 ^ (k + 1) % 2 = a
    generalize v / 2 ^ (k + 1) % 2 = b
    generalize 4 ^ k = c
    generalize inA k (u / 2) (v / 2) = d
    rw [Nat.mul_comm c 4, Nat.mul_assoc 4 c a, show 2 * (4 * c) * b = 4 * (2 * c * b) by rw [show 2 * (4 * c) = 4 * (2 * c) by omega, Nat.mul_assoc]]
    generalize c * a = e
    generalize 2 * c * b = f
    omega
theorem outA_top : ∀ k n, outA (k + 1) n = outA k n + 2 ^ k * (n / 4 ^ k % 2)
  | 0, n => by simp [outA]
  | k + 1, n => by
    have ih := outA_top k (n / 4)
    rw [outA, ih, outA, Nat.div_div_eq_div_mul, Nat.mul_comm 4 (4 ^ k), ← Nat.pow_succ, Nat.pow_succ 2 k]
    generalize n / 4 ^ (k + 1) % 2 = a
    generalize 2 ^ k = c
    generalize outA k (n / 4) = d
    rw [Nat.mul_comm c 2, Nat.mul_assoc 2 c a]
    generalize c * a = e
    omega
end Go.Proofs.Ytmoddfikhipagaa
