/- Contracts of the library's small functions on floating-point numbers. -/
import Derived.Test.YtgpkigofbncamabDbl
import Derived.Test.YtgpkigofbncamabQuo
namespace Go.Proofs.Ytgpkigofbncamab
open Go.RowKit Go.Sort

theorem run66 (b : Nat) (w : World) : (callFunc 32 #[.float .f64 b]).run Try.prog w = .ok (.value (.int .u64 (b : Int))) w := by
  rw [run_callFunc_extern Try.func32 (by kernel_rfl) (by kernel_rfl) (by kernel_rfl) (e := Extern.MathFloatBits.float64bits) (by kernel_rfl)]
  rfl
theorem run42 (n : Int) (w : World) : (callFunc 31 #[.int .u64 n]).run Try.prog w = .ok (.value (.float .f64 n.toNat)) w := by
  rw [run_callFunc_extern Try.func31 (by kernel_rfl) (by kernel_rfl) (by kernel_rfl) (e := Extern.MathFloatBits.float64frombits) (by kernel_rfl)]
  rfl

theorem order_self {b : Nat} (h : fin b) : Ieee.double.order b b = some .eq := by
  rw [order_fin h h]
  show some (compareOfLessAndEq (sgI b) (sgI b)) = _
  unfold compareOfLessAndEq
  simp
theorem order_lt {a b : Nat} (ha : fin a) (hb : fin b) (h : sgI a < sgI b) : Ieee.double.order a b = some .lt := by
  rw [order_fin ha hb]
  show some (compareOfLessAndEq (sgI a) (sgI b)) = _
  unfold compareOfLessAndEq
  rw [if_pos h]
theorem order_gt {a b : Nat} (ha : fin a) (hb : fin b) (h : sgI b < sgI a) : Ieee.double.order a b = some .gt := by
  rw [order_fin ha hb]
  show some (compareOfLessAndEq (sgI a) (sgI b)) = _
  unfold compareOfLessAndEq
  rw [if_neg (by omega), if_neg (by omega)]
theorem order_eq {a b : Nat} (ha : fin a) (hb : fin b) (h : sgI a = sgI b) : Ieee.double.order a b = some .eq := by
  rw [order_fin ha hb]
  show some (compareOfLessAndEq (sgI a) (sgI b)) = _
  unfold compareOfLessAndEq
  rw [if_neg (by omega), if_pos h]
/-- A word without a sign. -/
theorem sgI_pos {b : Nat} (h : b < 9223372036854775808) : sgI b = (valN b : Int) := by unfold sgI; rw [if_pos h]
theorem fin_pos {b : Nat} (h : b < 9218868437227405312) : fin b := ⟨by omega, by omega⟩
theorem pos_lt {a b : Nat} (ha : a < 9218868437227405312) (hb : b < 9218868437227405312) (h : a < b) : Ieee.double.order a b = some .lt :=
  order_lt (fin_pos ha) (fin_pos hb) (by rw [sgI_pos (by omega), sgI_pos (by omega)]; have := valN_lt h; omega)
theorem pos_gt {a b : Nat} (ha : a < 9218868437227405312) (hb : b < 9218868437227405312) (h : b < a) : Ieee.double.order a b = some .gt :=
  order_gt (fin_pos ha) (fin_pos hb) (by rw [sgI_pos (by omega), sgI_pos (by omega)]; have := valN_lt h; omega)
theorem pos_not_gt {a b : Nat} (ha : a < 9218868437227405312) (hb : b < 9218868437227405312) (h : a ≤ b) : (Ieee.double.order a b == some .gt) = false := by
  rcases Nat.lt_or_eq_of_le h with h1 | h1
  · rw [pos_lt ha hb h1]; rfl
  · subst h1; rw [order_self (fin_pos ha)]; rfl
theorem pos_not_lt {a b : Nat} (ha : a < 9218868437227405312) (hb : b < 9218868437227405312) (h : b ≤ a) : (Ieee.double.order a b == some .lt) = false := by
  rcases Nat.lt_or_eq_of_le h with h1 | h1
  · rw [pos_gt ha hb h1]; rfl
  · subst h1; rw [order_self (fin_pos hb)]; rfl

theorem andnot_sign {b : Nat} (h : b < 18446744073709551616) : bits .andNot .u64 (b : Int) 9223372036854775808 = ((b % 9223372036854775808 : Nat) : Int) := by
  have := u64_andNot_nat b 9223372036854775808 h (by decide)
  rw [show (((9223372036854775808 : Nat)) : Int) = 9223372036854775808 from rfl] at this
  rw [this, show 18446744073709551615 - 9223372036854775808 = 2 ^ 63 - 1 from rfl, Nat.and_two_pow_sub_one_eq_mod]

set_option maxHeartbeats 400000 in
theorem abs_any (b : Nat) (w : World) (h : b < 18446744073709551616) :
    Calls Try.prog 23 #[.float .f64 b] w fun e w' => e = .returned (.float .f64 (b % 9223372036854775808)) ∧ w' = w := by
  have E : Hid (bits .andNot .u64 (b : Int) 9223372036854775808 = ((b % 9223372036854775808 : Nat) : Int)) := andnot_sign h
  clear h
  go_enter Try.func23, Try.ntmps23
  go_wp2_with (first | simp only [run66] | simp only [run42])
  go_ret
  exact ⟨by rw [E.out]; rfl, rfl⟩

set_option maxHeartbeats 400000 in
theorem isnan_any (b : Nat) (w : World) (h : fin b) :
    Calls Try.prog 21 #[.float .f64 b] w fun e w' => e = .returned (.bool false) ∧ w' = w := by
  have o : FloatKind.f64.format.order b b = some .eq := order_self h
  clear h
  go_enter Try.func21, Try.ntmps21
  go_wp2
  go_ret
  exact ⟨rfl, rfl⟩

set_option maxHeartbeats 400000 in
theorem isinf_any (b : Nat) (w : World) (h : fin b) :
    Calls Try.prog 37 #[.float .f64 b, .int .i64 0] w fun e w' => e = .returned (.bool false) ∧ w' = w := by
  have o : (FloatKind.f64.format.order (b % 9223372036854775808) 9218868437227405311 == some .gt) = false := pos_not_gt h.2 (by decide) (by have := h.2; omega)
  have hb := h.1
  clear h
  go_enter Try.func37, Try.ntmps37
  go_wp2_with (go_at_call 23; refine (abs_any b _ hb).mono ?_; rintro e w' ⟨rfl, rfl⟩)
  go_ret
  exact ⟨rfl, rfl⟩

set_option maxHeartbeats 400000 in
theorem normal_any (b : Nat) (w : World) (h : fin b) (hn : 4503599627370496 ≤ b % 9223372036854775808) :
    Calls Try.prog 38 #[.float .f64 b] w fun e w' => e = .returned (.tuple #[.float .f64 b, .int .i64 0]) ∧ w' = w := by
  have o : (FloatKind.f64.format.order (b % 9223372036854775808) 4503599627370496 == some .lt) = false := pos_not_lt h.2 (by decide) hn
  have hb := h.1
  clear h hn
  go_enter Try.func38, Try.ntmps38
  go_wp2_with (go_at_call 23; refine (abs_any b _ hb).mono ?_; rintro e w' ⟨rfl, rfl⟩)
  go_ret2
  exact ⟨rfl, rfl⟩

theorem fw_lt {M E : Nat} (h : Nrm M E) : fw false M E < 9218868437227405312 ∧ 4503599627370496 ≤ fw false M E := by
  obtain ⟨h1, h2, h3⟩ := h
  unfold fw
  simp only [Bool.false_eq_true, if_false]
  omega
theorem sub_mul {r L : Nat} (h : 2 ^ L ≤ r) (h' : r < 2 ^ (L + 1)) (hL : L ≤ 51) :
    floatBits .mul .f64 r 4841369599423283200 = some (fw false (r * 2 ^ (52 - L)) L) ∧ Nrm (r * 2 ^ (52 - L)) L := by
  have hp : r < 4503599627370496 := by
    have : 2 ^ (L + 1) ≤ 2 ^ 52 := Nat.pow_le_pow_right (by omega) (by omega)
    omega
  have e1 : Ieee.double.read r = .number false r (-1074) := by
    unfold Ieee.Format.read
    rw [dbl_sw, dbl_bin, dbl_inf, dbl_least]
    have e1 : r / 9223372036854775808 % 2 = 0 := by omega
    have e2 : r % 9223372036854775808 = r := by omega
    simp only [e1, e2]
    rw [if_pos hp]
    rfl
  have e2 : Ieee.double.read 4841369599423283200 = .number false 4503599627370496 0 := by decide
  have hn := nearest_small false r L L (-1022) h h' (by omega) (by omega) (by omega)
  refine ⟨?_, hn.2⟩
  show Ieee.Format.mul Ieee.double r 4841369599423283200 = _
  unfold Ieee.Format.mul
  rw [e1, e2]
  show some (Ieee.double.nearest (false ^^ false) (r * 4503599627370496) (-1074 + 0)) = _
  have e3 : r * 4503599627370496 = r * 2 ^ (52 - L) * 2 ^ L := by
    rw [Nat.mul_assoc, ← Nat.pow_add, show 52 - L + L = 52 from by omega]
  rw [e3, show (-1074 : Int) + 0 = (L : Int) - 1074 - (L : Nat) from by omega, Bool.false_xor, nearest_fw false hn.2 L]

set_option maxHeartbeats 400000 in
theorem subn_any (r L : Nat) (w : World) (h : 2 ^ L ≤ r) (h' : r < 2 ^ (L + 1)) (hL : L ≤ 51) :
    Calls Try.prog 38 #[.float .f64 r] w fun e w' => e = .returned (.tuple #[.float .f64 (fw false (r * 2 ^ (52 - L)) L), .int .i64 (-52)]) ∧ w' = w := by
  have hp : r < 4503599627370496 := by
    have : 2 ^ (L + 1) ≤ 2 ^ 52 := Nat.pow_le_pow_right (by omega) (by omega)
    omega
  have M : Hid (floatBits .mul .f64 r 4841369599423283200 = some (fw false (r * 2 ^ (52 - L)) L)) := (sub_mul h h' hL).1
  have er : Hid (r % 9223372036854775808 = r) := Nat.mod_eq_of_lt (by omega)
  have o : FloatKind.f64.format.order r 4503599627370496 = some .lt := pos_lt (by omega) (by decide) hp
  clear h h' hL
  have R : ∀ w, (binOp .mul 38 (.float .f64 r) (.float .f64 4841369599423283200)).run Try.prog w = .ok (.float .f64 (fw false (r * 2 ^ (52 - L)) L)) w := fun w => run_float_arith w .mul 38 .f64 _ _ _ M.out
  go_enter Try.func38, Try.ntmps38
  go_wp2_with (go_at_call 23; refine (abs_any r _ (by omega)).mono ?_; rw [er.out]; rintro e w' ⟨rfl, rfl⟩)
  go_ret2
  exact ⟨rfl, rfl⟩

theorem andnot_exp {b : Nat} (h : b < 9223372036854775808) : bits .andNot .u64 (b : Int) 9218868437227405312 = ((b % 4503599627370496 : Nat) : Int) := by
  have := u64_andNot_nat b 9218868437227405312 (by omega) (by decide)
  rw [show (((9218868437227405312 : Nat)) : Int) = 9218868437227405312 from rfl] at this
  have e : 18446744073709551615 - 9218868437227405312 = 2 ^ 63 ||| (2 ^ 52 - 1) := by decide
  have z : b &&& 2 ^ 63 = 0 := by
    apply Nat.eq_of_testBit_eq
    intro i
    rw [Nat.testBit_and, Nat.testBit_two_pow, Nat.zero_testBit]
    by_cases hi : 63 = i
    · subst hi; rw [Nat.testBit_lt_two_pow (show b < 2 ^ 63 from h)]; rfl
    · simp [hi]
  rw [this, e, Nat.and_or_distrib_left, Nat.and_two_pow_sub_one_eq_mod, z, Nat.zero_or]
theorem or_exp {m e : Nat} (h : m < 4503599627370496) (he : e < 4096) : bits .or .u64 (m : Int) ((e * 4503599627370496 : Nat) : Int) = ((m + e * 4503599627370496 : Nat) : Int) := by
  rw [u64_or_nat _ _ (by omega) (by omega), Nat.or_comm, show e * 4503599627370496 = e * 2 ^ 52 from rfl, ← Nat.shiftLeft_eq, ← Nat.shiftLeft_add_eq_or_of_lt (show m < 2 ^ 52 from h) e, Nat.add_comm]
theorem u64_and2047 {q : Nat} (h : q < 18446744073709551616) : bits .and .u64 (q : Int) 2047 = ((q % 2048 : Nat) : Int) := by
  have := u64_and_nat q 2047 h (by decide)
  rw [show (((2047 : Nat)) : Int) = 2047 from rfl] at this
  rw [this, show 2047 = 2 ^ 11 - 1 from rfl, Nat.and_two_pow_sub_one_eq_mod]
theorem i64_and2047 (n : Int) : bits .and .i64 n 2047 = n % 2048 := by
  have h : (BitVec.ofInt 64 2047).toNat = 2 ^ 11 - 1 := by decide
  have key : (BitVec.ofInt 64 n &&& BitVec.ofInt 64 2047).toNat = (n % ((2 ^ 64 : Nat) : Int)).toNat % 2 ^ 11 := by
    rw [BitVec.toNat_and, BitVec.toNat_ofInt, h, Nat.and_two_pow_sub_one_eq_mod]
  show IntKind.i64.wrap ((BitVec.ofInt 64 n &&& BitVec.ofInt 64 2047).toNat : Nat) = n % 2048
  rw [key, IntKind.wrap_i64]
  omega
theorem wrap_id {n : Int} (h : -9223372036854775808 ≤ n) (h' : n ≤ 9223372036854775807) : wrap64 n = n := by unfold wrap64; omega
theorem fw_parts {M E : Nat} (h : Nrm M E) : fw false M E % 4503599627370496 = M - 4503599627370496 ∧ fw false M E / 4503599627370496 = E + 1 := by
  obtain ⟨h1, h2, h3⟩ := h
  unfold fw
  simp only [Bool.false_eq_true, if_false]
  omega
theorem fx1 {M E : Nat} (h : Nrm M E) : bits .or .u64 (bits .andNot .u64 ((fw false M E : Nat) : Int) 9218868437227405312) 4602678819172646912 = ((fw false M 1021 : Nat) : Int) := by
  obtain ⟨l1, l2⟩ := fw_lt h
  obtain ⟨p1, p2⟩ := fw_parts h
  rw [andnot_exp (by omega), p1]
  have := or_exp (m := M - 4503599627370496) (e := 1022) (by have := h.hi; omega) (by omega)
  rw [show ((1022 * 4503599627370496 : Nat) : Int) = 4602678819172646912 from rfl] at this
  rw [this]
  unfold fw
  simp only [Bool.false_eq_true, if_false]
  have := h.lo
  omega
theorem fx2 {M E : Nat} (h : Nrm M E) : bits .and .u64 (((fw false M E : Nat) : Int) / 4503599627370496) 2047 = (E : Int) + 1 := by
  obtain ⟨p1, p2⟩ := fw_parts h
  have e : ((fw false M E : Nat) : Int) / 4503599627370496 = ((fw false M E / 4503599627370496 : Nat) : Int) := by omega
  have he := h.e
  rw [e, p2, u64_and2047 (by omega)]
  omega
theorem fx3 {L : Nat} (h : L ≤ 51) : wrap64 (-52 + wrap64 (wrap64 (wrap64 ((L : Int) + 1) - 1023) + 1)) = (L : Int) - 1073 := by unfold wrap64; omega
theorem pos_zero {b : Nat} (h : b < 9218868437227405312) (h0 : 0 < b) : Ieee.double.order b 0 = some .gt := pos_gt h (by decide) h0
set_option maxHeartbeats 1000000 in
theorem frexp_norm (M E : Nat) (w : World) (h : Nrm M E) :
    Calls Try.prog 30 #[.float .f64 (fw false M E)] w fun e w' => e = .returned (.tuple #[.float .f64 (fw false M 1021), .int .i64 ((E : Int) - 1021)]) ∧ w' = w := by
  obtain ⟨l1, l2⟩ := fw_lt h
  have o : FloatKind.f64.format.order (fw false M E) 0 = some .gt := pos_zero l1 (by omega)
  have hf : Hid (fin (fw false M E)) := fin_pos l1
  have hn : Hid (4503599627370496 ≤ fw false M E % 9223372036854775808) := by unfold Hid; rw [Nat.mod_eq_of_lt (by omega)]; exact l2
  obtain ⟨p1, p2⟩ := fw_parts h
  have F1 : Hid (bits .or .u64 (bits .andNot .u64 ((fw false M E : Nat) : Int) 9218868437227405312) 4602678819172646912 = ((fw false M 1021 : Nat) : Int)) := by
    unfold Hid
    rw [andnot_exp (by omega), p1]
    have := or_exp (m := M - 4503599627370496) (e := 1022) (by have := h.hi; omega) (by omega)
    rw [show ((1022 * 4503599627370496 : Nat) : Int) = 4602678819172646912 from rfl] at this
    rw [this]
    unfold fw
    simp only [Bool.false_eq_true, if_false]
    have := h.lo
    omega
  have F2 : Hid (wrap64 (wrap64 (wrap64 (wrap64 (bits .and .u64 (((fw false M E : Nat) : Int) / 4503599627370496) 2047) - 1023) + 1)) = (E : Int) - 1021) := by
    unfold Hid
    have e : ((fw false M E : Nat) : Int) / 4503599627370496 = ((fw false M E / 4503599627370496 : Nat) : Int) := by omega
    have he := h.e
    rw [e, p2, u64_and2047 (by omega)]
    unfold wrap64
    omega
  clear l1 l2 p1 p2
  generalize fw false M E = b at *
  go_enter Try.func30, Try.ntmps30
  go_wp2_with (first
    | (go_at_call 37; refine (isinf_any b _ hf.out).mono ?_; rintro e w' ⟨rfl, rfl⟩)
    | (go_at_call 21; refine (isnan_any b _ hf.out).mono ?_; rintro e w' ⟨rfl, rfl⟩)
    | (go_at_call 38; refine (normal_any b _ hf.out hn.out).mono ?_; rintro e w' ⟨rfl, rfl⟩)
    | simp only [run66] | simp only [run42])
  go_ret2
  exact ⟨by rw [F1.out, F2.out]; rfl, rfl⟩

set_option maxHeartbeats 1000000 in
theorem ldexp_norm (M E F : Nat) (n : Int) (w : World) (h : Nrm M E) (hF : (F : Int) = (E : Int) + n) (h1 : F ≤ 2045) :
    Calls Try.prog 34 #[.float .f64 (fw false M E), .int .i64 n] w fun e w' => e = .returned (.float .f64 (fw false M F)) ∧ w' = w := by
  obtain ⟨l1, l2⟩ := fw_lt h
  have o : FloatKind.f64.format.order (fw false M E) 0 = some .gt := pos_zero l1 (by omega)
  have hf : Hid (fin (fw false M E)) := fin_pos l1
  have hn : Hid (4503599627370496 ≤ fw false M E % 9223372036854775808) := by unfold Hid; rw [Nat.mod_eq_of_lt (by omega)]; exact l2
  obtain ⟨p1, p2⟩ := fw_parts h
  clear l1 l2
  generalize fw false M E = b at *
  go_enter Try.func34, Try.ntmps34
  go_upto_region 9 with (first
    | (go_at_call 37; refine (isinf_any b _ hf.out).mono ?_; rintro e w' ⟨rfl, rfl⟩)
    | (go_at_call 21; refine (isnan_any b _ hf.out).mono ?_; rintro e w' ⟨rfl, rfl⟩)
    | (go_at_call 38; refine (normal_any b _ hf.out hn.out).mono ?_; rintro e w' ⟨rfl, rfl⟩)
    | simp only [run66] | simp only [run42])
  have F3 : wrap64 (wrap64 n + wrap64 (bits .and .i64 (wrap64 ((b : Int) / 4503599627370496)) 2047 - 1023)) = (E : Int) + n - 1022 := by
    have e : (b : Int) / 4503599627370496 = ((b / 4503599627370496 : Nat) : Int) := by omega
    have he := h.e
    rw [e, p2, i64_and2047]
    unfold wrap64
    omega
  rw [F3]
  clear F3
  have x0 : -1022 ≤ (E : Int) + n - 1022 := by omega
  have x1 : (E : Int) + n - 1022 ≤ 1023 := by omega
  rw [show (E : Int) + n - 1022 = (F : Int) - 1022 from by omega] at *
  have HN : Nrm M F := ⟨h.lo, h.hi, by omega⟩
  have F4 : Hid (bits .or .u64 (bits .andNot .u64 (b : Int) 9218868437227405312) (((F : Int) - 1022 + 1023) * 4503599627370496) = ((fw false M F : Nat) : Int)) := by
    unfold Hid
    have hb := hf.out.1
    have hb2 : b < 9223372036854775808 := by have := h.e; omega
    rw [andnot_exp hb2, p1]
    have := or_exp (m := M - 4503599627370496) (e := F + 1) (by have := h.hi; omega) (by omega)
    rw [show (((F + 1) * 4503599627370496 : Nat) : Int) = ((F : Int) - 1022 + 1023) * 4503599627370496 from by omega] at this
    rw [this]
    unfold fw
    simp only [Bool.false_eq_true, if_false]
    have := h.lo
    omega
  have R : Hid (∀ w, (binOp .mul 38 (.float .f64 4607182418800017408) (.float .f64 (fw false M F))).run Try.prog w = .ok (.float .f64 (fw false M F)) w) := fun w => run_float_arith w .mul 38 .f64 _ _ _ (mul_pow2 (E1 := 1022) false HN (by omega) (by omega) HN.e)
  clear h1 hF h p1 p2
  go_upto_region 21 with fail
  rw [F4.out]
  have R' := R.out
  clear F4 R x0 x1 o
  go_wp2_with (simp only [run42])
  go_ret
  exact ⟨rfl, rfl⟩

set_option maxHeartbeats 400000 in
theorem ldexp_any (M E F : Nat) (n : Int) (w : World) (h : Nrm M E) (hF : (F : Int) = (E : Int) + n) (h1 : F ≤ 2045) :
    Calls Try.prog 24 #[.float .f64 (fw false M E), .int .i64 n] w fun e w' => e = .returned (.float .f64 (fw false M F)) ∧ w' = w := by
  go_enter Try.func24, Try.ntmps24
  go_wp2_with (go_at_call 34; refine (ldexp_norm M E F n _ h hF h1).mono ?_; rintro e w' ⟨rfl, rfl⟩)
  go_ret
  exact ⟨rfl, rfl⟩

theorem order_00 : Ieee.double.order 0 0 = some .eq := by decide
set_option maxHeartbeats 400000 in
theorem ldexp_zero (n : Int) (w : World) :
    Calls Try.prog 24 #[.float .f64 0, .int .i64 n] w fun e w' => e = .returned (.float .f64 0) ∧ w' = w := by
  have o : FloatKind.f64.format.order 0 0 = some .eq := order_00
  go_enter Try.func24, Try.ntmps24
  go_wp2_with (go_at_call 34; go_in)
  go_ret
  exact ⟨rfl, rfl⟩

set_option maxHeartbeats 400000 in
theorem frexp_zero (w : World) :
    Calls Try.prog 22 #[.float .f64 0] w fun e w' => e = .returned (.tuple #[.float .f64 0, .int .i64 0]) ∧ w' = w := by
  have o : FloatKind.f64.format.order 0 0 = some .eq := order_00
  go_enter Try.func22, Try.ntmps22
  go_wp2_with (go_at_call 30; go_in)
  go_ret2
  exact ⟨rfl, rfl⟩

set_option maxHeartbeats 400000 in
theorem frexp_any (M E : Nat) (w : World) (h : Nrm M E) :
    Calls Try.prog 22 #[.float .f64 (fw false M E)] w fun e w' => e = .returned (.tuple #[.float .f64 (fw false M 1021), .int .i64 ((E : Int) - 1021)]) ∧ w' = w := by
  go_enter Try.func22, Try.ntmps22
  go_wp2_with (go_at_call 30; refine (frexp_norm M E _ h).mono ?_; rintro e w' ⟨rfl, rfl⟩)
  go_ret2
  exact ⟨rfl, rfl⟩

set_option maxHeartbeats 1000000 in
theorem frexp_subn (r L : Nat) (w : World) (h : 2 ^ L ≤ r) (h' : r < 2 ^ (L + 1)) (hL : L ≤ 51) :
    Calls Try.prog 30 #[.float .f64 r] w fun e w' => e = .returned (.tuple #[.float .f64 (fw false (r * 2 ^ (52 - L)) 1021), .int .i64 ((L : Int) - 1073)]) ∧ w' = w := by
  have hN := (sub_mul h h' hL).2
  have hp := Nat.two_pow_pos L
  have hr : r < 4503599627370496 := by
    have : 2 ^ (L + 1) ≤ 2 ^ 52 := Nat.pow_le_pow_right (by omega) (by omega)
    omega
  have HS : Hid (∀ w, Calls Try.prog 38 #[.float .f64 r] w fun e w' => e = .returned (.tuple #[.float .f64 (fw false (r * 2 ^ (52 - L)) L), .int .i64 (-52)]) ∧ w' = w) := fun w => subn_any r L w h h' hL
  have o : FloatKind.f64.format.order r 0 = some .gt := pos_zero (by omega) (by omega)
  have hf : Hid (fin r) := fin_pos (by omega)
  generalize hM : r * 2 ^ (52 - L) = M at *
  have F1 : Hid (bits .or .u64 (bits .andNot .u64 ((fw false M L : Nat) : Int) 9218868437227405312) 4602678819172646912 = ((fw false M 1021 : Nat) : Int)) := fx1 hN
  have F2 : Hid (wrap64 (-52 + wrap64 (wrap64 (wrap64 (bits .and .u64 (((fw false M L : Nat) : Int) / 4503599627370496) 2047) - 1023) + 1)) = (L : Int) - 1073) := by
    unfold Hid
    rw [fx2 hN]
    exact fx3 hL
  clear h h' hp hM
  generalize fw false M L = b at *
  go_enter Try.func30, Try.ntmps30
  go_wp2_with (first
    | (go_at_call 37; refine (isinf_any r _ hf.out).mono ?_; rintro e w' ⟨rfl, rfl⟩)
    | (go_at_call 21; refine (isnan_any r _ hf.out).mono ?_; rintro e w' ⟨rfl, rfl⟩)
    | (go_at_call 38; refine (HS.out _).mono ?_; rintro e w' ⟨rfl, rfl⟩)
    | simp only [run66] | simp only [run42])
  go_ret2
  exact ⟨by rw [F1.out, F2.out]; rfl, rfl⟩

set_option maxHeartbeats 400000 in
theorem frexp_sub (r L : Nat) (w : World) (h : 2 ^ L ≤ r) (h' : r < 2 ^ (L + 1)) (hL : L ≤ 51) :
    Calls Try.prog 22 #[.float .f64 r] w fun e w' => e = .returned (.tuple #[.float .f64 (fw false (r * 2 ^ (52 - L)) 1021), .int .i64 ((L : Int) - 1073)]) ∧ w' = w := by
  have HS : Hid (∀ w, Calls Try.prog 30 #[.float .f64 r] w fun e w' => e = .returned (.tuple #[.float .f64 (fw false (r * 2 ^ (52 - L)) 1021), .int .i64 ((L : Int) - 1073)]) ∧ w' = w) := fun w => frexp_subn r L w h h' hL
  clear h h' hL
  go_enter Try.func22, Try.ntmps22
  go_wp2_with (go_at_call 30; refine (HS.out _).mono ?_; rintro e w' ⟨rfl, rfl⟩)
  go_ret2
  exact ⟨rfl, rfl⟩
end Go.Proofs.Ytgpkigofbncamab
