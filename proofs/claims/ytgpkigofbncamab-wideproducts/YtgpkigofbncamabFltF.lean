/- Contracts of the program's conversion of a real number into a whole one. -/
import Derived.Test.YtgpkigofbncamabFltW
namespace Go.Proofs.Ytgpkigofbncamab
open Go.RowKit Go.Sort

set_option maxHeartbeats 400000 in
theorem shifted_neg (v k : Nat) (w : World) (hv : v < 9007199254740992) (hk : 0 < k) (hk' : k < 2000) :
    Calls Try.prog 25 #[.int .u64 (v : Int), .int .i64 (-(k : Int))] w fun e w' => e = .returned (.agg #[.int .u64 ((v / 2 ^ k / 18446744073709551616 : Nat) : Int), .int .u64 ((v / 2 ^ k % 18446744073709551616 : Nat) : Int)]) ∧ Gr w w' := by
  have hd : v / 2 ^ k ≤ v := Nat.div_le_self _ _
  have E : ((v / 2 ^ k : Nat) : Int) = (v : Int) / 2 ^ (min k 64) := by
    rw [cast_div]
    by_cases c : k ≤ 64
    · rw [Nat.min_eq_left c]
    · rw [Nat.min_eq_right (by omega)]
      have h1 : 2 ^ 64 ≤ 2 ^ k := Nat.pow_le_pow_right (by omega) (by omega)
      rw [Nat.div_eq_of_lt (by omega), Nat.div_eq_of_lt (by omega)]
  generalize v / 2 ^ k = q at *
  have e1 : q / 18446744073709551616 = 0 := by omega
  have e2 : q % 18446744073709551616 = q := by omega
  rw [e1, e2, E]
  clear e1 e2 hd E
  have x1 : -(k : Int) < 0 := by omega
  go_enter Try.func25, Try.ntmps25
  go_wp2
  refine bodyPost_ret (v := .agg #[.int .u64 0, .int .u64 ((v : Int) / 2 ^ (min k 64))]) (by simp [results, Try.results25, go_sem]) rfl ⟨rfl, ?_⟩
  exact (Gr.refl _).alloc _

theorem mul_words2 {v k : Nat} (hk : k ≤ 64) : v * 2 ^ k / 18446744073709551616 = v / 2 ^ (64 - k) := by
  have e : 2 ^ (64 - k) * 2 ^ k = 18446744073709551616 := by rw [← Nat.pow_add, show 64 - k + k = 64 from by omega]
  rw [← e]
  exact Nat.mul_div_mul_right _ _ (Nat.two_pow_pos k)
set_option maxHeartbeats 400000 in
theorem shifted_mid (v k : Nat) (w : World) (hk : k < 64) :
    Calls Try.prog 25 #[.int .u64 (v : Int), .int .i64 (k : Int)] w fun e w' => e = .returned (.agg #[.int .u64 ((v * 2 ^ k / 18446744073709551616 : Nat) : Int), .int .u64 ((v * 2 ^ k % 18446744073709551616 : Nat) : Int)]) ∧ Gr w w' := by
  have e1 : ((v * 2 ^ k / 18446744073709551616 : Nat) : Int) = (v : Int) / 2 ^ (64 - k) := by rw [mul_words2 (by omega), cast_div]
  have e2 : ((v * 2 ^ k % 18446744073709551616 : Nat) : Int) = IntKind.u64.wrap ((v : Int) * 2 ^ k) := by rw [cast_pow, IntKind.wrap_u64]; omega
  rw [e1, e2]
  clear e1 e2
  go_enter Try.func25, Try.ntmps25
  go_wp2
  go_region
  all_goals
    go_wp2
    refine bodyPost_ret (v := .agg #[.int .u64 ((v : Int) / 2 ^ (64 - k)), .int .u64 (IntKind.u64.wrap ((v : Int) * 2 ^ k))]) (by simp [results, Try.results25, go_sem]) rfl ⟨rfl, ?_⟩
    exact ((Gr.refl _).alloc _).drew

set_option maxHeartbeats 400000 in
theorem shifted_hi (v k : Nat) (w : World) (hv : v < 9007199254740992) (hk : k ≤ 11) :
    Calls Try.prog 25 #[.int .u64 (v : Int), .int .i64 (64 + (k : Int))] w fun e w' => e = .returned (.agg #[.int .u64 ((v * 2 ^ (64 + k) / 18446744073709551616 : Nat) : Int), .int .u64 ((v * 2 ^ (64 + k) % 18446744073709551616 : Nat) : Int)]) ∧ Gr w w' := by
  have e0 : v * 2 ^ (64 + k) = v * 2 ^ k * 18446744073709551616 := by rw [Nat.pow_add, Nat.mul_comm (2 ^ 64), ← Nat.mul_assoc]
  have hp : 2 ^ k ≤ 2 ^ 11 := Nat.pow_le_pow_right (by omega) hk
  have hm : v * 2 ^ k ≤ v * 2 ^ 11 := Nat.mul_le_mul_left _ hp
  have e1 : ((v * 2 ^ (64 + k) / 18446744073709551616 : Nat) : Int) = IntKind.u64.wrap ((v : Int) * 2 ^ k) := by
    rw [e0, Nat.mul_div_cancel _ (by decide), cast_pow, IntKind.wrap_u64]; omega
  have e2 : v * 2 ^ (64 + k) % 18446744073709551616 = 0 := by rw [e0]; exact Nat.mul_mod_left _ _
  rw [e1, e2]
  clear e0 e1 e2 hp hm
  go_enter Try.func25, Try.ntmps25
  go_wp2
  refine bodyPost_ret (v := .agg #[.int .u64 (IntKind.u64.wrap ((v : Int) * 2 ^ k)), .int .u64 0]) (by simp [results, Try.results25, go_sem]) rfl ⟨rfl, ?_⟩
  exact (Gr.refl _).alloc _

/-- A size times a power of 2, without its fraction. -/
def scl (v : Nat) (p : Int) : Nat := if p < 0 then v / 2 ^ (-p).toNat else v * 2 ^ p.toNat
theorem shifted_any (v : Nat) (p : Int) (w : World) (hv : v < 9007199254740992) (h0 : -1999 ≤ p) (h1 : p ≤ 75) :
    Calls Try.prog 25 #[.int .u64 (v : Int), .int .i64 p] w fun e w' => e = .returned (.agg #[.int .u64 ((scl v p / 18446744073709551616 : Nat) : Int), .int .u64 ((scl v p % 18446744073709551616 : Nat) : Int)]) ∧ Gr w w' := by
  unfold scl
  by_cases c : p < 0
  · rw [if_pos c]
    have := shifted_neg v (-p).toNat w hv (by omega) (by omega)
    rw [show -(((-p).toNat : Nat) : Int) = p from by omega] at this
    exact this
  · rw [if_neg c]
    by_cases c2 : p < 64
    · have := shifted_mid v p.toNat w (by omega)
      rw [show ((p.toNat : Nat) : Int) = p from by omega] at this
      exact this
    · have := shifted_hi v (p - 64).toNat w hv (by omega)
      rw [show 64 + (((p - 64).toNat : Nat) : Int) = p from by omega, show 64 + (p - 64).toNat = p.toNat from by omega] at this
      exact this
/-- The whole number below a real one, by its word without a sign. -/
def flo (r : Nat) : Nat := if r < 4503599627370496 then 0 else scl (4503599627370496 + r % 4503599627370496) ((r / 4503599627370496 : Nat) - 1075)
theorem scl_sub {M : Nat} {p : Int} (h : M < 9007199254740992) (hp : p ≤ -53) : scl M p = 0 := by
  unfold scl
  rw [if_pos (by omega)]
  have : 2 ^ 53 ≤ 2 ^ (-p).toNat := Nat.pow_le_pow_right (by omega) (by omega)
  exact Nat.div_eq_of_lt (by omega)
theorem frexp_all (r : Nat) (h0 : 0 < r) (h1 : r < 9218868437227405312) :
    ∃ (M : Nat) (p : Int), Nrm M 1021 ∧ scl M p = flo r ∧ -1126 ≤ p ∧ (r ≤ 5179139571476070400 → p ≤ 75) ∧ p ≤ 1000 ∧ ∀ w, Calls Try.prog 22 #[.float .f64 r] w fun e w' => e = .returned (.tuple #[.float .f64 (fw false M 1021), .int .i64 (p + 53)]) ∧ w' = w := by
  by_cases c : r < 4503599627370496
  · have l1 : 2 ^ r.log2 ≤ r := Nat.log2_self_le (by omega)
    have l2 : r < 2 ^ (r.log2 + 1) := Nat.lt_log2_self
    have l3 : r.log2 ≤ 51 := by
      have := (Nat.log2_lt (n := r) (k := 52) (by omega)).2 c
      omega
    have hN := (sub_mul l1 l2 l3).2
    have hF := fun w => frexp_sub r r.log2 w l1 l2 l3
    generalize r.log2 = L at *
    refine ⟨r * 2 ^ (52 - L), (L : Int) - 1126, ⟨hN.lo, hN.hi, by omega⟩, ?_, by omega, fun _ => by omega, by omega, fun w => ?_⟩
    · unfold flo
      rw [if_pos c]
      exact scl_sub hN.hi (by omega)
    · have := hF w
      rw [show (L : Int) - 1126 + 53 = (L : Int) - 1073 from by omega]
      exact this
  · have hN : Nrm (4503599627370496 + r % 4503599627370496) (r / 4503599627370496 - 1) := ⟨by omega, by omega, by omega⟩
    have hr : fw false (4503599627370496 + r % 4503599627370496) (r / 4503599627370496 - 1) = r := by
      unfold fw; simp only [Bool.false_eq_true, if_false]; omega
    refine ⟨4503599627370496 + r % 4503599627370496, ((r / 4503599627370496 : Nat) : Int) - 1075, ⟨hN.lo, hN.hi, by omega⟩, ?_, by omega, fun _ => by omega, by omega, fun w => ?_⟩
    · unfold flo; rw [if_neg c]
    · have := frexp_any _ _ w hN
      rw [hr, show ((r / 4503599627370496 - 1 : Nat) : Int) - 1021 = ((r / 4503599627370496 : Nat) : Int) - 1075 + 53 from by omega] at this
      exact this
theorem to_u64 {M : Nat} (h : Nrm M 1021) (w : World) : (convert 38 22 (.float .f64 (fw false M 1074))).run Try.prog w = .ok (.int .u64 (M : Int)) w := by
  have hN : Nrm M 1074 := ⟨h.lo, h.hi, by omega⟩
  refine run_convert_float_int w 38 22 .f64 .u64 _ _ (by kernel_rfl) (by kernel_rfl) ?_
  have e : FloatKind.f64.decode (fw false M 1074) = .number false M 0 := read_fw false hN
  unfold floatToIntVal
  rw [e]
  have e2 : (Ieee.Datum.number false M 0).toInt .zero = some (M : Int) := by
    show some (Ieee.signed false (Ieee.Toward.zero.cut false (M <<< (0 : Int).toNat) (-0 : Int).toNat) 0) = _
    rw [cut_zero]
    show some (Ieee.signed false (M <<< 0 / 2 ^ 0) 0) = _
    rw [Nat.shiftLeft_zero, Nat.pow_zero, Nat.div_one]
    unfold Ieee.signed
    simp
  rw [e2]
  have := h.hi
  exact if_pos ⟨by show (0 : Int) ≤ M; omega, by show (M : Int) ≤ 18446744073709551615; omega⟩
theorem to_u64_0 (w : World) : (convert 38 22 (.float .f64 0)).run Try.prog w = .ok (.int .u64 0) w :=
  run_convert_float_int w 38 22 .f64 .u64 _ _ (by kernel_rfl) (by kernel_rfl) (by decide)

/-! ### Where a real number is too great -/
theorem read_inf (s : Bool) : Ieee.double.read ((if s then 9223372036854775808 else 0) + 9218868437227405312) = .infinity s := by cases s <;> decide
theorem read_nan {b : Nat} (h : 9218868437227405312 < b % 9223372036854775808) : ∃ s t, Ieee.double.read b = .nan s t := by
  unfold Ieee.Format.read
  rw [dbl_sw, dbl_bin, dbl_inf, dbl_least]
  refine ⟨b / 9223372036854775808 % 2 == 1, b % 9223372036854775808 - 9218868437227405312, ?_⟩
  simp only []
  rw [if_neg (by omega), if_neg (by omega), if_neg (by omega)]
theorem order_nan {b c : Nat} (h : 9218868437227405312 < b % 9223372036854775808) : Ieee.double.order b c = none := by
  obtain ⟨s, t, e⟩ := read_nan h
  unfold Ieee.Format.order
  rw [e]
  rfl
theorem order_inf_pos {c : Nat} (hc : fin c) : Ieee.double.order 9218868437227405312 c = some .gt := by
  obtain ⟨m, k, e, _⟩ := read_fin hc
  unfold Ieee.Format.order
  rw [show Ieee.double.read 9218868437227405312 = .infinity false from read_inf false, e]
  rfl
theorem order_inf_neg {c : Nat} (hc : fin c) : Ieee.double.order 18442240474082181120 c = some .lt := by
  obtain ⟨m, k, e, _⟩ := read_fin hc
  unfold Ieee.Format.order
  rw [show Ieee.double.read 18442240474082181120 = .infinity true from read_inf true, e]
  rfl
theorem sgI_neg {b : Nat} (h : 9223372036854775808 ≤ b) : sgI b = -(valN (b - 9223372036854775808) : Int) := by unfold sgI; rw [if_neg (by omega)]
theorem valN_pos {r : Nat} (h : 0 < r) : 0 < valN r := by have := valN_lt h; rw [valN_zero] at this; exact this
theorem fin_127 : fin 5179139571476070400 := by unfold fin; omega
theorem fin_n127 : fin 14402511608330846208 := by unfold fin; omega
theorem fin_0 : fin 0 := by unfold fin; omega
theorem ge127_yes {b : Nat} (h : 5179139571476070400 ≤ b) (h' : b ≤ 9218868437227405312) : (Ieee.double.order b 5179139571476070400 == some .gt || Ieee.double.order b 5179139571476070400 == some .eq) = true := by
  by_cases c : b = 9218868437227405312
  · subst c; rw [order_inf_pos fin_127]; rfl
  · rcases Nat.lt_or_eq_of_le h with h1 | h1
    · rw [pos_gt (by omega) (by omega) h1]; rfl
    · subst h1; rw [order_self fin_127]; rfl
theorem ge127_no {b : Nat} (h : b < 5179139571476070400) : Ieee.double.order b 5179139571476070400 = some .lt := pos_lt (by omega) (by omega) h
theorem ge127_neg {b : Nat} (h : 9223372036854775808 ≤ b) (h' : b ≤ 18442240474082181120) : Ieee.double.order b 5179139571476070400 = some .lt := by
  by_cases c : b = 18442240474082181120
  · subst c; exact order_inf_neg fin_127
  · refine order_lt ⟨by omega, by omega⟩ fin_127 ?_
    rw [sgI_neg h, sgI_pos (by omega)]
    have := valN_pos (r := 5179139571476070400) (by omega)
    omega
theorem lt127_pos {b : Nat} (h : b < 9218868437227405312) : Ieee.double.order b 14402511608330846208 = some .gt := by
  refine order_gt ⟨by omega, by omega⟩ fin_n127 ?_
  rw [sgI_neg (b := 14402511608330846208) (by omega), sgI_pos (by omega)]
  have := valN_pos (r := 14402511608330846208 - 9223372036854775808) (by omega)
  omega
theorem lt127_yes {b : Nat} (h : 14402511608330846208 < b) (h' : b ≤ 18442240474082181120) : Ieee.double.order b 14402511608330846208 = some .lt := by
  by_cases c : b = 18442240474082181120
  · subst c; exact order_inf_neg fin_n127
  · refine order_lt ⟨by omega, by omega⟩ fin_n127 ?_
    rw [sgI_neg (by omega), sgI_neg (by omega)]
    have := valN_lt (r := 14402511608330846208 - 9223372036854775808) (t := b - 9223372036854775808) (by omega)
    omega
theorem lt127_no {b : Nat} (h : 9223372036854775808 ≤ b) (h' : b ≤ 14402511608330846208) : (Ieee.double.order b 14402511608330846208 == some .lt) = false := by
  rcases Nat.lt_or_eq_of_le h' with h1 | h1
  · rw [order_gt ⟨by omega, by omega⟩ fin_n127]
    · rfl
    · rw [sgI_neg (by omega), sgI_neg h]
      have := valN_lt (r := b - 9223372036854775808) (t := 14402511608330846208 - 9223372036854775808) (by omega)
      omega
  · subst h1; rw [order_self fin_n127]; rfl
theorem below_0 {b : Nat} (h : fin b) : (Ieee.double.order b 0 == some .lt) = decide (9223372036854775808 < b) := by
  by_cases c : 9223372036854775808 < b
  · rw [decide_eq_true c, order_lt h fin_0]
    · rfl
    · rw [sgI_neg (by omega), sgI_pos (by omega), valN_zero]
      have := valN_pos (r := b - 9223372036854775808) (by omega)
      omega
  · rw [decide_eq_false c]
    by_cases c0 : b = 9223372036854775808
    · subst c0; decide
    · by_cases c1 : b = 0
      · subst c1; decide
      · rw [order_gt h fin_0]
        · rfl
        · rw [sgI_pos (by omega), sgI_pos (by omega), valN_zero]
          have := valN_pos (r := b) (by omega)
          omega
/-- Whether a word is none, or too great either way. -/
def isN (b : Nat) : Prop := 9218868437227405312 < b % 9223372036854775808
def wideB (b : Nat) : Prop := (5179139571476070400 ≤ b ∧ b < 9223372036854775808) ∨ 14402511608330846208 < b
/-- A real number without its fraction. -/
def trI (b : Nat) : Int := if 9223372036854775808 < b then -((flo (b % 9223372036854775808) : Nat) : Int) else ((flo (b % 9223372036854775808) : Nat) : Int)
end Go.Proofs.Ytgpkigofbncamab
