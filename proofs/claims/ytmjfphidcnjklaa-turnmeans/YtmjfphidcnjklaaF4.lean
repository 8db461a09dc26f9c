/- Contracts of the comparisons: what is alike, what is bounded, both Backs. -/
import Derived.Test.YtmjfphidcnjklaaF3
import Derived.Lib.ItoaNum
import Derived.Laws.BitsAllLaws
set_option linter.unusedSimpArgs false
namespace Go.Proofs.Ytmjfphidcnjklaa
open Go.RowKit Go.Sort Ieee

theorem run67 (b : Nat) (w : World) : (callFunc 67 #[.float .f64 b]).run Try.prog w = .ok (.value (.int .u64 (b : Int))) w := by
  rw [run_callFunc_extern Try.func67 (by kernel_rfl) (by kernel_rfl) (by kernel_rfl) (e := Extern.MathFloatBits.float64bits) (by kernel_rfl)]
  rfl
theorem run39 (n : Int) (w : World) : (callFunc 39 #[.int .u64 n]).run Try.prog w = .ok (.value (.float .f64 n.toNat)) w := by
  rw [run_callFunc_extern Try.func39 (by kernel_rfl) (by kernel_rfl) (by kernel_rfl) (e := Extern.MathFloatBits.float64frombits) (by kernel_rfl)]
  rfl
theorem andnot_sign {b : Nat} (h : b < 18446744073709551616) : bits .andNot .u64 (b : Int) 9223372036854775808 = ((b % 9223372036854775808 : Nat) : Int) := by
  have := u64_andNot_nat b 9223372036854775808 h (by decide)
  rw [show (((9223372036854775808 : Nat)) : Int) = 9223372036854775808 from rfl] at this
  rw [this, show 18446744073709551615 - 9223372036854775808 = 2 ^ 63 - 1 from rfl, Nat.and_two_pow_sub_one_eq_mod]
set_option maxHeartbeats 400000 in
theorem abs_any (b : Nat) (w : World) (h : b < 18446744073709551616) :
    Calls Try.prog 38 #[.float .f64 b] w fun e w' => e = .returned (.float .f64 (b % 9223372036854775808)) ∧ w' = w := by
  have E : Hid (bits .andNot .u64 (b : Int) 9223372036854775808 = ((b % 9223372036854775808 : Nat) : Int)) := andnot_sign h
  clear h
  go_enter Try.func38, Try.ntmps38
  go_wp2_with (first | simp only [run67] | simp only [run39])
  go_ret
  exact ⟨by rw [E.out]; rfl, rfl⟩

/-- Neither infinite nor none that is a number. -/
def bdd (x : Nat) : Bool := decide (x % 9223372036854775808 < 9218868437227405312)
theorem V.bdd {a x : Nat} (h : V a x) : bdd a = bdd x := by
  rcases h.2.2 with rfl | ⟨h1, h2⟩
  · rfl
  · unfold Proofs.Ytmjfphidcnjklaa.bdd; unfold isN at h1 h2; rw [decide_eq_false (by omega), decide_eq_false (by omega)]
theorem leq_max {x : Nat} (h : x < 9223372036854775808) : (double.order x 9218868437227405311 == some .lt || double.order x 9218868437227405311 == some .eq) = decide (x < 9218868437227405312) := by
  have nm : ¬ isN 9218868437227405311 := by decide
  rw [lt_key (by omega) (by decide), eq_key (by omega) (by decide)]
  by_cases n : isN x
  · have : ¬ x < 9218868437227405312 := by unfold isN at n; omega
    simp [n, this]
  · have hx : sgI x = (valN x : Int) := by unfold sgI; rw [if_pos h]
    have hm : sgI 9218868437227405311 = (valN 9218868437227405311 : Int) := by unfold sgI; rw [if_pos (by decide)]
    rw [key_num n, key_num nm, hx, hm]
    by_cases c : x < 9218868437227405312
    · have := valN_le (r := x) (t := 9218868437227405311) (by omega)
      rw [decide_eq_true c]
      simp only [n, nm, not_false_eq_true, true_and]
      by_cases e : (valN x : Int) < (valN 9218868437227405311 : Int)
      · simp [e]
      · have e2 : (valN x : Int) = (valN 9218868437227405311 : Int) := by omega
        simp [e2]
    · have := valN_lt (r := 9218868437227405311) (t := x) (by omega)
      rw [decide_eq_false c]
      simp only [n, nm, not_false_eq_true, true_and]
      rw [decide_eq_false (by omega), decide_eq_false (by omega)]
      rfl
set_option maxHeartbeats 400000 in
theorem bounded_any {x X : Nat} (h : V x X) (w : World) :
    Calls Try.prog 45 #[.float .f64 x] w fun e w' => e = .returned (.bool (bdd X)) ∧ w' = w := by
  rw [← h.bdd]
  have hx := h.1
  have E : (FloatKind.f64.format.order (x % 9223372036854775808) 9218868437227405311 == some .lt || FloatKind.f64.format.order (x % 9223372036854775808) 9218868437227405311 == some .eq) = bdd x := leq_max (by omega)
  generalize bdd x = B at *
  clear h
  go_enter Try.func45, Try.ntmps45
  go_wp2_with (go_at_call 38; refine (abs_any _ _ hx).mono ?_; rintro e w' ⟨rfl, rfl⟩)
  go_ret
  exact ⟨rfl, rfl⟩
theorem leq_key {a b : Nat} (ha : a < 18446744073709551616) (hb : b < 18446744073709551616) : (double.order a b == some .lt || double.order a b == some .eq) = decide (¬ isN a ∧ ¬ isN b ∧ key a ≤ key b) := by
  rw [lt_key ha hb, eq_key ha hb]
  by_cases na : isN a <;> by_cases nb : isN b <;> simp [na, nb]
  rcases Int.lt_trichotomy (key a) (key b) with h | h | h
  · simp [h, Int.le_of_lt h]
  · simp [h]
  · rw [decide_eq_false (by omega), decide_eq_false (by omega), decide_eq_false (by omega)]; rfl
theorem geq_key {a b : Nat} (ha : a < 18446744073709551616) (hb : b < 18446744073709551616) : (double.order a b == some .gt || double.order a b == some .eq) = decide (¬ isN a ∧ ¬ isN b ∧ key b ≤ key a) := by
  rw [gt_key ha hb, eq_key ha hb]
  by_cases na : isN a <;> by_cases nb : isN b <;> simp [na, nb]
  rcases Int.lt_trichotomy (key b) (key a) with h | h | h
  · simp [h, Int.le_of_lt h]
  · simp [h]
  · rw [decide_eq_false (by omega), decide_eq_false (by omega), decide_eq_false (by omega)]; rfl
theorem two_bounds {x : Nat} (h : x < 18446744073709551616) : ((double.order x 9218868437227405311 == some .lt || double.order x 9218868437227405311 == some .eq) && (double.order x 18442240474082181119 == some .gt || double.order x 18442240474082181119 == some .eq)) = bdd x := by
  have nm : ¬ isN 9218868437227405311 := by decide
  have nm2 : ¬ isN 18442240474082181119 := by decide
  have hm : sgI 9218868437227405311 = (valN 9218868437227405311 : Int) := by unfold sgI; rw [if_pos (by decide)]
  have hm2 : sgI 18442240474082181119 = -(valN 9218868437227405311 : Int) := by unfold sgI; rw [if_neg (by decide)]
  have hv := valN_lt (r := 9218868437227405311) (t := 9218868437227405312) (by decide)
  rw [leq_key h (by decide), geq_key h (by decide), key_num nm, key_num nm2, hm, hm2]
  unfold bdd
  by_cases n : isN x
  · have n' : ¬ x % 9223372036854775808 < 9218868437227405312 := by unfold isN at n; omega
    simp only [n, n', not_true_eq_false, false_and, decide_false, Bool.and_false]
  · rw [key_num n]
    rcases inf_cases h n with f | rfl | rfl
    · have := valN_le (r := x % 9223372036854775808) (t := 9218868437227405311) (by have := f.2; omega)
      rw [decide_eq_true f.2, decide_eq_true, decide_eq_true]
      · rfl
      · refine ⟨n, nm2, ?_⟩; rw [sgI_of f]; split <;> omega
      · refine ⟨n, nm, ?_⟩; rw [sgI_of f]; split <;> omega
    · rw [sgI_inf, decide_eq_false (fun k => by have := k.2.2; omega)]; rfl
    · rw [sgI_ninf]
      have c2 : ¬ (-(valN 9218868437227405311 : Int) ≤ -(valN 9218868437227405312 : Int)) := by omega
      simp only [c2, and_false, decide_false, Bool.and_false]
      rfl
set_option maxHeartbeats 400000 in
theorem finite_any {x y X Y : Nat} (hx : V x X) (hy : V y Y) (w : World) :
    Calls Try.prog 46 #[.complex .f64 x y] w fun e w' => e = .returned (.bool (bdd X && bdd Y)) ∧ w' = w := by
  have b1 := fun w => hid' (bounded_any hx w)
  have b2 := fun w => hid' (bounded_any hy w)
  clear hx hy
  generalize bdd X = B at *
  generalize bdd Y = C at *
  cases B
  all_goals
    go_enter Try.func46, Try.ntmps46
    go_wp2_with (first
      | (go_at_call_of 45 x; refine (b1 _).out.mono ?_; rintro e w' ⟨rfl, rfl⟩)
      | (go_at_call_of 45 y; refine (b2 _).out.mono ?_; rintro e w' ⟨rfl, rfl⟩))
    go_ret
    exact ⟨rfl, rfl⟩
set_option maxHeartbeats 400000 in
theorem rbounded_any {x X : Nat} (h : V x X) (w : World) :
    Calls Try.prog 50 #[.float .f64 x] w fun e w' => e = .returned (.bool (bdd X)) ∧ w' = w := by
  rw [← h.bdd]
  have hx := h.1
  have E : ((FloatKind.f64.format.order x 9218868437227405311 == some .lt || FloatKind.f64.format.order x 9218868437227405311 == some .eq) && (FloatKind.f64.format.order x 18442240474082181119 == some .gt || FloatKind.f64.format.order x 18442240474082181119 == some .eq)) = bdd x := two_bounds hx
  rw [← E]
  clear h E hx
  generalize hL : (FloatKind.f64.format.order x 9218868437227405311 == some .lt || FloatKind.f64.format.order x 9218868437227405311 == some .eq) = L
  generalize hG : (FloatKind.f64.format.order x 18442240474082181119 == some .gt || FloatKind.f64.format.order x 18442240474082181119 == some .eq) = G
  cases L
  all_goals
    go_enter Try.func50, Try.ntmps50
    go_wp2
    go_ret
    exact ⟨rfl, rfl⟩
set_option maxHeartbeats 400000 in
theorem rfinite_any {x y X Y : Nat} (hx : V x X) (hy : V y Y) (w : World) :
    Calls Try.prog 49 #[numV x y] w fun e w' => e = .returned (.bool (bdd X && bdd Y)) ∧ Gr w w' := by
  have b1 := fun w => hid' (rbounded_any hx w)
  have b2 := fun w => hid' (rbounded_any hy w)
  clear hx hy
  generalize bdd X = B at *
  generalize bdd Y = C at *
  cases B
  all_goals
    go_enter Try.func49, Try.ntmps49
    go_wp2_with (first
      | (go_at_call_of 50 x; refine (b1 _).out.mono ?_; rintro e w' ⟨rfl, rfl⟩)
      | (go_at_call_of 50 y; refine (b2 _).out.mono ?_; rintro e w' ⟨rfl, rfl⟩))
    go_ret
    exact ⟨rfl, (Gr.refl _).alloc _⟩
end Go.Proofs.Ytmjfphidcnjklaa
