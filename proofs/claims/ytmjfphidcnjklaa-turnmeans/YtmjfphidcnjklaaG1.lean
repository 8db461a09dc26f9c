/- Contracts of the program's Nearest, of number, place, way; of Place. -/
import Derived.Test.YtmjfphidcnjklaaF10
set_option linter.unusedSimpArgs false
namespace Go.Proofs.Ytmjfphidcnjklaa
open Go.RowKit Go.Sort Ieee

/-- A number made whole, to the even one between two. -/
def rteF (x : Nat) : Nat := double.write ((double.read x).integral .even)
theorem run71 {x : Nat} (hx : x < 18446744073709551616) (n : ¬ isN x) (w : World) : (callFunc 71 #[.float .f64 x]).run Try.prog w = .ok (.value (.float .f64 (rteF x))) w := by
  rw [run_callFunc_extern Try.func71 (by kernel_rfl) (by kernel_rfl) (by kernel_rfl) (e := Extern.MathFloor.toIntegral "math.RoundToEven" .even) (by kernel_rfl)]
  have e : Extern.MathFloor.toIntegral "math.RoundToEven" .even #[.float .f64 x] = pure (.float .f64 (rteF x)) := by
    have h : ∀ s t, FloatKind.f64.decode x ≠ .nan s t := fun s t h => by
      have h' : double.read x = .nan s t := h
      rcases inf_cases hx n with f | rfl | rfl
      · obtain ⟨m, k, e, _⟩ := read_fin f
        rw [e] at h'; cases h'
      · rw [show double.read 9218868437227405312 = .infinity false from read_inf false] at h'; cases h'
      · rw [show double.read 18442240474082181120 = .infinity true from read_inf true] at h'; cases h'
    unfold Extern.MathFloor.toIntegral
    show (match FloatKind.f64.decode x with
      | .nan s t => _
      | d => (pure (.float .f64 (FloatKind.f64.encode (d.integral .even))) : Sem Value)) = _
    cases hd : FloatKind.f64.decode x with
    | nan s t => exact absurd hd (h s t)
    | infinity s => simp only []; unfold rteF; rw [show double.read x = _ from hd]; rfl
    | number s m i => simp only []; unfold rteF; rw [show double.read x = _ from hd]; rfl
  rw [e]
  rfl

theorem one_is : one1 = 2 ^ 1074 := by
  obtain ⟨K, e1, e2⟩ := one_pow
  rw [e1, show K = 1074 from by omega]
/-- A number cut towards 0. -/
theorem toInt_zero {r : Nat} (h : fin r) : (double.read r).toInt .zero = some (if 9223372036854775808 ≤ r then -((valN (r % 9223372036854775808) / one1 : Nat) : Int) else ((valN (r % 9223372036854775808) / one1 : Nat) : Int)) := by
  obtain ⟨m, k, e, hv⟩ := read_fin h
  rw [e]
  have E : Toward.zero.cut (decide (9223372036854775808 ≤ r)) (m <<< ((k : Int) - 1074).toNat) (-((k : Int) - 1074)).toNat = valN (r % 9223372036854775808) / one1 := by
    obtain ⟨T, hT⟩ : ∃ T : Nat, T = 1074 := ⟨_, rfl⟩
    rw [cut_zero, one_is, ← hv, Nat.shiftLeft_eq, ← hT]
    by_cases c : T ≤ k
    · rw [show ((k : Int) - 1074).toNat = k - T from by omega, show (-((k : Int) - 1074)).toNat = 0 from by omega, Nat.pow_zero, Nat.div_one]
      rw [show 2 ^ k = 2 ^ (k - T) * 2 ^ T from by rw [← Nat.pow_add, show k - T + T = k from by omega], ← Nat.mul_assoc, Nat.mul_div_cancel _ (Nat.two_pow_pos T)]
    · rw [show ((k : Int) - 1074).toNat = 0 from by omega, show (-((k : Int) - 1074)).toNat = T - k from by omega, Nat.pow_zero, Nat.mul_one]
      rw [show 2 ^ T = 2 ^ (T - k) * 2 ^ k from by rw [← Nat.pow_add, show T - k + k = T from by omega], Nat.mul_div_mul_right _ _ (Nat.two_pow_pos k)]
  show some (signed (decide (9223372036854775808 ≤ r)) (Toward.zero.cut (decide (9223372036854775808 ≤ r)) (m <<< ((k : Int) - 1074).toNat) (-((k : Int) - 1074)).toNat) 0) = _
  rw [E]
  unfold signed
  rw [Nat.shiftLeft_zero]
  by_cases c : 9223372036854775808 ≤ r
  · rw [if_pos (by simpa using c), if_pos c]
  · rw [if_neg (by simpa using c), if_neg c]
theorem fl_lo : Fl 13965662444467519488 (-1073741823) := by
  have := Fl.ofInt (n := -1073741823) (by decide)
  rwa [show floatOfInt .f64 (-1073741823) = 13965662444467519488 from by decide] at this
theorem fl_hi : Fl 4742290407612743680 1073741823 := by
  have := Fl.ofInt (n := 1073741823) (by decide)
  rwa [show floatOfInt .f64 1073741823 = 4742290407612743680 from by decide] at this
/-- Out of the lattice's bounds. -/
def outB (r : Nat) : Bool := (double.order r 13965662444467519488 == some .lt) || (double.order r 4742290407612743680 == some .gt)
theorem inB_val {r : Nat} (hr : r < 18446744073709551616) (nr : ¬ isN r) (h : outB r = false) : ∃ n, floatToIntVal .f64 r .i32 = some n := by
  unfold outB at h
  have h1 : (double.order r 13965662444467519488 == some .lt) = false := by cases hh : (double.order r 13965662444467519488 == some .lt) with | true => rw [hh] at h; cases h | false => rfl
  rw [h1, Bool.false_or] at h
  rw [lt_key hr fl_lo.1.1] at h1
  rw [gt_key hr fl_hi.1.1] at h
  have n1 := fin_num fl_lo.1
  have n2 := fin_num fl_hi.1
  have k1 : ¬ key r < key 13965662444467519488 := fun c => by simp [nr, n1, c] at h1
  have k2 : ¬ key 4742290407612743680 < key r := fun c => by simp [nr, n2, c] at h
  rw [key_num nr, key_num n1, fl_lo.2] at k1
  rw [key_num nr, key_num n2, fl_hi.2] at k2
  have hp := one_pos
  have hm := valN_lt (r := 4742290407612743680) (t := 9218868437227405312) (by decide)
  have hh : (valN 4742290407612743680 : Int) = 1073741823 * (one1 : Int) := by have := fl_hi.2; unfold sgI at this; rwa [if_pos (by decide)] at this
  have hf : fin r := by
    rcases inf_cases hr nr with f | rfl | rfl
    · exact f
    · rw [sgI_inf] at k2; omega
    · rw [sgI_ninf] at k1; omega
  have hb : valN (r % 9223372036854775808) ≤ 1073741823 * one1 := by
    have k := And.intro k1 k2
    rw [sgI_of hf] at k
    clear k1 k2
    generalize valN (r % 9223372036854775808) = v at *
    generalize one1 = u at *
    split at k <;> omega
  have hq : valN (r % 9223372036854775808) / one1 ≤ 1073741823 := Nat.div_le_of_le_mul (by rw [Nat.mul_comm]; exact hb)
  unfold floatToIntVal
  have e : (FloatKind.f64.decode r).toInt .zero = _ := toInt_zero hf
  rw [e]
  generalize valN (r % 9223372036854775808) / one1 = q at *
  simp only []
  have m1 : IntKind.i32.min = -2147483648 := by decide
  have m2 : IntKind.i32.max = 2147483647 := by decide
  rw [m1, m2]
  refine ⟨_, if_pos ?_⟩
  split <;> omega
/-- What Nearest tells. -/
def nrF (x : Nat) : Int × Int := if isN x then (0, 20) else if outB (rteF x) = true then (0, 21) else ((floatToIntVal .f64 (rteF x) .i32).getD 0, 0)
theorem rteF_ok {x : Nat} (hx : x < 18446744073709551616) (n : ¬ isN x) : rteF x < 18446744073709551616 ∧ ¬ isN (rteF x) := by
  have W : ∀ (s : Bool) (r : Nat), r ≤ 9218868437227405312 → double.word s r < 18446744073709551616 ∧ ¬ isN (double.word s r) := fun s r hr => by
    unfold Format.word isN
    rw [dbl_sw]
    cases s <;> simp <;> omega
  unfold rteF
  rcases inf_cases hx n with f | rfl | rfl
  · obtain ⟨m, k, e, _⟩ := read_fin f
    rw [e]
    show double.nearest _ _ _ < _ ∧ ¬ isN (double.nearest _ _ _)
    unfold Format.nearest
    split
    · exact W _ _ (by decide)
    · simp only []
      refine W _ _ ?_
      rw [dbl_inf]
      exact Nat.min_le_right _ _
  · rw [show double.read 9218868437227405312 = .infinity false from read_inf false]
    exact W _ _ (by rw [dbl_inf]; decide)
  · rw [show double.read 18442240474082181120 = .infinity true from read_inf true]
    exact W _ _ (by rw [dbl_inf]; decide)
set_option maxRecDepth 20000 in
set_option maxHeartbeats 800000 in
theorem nearest_any {x X : Nat} (h : V x X) (w : World) :
    Calls Try.prog 61 #[.float .f64 x] w fun e w' => e = .returned (.tuple #[.int .i32 (nrF X).1, .int .i64 (nrF X).2]) ∧ w' = w := by
  unfold nrF
  by_cases n : isN X
  · rw [if_pos n]
    have hn := h.nan.2 n
    have H := fun w => hid' (isnan_yes x w hn)
    clear h n hn
    go_enter Try.func61, Try.ntmps61
    go_wp2_with (go_at_call 70; refine (H _).out.mono ?_; rintro e w' ⟨rfl, rfl⟩)
    go_ret2
    exact ⟨rfl, rfl⟩
  · rw [if_neg n]
    obtain rfl := h.eq n
    have H := fun w => hid' (isnan_no x w h.1 n)
    have R := fun w => run71 h.1 n w
    obtain ⟨r1, r2⟩ := rteF_ok h.1 n
    have I := inB_val r1 r2
    generalize rteF x = r at *
    cases o : outB r with
    | true =>
      have C : (FloatKind.f64.format.order r 13965662444467519488 == some .lt) = true ∨ ((FloatKind.f64.format.order r 13965662444467519488 == some .lt) = false ∧ (FloatKind.f64.format.order r 4742290407612743680 == some .gt) = true) := by
        have o' : ((FloatKind.f64.format.order r 13965662444467519488 == some .lt) || (FloatKind.f64.format.order r 4742290407612743680 == some .gt)) = true := o
        cases hh : (FloatKind.f64.format.order r 13965662444467519488 == some .lt) with
        | true => exact .inl rfl
        | false => rw [hh, Bool.false_or] at o'; exact .inr ⟨rfl, o'⟩
      rw [if_pos rfl]
      clear h n o I r1 r2
      rcases C with c | ⟨c, c2⟩
      all_goals
        go_enter Try.func61, Try.ntmps61
        go_wp2_with (first
          | simp only [R]
          | (go_at_call 70; refine (H _).out.mono ?_; rintro e w' ⟨rfl, rfl⟩))
        go_ret2
        exact ⟨rfl, rfl⟩
    | false =>
      obtain ⟨m, hm⟩ := I o
      have o' : ((FloatKind.f64.format.order r 13965662444467519488 == some .lt) || (FloatKind.f64.format.order r 4742290407612743680 == some .gt)) = false := o
      have c1 : (FloatKind.f64.format.order r 13965662444467519488 == some .lt) = false := by cases hh : (FloatKind.f64.format.order r 13965662444467519488 == some .lt) with | true => rw [hh] at o'; cases o' | false => rfl
      have c2 : (FloatKind.f64.format.order r 4742290407612743680 == some .gt) = false := by rw [c1, Bool.false_or] at o'; exact o'
      have cv : ∀ w, (convert 31 21 (.float .f64 r)).run Try.prog w = .ok (.int .i32 m) w := fun w => run_convert_float_int w 31 21 .f64 .i32 r m (by kernel_rfl) (by kernel_rfl) hm
      rw [if_neg (by decide), hm]
      clear h n o I r1 r2 o' hm
      go_enter Try.func61, Try.ntmps61
      go_wp2_with (first
        | simp only [R]
        | (go_at_call 70; refine (H _).out.mono ?_; rintro e w' ⟨rfl, rfl⟩))
      go_ret2
      exact ⟨rfl, rfl⟩
end Go.Proofs.Ytmjfphidcnjklaa
