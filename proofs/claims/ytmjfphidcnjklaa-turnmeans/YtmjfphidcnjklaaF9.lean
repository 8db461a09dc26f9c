/- Contracts of both Sectors. -/
import Derived.Test.YtmjfphidcnjklaaF8
set_option linter.unusedSimpArgs false
namespace Go.Proofs.Ytmjfphidcnjklaa
open Go.RowKit Go.Sort Ieee

/-- The sector of two numbers. -/
def secI (a b : Int) : Int :=
  if 0 < a ∧ 0 ≤ b then (if b < a then 0 else 1) else if 0 < b ∧ a ≤ 0 then (if -a < b then 2 else 3) else if a < 0 ∧ b ≤ 0 then (if -b < -a then 4 else 5) else if b < 0 ∧ 0 ≤ a then (if a < -b then 6 else 7) else -1
def secF (x y : Nat) : Int := if isN x ∨ isN y then -1 else secI (sgI x) (sgI y)

theorem sgI_zero : sgI 0 = 0 := by decide
/-- The three orders of two numbers. -/
theorem ord3 {a b : Nat} (ha : a < 18446744073709551616) (hb : b < 18446744073709551616) (na : ¬ isN a) (nb : ¬ isN b) :
    FloatKind.f64.format.order a b = some (compare (sgI a) (sgI b)) := order_num ha hb na nb
theorem ord0 {a : Nat} (ha : a < 18446744073709551616) (na : ¬ isN a) :
    (FloatKind.f64.format.order a 0 = some .lt ∧ sgI a < 0) ∨ (FloatKind.f64.format.order a 0 = some .eq ∧ sgI a = 0) ∨ (FloatKind.f64.format.order a 0 = some .gt ∧ 0 < sgI a) := by
  have h := ord3 ha (b := 0) (by decide) na (by decide)
  rw [sgI_zero] at h
  rcases Int.lt_trichotomy (sgI a) 0 with c | c | c
  · rw [cmp_lt c] at h; exact .inl ⟨h, c⟩
  · rw [cmp_eq c] at h; exact .inr (.inl ⟨h, c⟩)
  · rw [cmp_gt c] at h; exact .inr (.inr ⟨h, c⟩)
/-- A word with its sign turned. -/
def ngF (x : Nat) : Nat := Op.negFloat .f64 x
theorem ngF_eq {x : Nat} (h : x < 18446744073709551616) : ngF x = if x < 9223372036854775808 then x + 9223372036854775808 else x - 9223372036854775808 := by
  show x ^^^ 2 ^ 63 = _
  have h1 : (x ^^^ 2 ^ 63) % 2 ^ 63 = x % 2 ^ 63 := by rw [Nat.xor_mod_two_pow, Nat.mod_self, Nat.xor_zero]
  have h2 : (x ^^^ 2 ^ 63) / 2 ^ 63 = x / 2 ^ 63 ^^^ 1 := by rw [Nat.xor_div_two_pow, Nat.div_self (Nat.two_pow_pos 63)]
  generalize x ^^^ 2 ^ 63 = y at *
  by_cases c : x < 9223372036854775808
  · rw [if_pos c]
    rw [show x / 2 ^ 63 = 0 from by omega] at h2
    rw [show 0 ^^^ 1 = 1 from rfl] at h2
    omega
  · rw [if_neg c]
    rw [show x / 2 ^ 63 = 1 from by omega] at h2
    rw [show 1 ^^^ 1 = 0 from rfl] at h2
    omega
theorem ngF_lt {x : Nat} (h : x < 18446744073709551616) : ngF x < 18446744073709551616 := by rw [ngF_eq h]; split <;> omega
theorem ngF_nan {x : Nat} (h : x < 18446744073709551616) : isN (ngF x) ↔ isN x := by rw [ngF_eq h]; unfold isN; split <;> omega
theorem ngF_sg {x : Nat} (h : x < 18446744073709551616) : sgI (ngF x) = -sgI x := by
  rw [ngF_eq h]
  unfold sgI
  split
  · rw [if_neg (by omega), show x + 9223372036854775808 - 9223372036854775808 = x from by omega]
  · rw [if_pos (by omega)]; omega
theorem half_any (a b : Nat) (w : World) : Calls Try.prog 54 #[.float .f64 a, .float .f64 b] w fun e w' => e = .returned (.int .i8 (if (FloatKind.f64.format.order b a == some .lt) = true then 0 else 1)) ∧ w' = w := by
  cases h : (FloatKind.f64.format.order b a == some .lt)
  all_goals
    go_enter Try.func54, Try.ntmps54
    go_wp2
    go_ret
    exact ⟨rfl, rfl⟩
theorem half_num {a b : Nat} (ha : a < 18446744073709551616) (hb : b < 18446744073709551616) (na : ¬ isN a) (nb : ¬ isN b) (w : World) :
    Calls Try.prog 54 #[.float .f64 a, .float .f64 b] w fun e w' => e = .returned (.int .i8 (if sgI b < sgI a then 0 else 1)) ∧ w' = w := by
  have := half_any a b w
  rw [ord3 hb ha nb na] at this
  rcases Int.lt_trichotomy (sgI b) (sgI a) with c | c | c
  · rw [cmp_lt c] at this; rw [if_pos c]; exact this
  · rw [cmp_eq c] at this; rw [if_neg (by omega)]; exact this
  · rw [cmp_gt c] at this; rw [if_neg (by omega)]; exact this
theorem un_neg (x : Nat) (w : World) : (Op.unary .neg (.float .f64 x)).run Try.prog w = .ok (.float .f64 (ngF x)) w := rfl
set_option maxRecDepth 20000 in
set_option maxHeartbeats 1600000 in
theorem sector_nan {x y : Nat} (hn : isN x ∨ isN y) (w : World) :
    Calls Try.prog 24 #[.complex .f64 x y] w fun e w' => e = .returned (.int .i8 (-1)) ∧ w' = w := by
  have C : (FloatKind.f64.format.order x 0 = none ∧ ∃ o, FloatKind.f64.format.order y 0 = o) ∨ (FloatKind.f64.format.order y 0 = none ∧ ∃ o, FloatKind.f64.format.order x 0 = o) := by
    rcases hn with n | n
    · exact .inl ⟨order_nan_l 0 n, _, rfl⟩
    · exact .inr ⟨order_nan_l 0 n, _, rfl⟩
  clear hn
  rcases C with ⟨h1, o, h2⟩ | ⟨h1, o, h2⟩ <;> rcases o with _ | _ | _ | _
  all_goals
    go_enter Try.func24, Try.ntmps24
    go_wp2
    go_ret
    exact ⟨rfl, rfl⟩
set_option maxRecDepth 20000 in
set_option maxHeartbeats 1600000 in
theorem sector_num {x y : Nat} (hx : x < 18446744073709551616) (hy : y < 18446744073709551616) (nx : ¬ isN x) (ny : ¬ isN y) (w : World) :
    Calls Try.prog 24 #[.complex .f64 x y] w fun e w' => e = .returned (.int .i8 (secI (sgI x) (sgI y))) ∧ w' = w := by
  have H : Hid (∀ a b w, a < 18446744073709551616 → b < 18446744073709551616 → ¬ isN a → ¬ isN b → Calls Try.prog 54 #[.float .f64 a, .float .f64 b] w fun e w' => e = .returned (.int .i8 (if sgI b < sgI a then 0 else 1)) ∧ w' = w) := fun a b w ha hb na nb => half_num ha hb na nb w
  have hx' := ngF_lt hx
  have hy' := ngF_lt hy
  have nx' : ¬ isN (ngF x) := fun h => nx ((ngF_nan hx).1 h)
  have ny' : ¬ isN (ngF y) := fun h => ny ((ngF_nan hy).1 h)
  have sx := ngF_sg hx
  have sy := ngF_sg hy
  have Ux := un_neg x
  have Uy := un_neg y
  generalize ngF x = x' at *
  generalize ngF y = y' at *
  rcases ord0 hx nx with ⟨ox, cx⟩ | ⟨ox, cx⟩ | ⟨ox, cx⟩ <;> rcases ord0 hy ny with ⟨oy, cy⟩ | ⟨oy, cy⟩ | ⟨oy, cy⟩
  · by_cases c : sgI y' < sgI x'
    · have e : secI (sgI x) (sgI y) = 4 := by
        unfold secI
        repeat' split
        all_goals omega
      rw [e]
      clear cx cy sx sy e
      go_enter Try.func24, Try.ntmps24
      go_wp2_with (go_at_call 54; refine (H.out _ _ _ (by assumption) (by assumption) (by assumption) (by assumption)).mono ?_; rintro e w' ⟨rfl, rfl⟩)
      go_ret
      exact ⟨rfl, rfl⟩
    · have e : secI (sgI x) (sgI y) = 5 := by
        unfold secI
        repeat' split
        all_goals omega
      rw [e]
      clear cx cy sx sy e
      go_enter Try.func24, Try.ntmps24
      go_wp2_with (go_at_call 54; refine (H.out _ _ _ (by assumption) (by assumption) (by assumption) (by assumption)).mono ?_; rintro e w' ⟨rfl, rfl⟩)
      go_ret
      exact ⟨rfl, rfl⟩
  · by_cases c : sgI y' < sgI x'
    · have e : secI (sgI x) (sgI y) = 4 := by
        unfold secI
        repeat' split
        all_goals omega
      rw [e]
      clear cx cy sx sy e
      go_enter Try.func24, Try.ntmps24
      go_wp2_with (go_at_call 54; refine (H.out _ _ _ (by assumption) (by assumption) (by assumption) (by assumption)).mono ?_; rintro e w' ⟨rfl, rfl⟩)
      go_ret
      exact ⟨rfl, rfl⟩
    · have e : secI (sgI x) (sgI y) = 5 := by
        unfold secI
        repeat' split
        all_goals omega
      rw [e]
      clear cx cy sx sy e
      go_enter Try.func24, Try.ntmps24
      go_wp2_with (go_at_call 54; refine (H.out _ _ _ (by assumption) (by assumption) (by assumption) (by assumption)).mono ?_; rintro e w' ⟨rfl, rfl⟩)
      go_ret
      exact ⟨rfl, rfl⟩
  · by_cases c : sgI x' < sgI y
    · have e : secI (sgI x) (sgI y) = 2 := by
        unfold secI
        repeat' split
        all_goals omega
      rw [e]
      clear cx cy sx sy e
      go_enter Try.func24, Try.ntmps24
      go_wp2_with (go_at_call 54; refine (H.out _ _ _ (by assumption) (by assumption) (by assumption) (by assumption)).mono ?_; rintro e w' ⟨rfl, rfl⟩)
      go_ret
      exact ⟨rfl, rfl⟩
    · have e : secI (sgI x) (sgI y) = 3 := by
        unfold secI
        repeat' split
        all_goals omega
      rw [e]
      clear cx cy sx sy e
      go_enter Try.func24, Try.ntmps24
      go_wp2_with (go_at_call 54; refine (H.out _ _ _ (by assumption) (by assumption) (by assumption) (by assumption)).mono ?_; rintro e w' ⟨rfl, rfl⟩)
      go_ret
      exact ⟨rfl, rfl⟩
  · by_cases c : sgI x < sgI y'
    · have e : secI (sgI x) (sgI y) = 6 := by
        unfold secI
        repeat' split
        all_goals omega
      rw [e]
      clear cx cy sx sy e
      go_enter Try.func24, Try.ntmps24
      go_wp2_with (go_at_call 54; refine (H.out _ _ _ (by assumption) (by assumption) (by assumption) (by assumption)).mono ?_; rintro e w' ⟨rfl, rfl⟩)
      go_ret
      exact ⟨rfl, rfl⟩
    · have e : secI (sgI x) (sgI y) = 7 := by
        unfold secI
        repeat' split
        all_goals omega
      rw [e]
      clear cx cy sx sy e
      go_enter Try.func24, Try.ntmps24
      go_wp2_with (go_at_call 54; refine (H.out _ _ _ (by assumption) (by assumption) (by assumption) (by assumption)).mono ?_; rintro e w' ⟨rfl, rfl⟩)
      go_ret
      exact ⟨rfl, rfl⟩
  · have e : secI (sgI x) (sgI y) = -1 := by
      unfold secI
      repeat' split
      all_goals omega
    rw [e]
    clear cx cy sx sy e
    go_enter Try.func24, Try.ntmps24
    go_wp2_with (go_at_call 54; refine (H.out _ _ _ (by assumption) (by assumption) (by assumption) (by assumption)).mono ?_; rintro e w' ⟨rfl, rfl⟩)
    go_ret
    exact ⟨rfl, rfl⟩
  · by_cases c : sgI x' < sgI y
    · have e : secI (sgI x) (sgI y) = 2 := by
        unfold secI
        repeat' split
        all_goals omega
      rw [e]
      clear cx cy sx sy e
      go_enter Try.func24, Try.ntmps24
      go_wp2_with (go_at_call 54; refine (H.out _ _ _ (by assumption) (by assumption) (by assumption) (by assumption)).mono ?_; rintro e w' ⟨rfl, rfl⟩)
      go_ret
      exact ⟨rfl, rfl⟩
    · have e : secI (sgI x) (sgI y) = 3 := by
        unfold secI
        repeat' split
        all_goals omega
      rw [e]
      clear cx cy sx sy e
      go_enter Try.func24, Try.ntmps24
      go_wp2_with (go_at_call 54; refine (H.out _ _ _ (by assumption) (by assumption) (by assumption) (by assumption)).mono ?_; rintro e w' ⟨rfl, rfl⟩)
      go_ret
      exact ⟨rfl, rfl⟩
  · by_cases c : sgI x < sgI y'
    · have e : secI (sgI x) (sgI y) = 6 := by
        unfold secI
        repeat' split
        all_goals omega
      rw [e]
      clear cx cy sx sy e
      go_enter Try.func24, Try.ntmps24
      go_wp2_with (go_at_call 54; refine (H.out _ _ _ (by assumption) (by assumption) (by assumption) (by assumption)).mono ?_; rintro e w' ⟨rfl, rfl⟩)
      go_ret
      exact ⟨rfl, rfl⟩
    · have e : secI (sgI x) (sgI y) = 7 := by
        unfold secI
        repeat' split
        all_goals omega
      rw [e]
      clear cx cy sx sy e
      go_enter Try.func24, Try.ntmps24
      go_wp2_with (go_at_call 54; refine (H.out _ _ _ (by assumption) (by assumption) (by assumption) (by assumption)).mono ?_; rintro e w' ⟨rfl, rfl⟩)
      go_ret
      exact ⟨rfl, rfl⟩
  · by_cases c : sgI y < sgI x
    · have e : secI (sgI x) (sgI y) = 0 := by
        unfold secI
        repeat' split
        all_goals omega
      rw [e]
      clear cx cy sx sy e
      go_enter Try.func24, Try.ntmps24
      go_wp2_with (go_at_call 54; refine (H.out _ _ _ (by assumption) (by assumption) (by assumption) (by assumption)).mono ?_; rintro e w' ⟨rfl, rfl⟩)
      go_ret
      exact ⟨rfl, rfl⟩
    · have e : secI (sgI x) (sgI y) = 1 := by
        unfold secI
        repeat' split
        all_goals omega
      rw [e]
      clear cx cy sx sy e
      go_enter Try.func24, Try.ntmps24
      go_wp2_with (go_at_call 54; refine (H.out _ _ _ (by assumption) (by assumption) (by assumption) (by assumption)).mono ?_; rintro e w' ⟨rfl, rfl⟩)
      go_ret
      exact ⟨rfl, rfl⟩
  · by_cases c : sgI y < sgI x
    · have e : secI (sgI x) (sgI y) = 0 := by
        unfold secI
        repeat' split
        all_goals omega
      rw [e]
      clear cx cy sx sy e
      go_enter Try.func24, Try.ntmps24
      go_wp2_with (go_at_call 54; refine (H.out _ _ _ (by assumption) (by assumption) (by assumption) (by assumption)).mono ?_; rintro e w' ⟨rfl, rfl⟩)
      go_ret
      exact ⟨rfl, rfl⟩
    · have e : secI (sgI x) (sgI y) = 1 := by
        unfold secI
        repeat' split
        all_goals omega
      rw [e]
      clear cx cy sx sy e
      go_enter Try.func24, Try.ntmps24
      go_wp2_with (go_at_call 54; refine (H.out _ _ _ (by assumption) (by assumption) (by assumption) (by assumption)).mono ?_; rintro e w' ⟨rfl, rfl⟩)
      go_ret
      exact ⟨rfl, rfl⟩
theorem sector_any {x y : Nat} (hx : x < 18446744073709551616) (hy : y < 18446744073709551616) (w : World) :
    Calls Try.prog 24 #[.complex .f64 x y] w fun e w' => e = .returned (.int .i8 (secF x y)) ∧ w' = w := by
  unfold secF
  by_cases h : isN x ∨ isN y
  · rw [if_pos h]; exact sector_nan h w
  · rw [if_neg h]; exact sector_num hx hy (fun n => h (.inl n)) (fun n => h (.inr n)) w
end Go.Proofs.Ytmjfphidcnjklaa
