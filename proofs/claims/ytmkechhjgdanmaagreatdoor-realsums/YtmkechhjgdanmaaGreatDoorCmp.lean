/- Contracts of the small functions on floating-point numbers, and of both comparisons. -/
import Derived.Test.YtmkechhjgdanmaaGreatDoorKey
import Derived.Test.YtmkechhjgdanmaaGreatDoorBase
namespace Go.Proofs.YtmkechhjgdanmaaGreatDoor
open Go.RowKit Go.Sort

theorem run30 (b : Nat) (w : World) : (callFunc 30 #[.float .f64 b]).run Tryz.prog w = .ok (.value (.int .u64 (b : Int))) w := by
  rw [run_callFunc_extern Tryz.func30 (by kernel_rfl) (by kernel_rfl) (by kernel_rfl) (e := Extern.MathFloatBits.float64bits) (by kernel_rfl)]
  rfl
theorem run42 (n : Int) (w : World) : (callFunc 42 #[.int .u64 n]).run Tryz.prog w = .ok (.value (.float .f64 n.toNat)) w := by
  rw [run_callFunc_extern Tryz.func42 (by kernel_rfl) (by kernel_rfl) (by kernel_rfl) (e := Extern.MathFloatBits.float64frombits) (by kernel_rfl)]
  rfl

theorem self_num {b : Nat} (hb : b < 18446744073709551616) (h : ¬ isN b) : FloatKind.f64.format.order b b = some .eq := by
  have := order_num hb hb h h
  rw [cmp_eq rfl] at this
  exact this

set_option maxHeartbeats 400000 in
theorem isnan_yes (b : Nat) (w : World) (h : isN b) : Calls Tryz.prog 43 #[.float .f64 b] w fun e w' => e = .returned (.bool true) ∧ w' = w := by
  have o : FloatKind.f64.format.order b b = none := order_nan_l b h
  clear h
  go_enter Tryz.func43, Tryz.ntmps43
  go_wp2
  go_ret
  exact ⟨rfl, rfl⟩
set_option maxHeartbeats 400000 in
theorem isnan_no (b : Nat) (w : World) (hb : b < 18446744073709551616) (h : ¬ isN b) : Calls Tryz.prog 43 #[.float .f64 b] w fun e w' => e = .returned (.bool false) ∧ w' = w := by
  have o : FloatKind.f64.format.order b b = some .eq := self_num hb h
  clear h
  go_enter Tryz.func43, Tryz.ntmps43
  go_wp2
  go_ret
  exact ⟨rfl, rfl⟩
theorem isnan_any (b : Nat) (w : World) (hb : b < 18446744073709551616) : Calls Tryz.prog 43 #[.float .f64 b] w fun e w' => e = .returned (.bool (decide (isN b))) ∧ w' = w := by
  by_cases h : isN b
  · rw [decide_eq_true h]; exact isnan_yes b w h
  · rw [decide_eq_false h]; exact isnan_no b w hb h
set_option maxHeartbeats 400000 in
theorem risnan_yes (b : Nat) (w : World) (h : isN b) : Calls Tryz.prog 45 #[.float .f64 b] w fun e w' => e = .returned (.bool true) ∧ w' = w := by
  have o : FloatKind.f64.format.order b b = none := order_nan_l b h
  clear h
  go_enter Tryz.func45, Tryz.ntmps45
  go_wp2
  go_ret
  exact ⟨rfl, rfl⟩
set_option maxHeartbeats 400000 in
theorem risnan_no (b : Nat) (w : World) (hb : b < 18446744073709551616) (h : ¬ isN b) : Calls Tryz.prog 45 #[.float .f64 b] w fun e w' => e = .returned (.bool false) ∧ w' = w := by
  have o : FloatKind.f64.format.order b b = some .eq := self_num hb h
  clear h
  go_enter Tryz.func45, Tryz.ntmps45
  go_wp2
  go_ret
  exact ⟨rfl, rfl⟩
theorem risnan_any (b : Nat) (w : World) (hb : b < 18446744073709551616) : Calls Tryz.prog 45 #[.float .f64 b] w fun e w' => e = .returned (.bool (decide (isN b))) ∧ w' = w := by
  by_cases h : isN b
  · rw [decide_eq_true h]; exact risnan_yes b w h
  · rw [decide_eq_false h]; exact risnan_no b w hb h

/-- The five cases of a comparison. -/
theorem cmp_cases {a b : Nat} (ha : a < 18446744073709551616) (hb : b < 18446744073709551616) :
    (decide (isN a) = false ∧ decide (isN b) = false ∧ ((FloatKind.f64.format.order a b = some .lt ∧ cmpI (key a) (key b) = -1) ∨ (FloatKind.f64.format.order a b = some .gt ∧ cmpI (key a) (key b) = 1) ∨ (FloatKind.f64.format.order a b = some .eq ∧ cmpI (key a) (key b) = 0))) ∨
    (FloatKind.f64.format.order a b = none ∧ ((decide (isN a) = true ∧ decide (isN b) = true ∧ cmpI (key a) (key b) = 0) ∨ (decide (isN a) = true ∧ decide (isN b) = false ∧ cmpI (key a) (key b) = 1) ∨ (decide (isN a) = false ∧ decide (isN b) = true ∧ cmpI (key a) (key b) = -1))) := by
  by_cases na : isN a
  · refine .inr ⟨order_nan_l b na, ?_⟩
    by_cases nb : isN b
    · refine .inl ⟨decide_eq_true na, decide_eq_true nb, ?_⟩
      rw [key_nan na, key_nan nb]; unfold cmpI; rw [if_neg (by omega), if_neg (by omega)]
    · refine .inr (.inl ⟨decide_eq_true na, decide_eq_false nb, ?_⟩)
      have := key_lt hb nb
      rw [key_nan na]; unfold cmpI; rw [if_neg (by omega), if_pos (by omega)]
  · by_cases nb : isN b
    · refine .inr ⟨order_nan_r a nb, .inr (.inr ⟨decide_eq_false na, decide_eq_true nb, ?_⟩)⟩
      have := key_lt ha na
      rw [key_nan nb]; unfold cmpI; rw [if_pos (by omega)]
    · refine .inl ⟨decide_eq_false na, decide_eq_false nb, ?_⟩
      have e : FloatKind.f64.format.order a b = some (compare (sgI a) (sgI b)) := order_num ha hb na nb
      rw [e, key_num na, key_num nb]
      rcases Int.lt_trichotomy (sgI a) (sgI b) with h | h | h
      · rw [cmp_lt h]; refine .inl ⟨rfl, ?_⟩; unfold cmpI; rw [if_pos h]
      · rw [cmp_eq h]; refine .inr (.inr ⟨rfl, ?_⟩); unfold cmpI; rw [if_neg (by omega), if_neg (by omega)]
      · rw [cmp_gt h]; refine .inr (.inl ⟨rfl, ?_⟩); unfold cmpI; rw [if_neg (by omega), if_pos h]

set_option maxRecDepth 20000 in
set_option maxHeartbeats 1600000 in
theorem compare_any (a b : Nat) (w : World) (ha : a < 18446744073709551616) (hb : b < 18446744073709551616) :
    Calls Tryz.prog 23 #[.float .f64 a, .float .f64 b] w fun e w' => e = .returned (.int .i64 (cmpI (key a) (key b))) ∧ w' = w := by
  obtain ⟨f, hf⟩ : ∃ f : Nat → Bool, f = fun b => decide (isN b) := ⟨_, rfl⟩
  have H : Hid (∀ x w, x < 18446744073709551616 → Calls Tryz.prog 43 #[.float .f64 x] w fun e w' => e = .returned (.bool (f x)) ∧ w' = w) := fun x w h => by rw [hf]; exact isnan_any x w h
  have C := cmp_cases ha hb
  rw [show decide (isN a) = f a from by rw [hf], show decide (isN b) = f b from by rw [hf]] at C
  clear hf
  generalize cmpI (key a) (key b) = c at *
  rcases C with ⟨fa, fb, ⟨o, rfl⟩ | ⟨o, rfl⟩ | ⟨o, rfl⟩⟩ | ⟨o, ⟨fa, fb, rfl⟩ | ⟨fa, fb, rfl⟩ | ⟨fa, fb, rfl⟩⟩
  all_goals
    go_enter Tryz.func23, Tryz.ntmps23
    go_wp2_with (go_at_call 43; refine (H.out _ _ (by assumption)).mono ?_; rintro e w' ⟨rfl, rfl⟩)
    go_ret
    exact ⟨rfl, rfl⟩
set_option maxRecDepth 20000 in
set_option maxHeartbeats 1600000 in
theorem rcompare_any (a b : Nat) (w : World) (ha : a < 18446744073709551616) (hb : b < 18446744073709551616) :
    Calls Tryz.prog 24 #[.float .f64 a, .float .f64 b] w fun e w' => e = .returned (.int .i64 (cmpI (key a) (key b))) ∧ w' = w := by
  obtain ⟨f, hf⟩ : ∃ f : Nat → Bool, f = fun b => decide (isN b) := ⟨_, rfl⟩
  have H : Hid (∀ x w, x < 18446744073709551616 → Calls Tryz.prog 45 #[.float .f64 x] w fun e w' => e = .returned (.bool (f x)) ∧ w' = w) := fun x w h => by rw [hf]; exact risnan_any x w h
  have C := cmp_cases ha hb
  rw [show decide (isN a) = f a from by rw [hf], show decide (isN b) = f b from by rw [hf]] at C
  clear hf
  generalize cmpI (key a) (key b) = c at *
  rcases C with ⟨fa, fb, ⟨o, rfl⟩ | ⟨o, rfl⟩ | ⟨o, rfl⟩⟩ | ⟨o, ⟨fa, fb, rfl⟩ | ⟨fa, fb, rfl⟩ | ⟨fa, fb, rfl⟩⟩
  all_goals
    go_enter Tryz.func24, Tryz.ntmps24
    go_wp2_with (go_at_call 45; refine (H.out _ _ (by assumption)).mono ?_; rintro e w' ⟨rfl, rfl⟩)
    go_ret
    exact ⟨rfl, rfl⟩
end Go.Proofs.YtmkechhjgdanmaaGreatDoor
