/- Contracts of what is alike, of the program, of the reference and of the law. -/
import Derived.Test.YtmjfphidcnjklaaF4
set_option linter.unusedSimpArgs false
namespace Go.Proofs.Ytmjfphidcnjklaa
open Go.RowKit Go.Sort Ieee

theorem self_num {b : Nat} (hb : b < 18446744073709551616) (h : ¬ isN b) : FloatKind.f64.format.order b b = some .eq := by
  have := order_num hb hb h h
  rw [cmp_eq rfl] at this
  exact this

set_option maxHeartbeats 400000 in
theorem isnan_yes (b : Nat) (w : World) (h : isN b) : Calls Try.prog 70 #[.float .f64 b] w fun e w' => e = .returned (.bool true) ∧ w' = w := by
  have o : FloatKind.f64.format.order b b = none := order_nan_l b h
  clear h
  go_enter Try.func70, Try.ntmps70
  go_wp2
  go_ret
  exact ⟨rfl, rfl⟩
set_option maxHeartbeats 400000 in
theorem isnan_no (b : Nat) (w : World) (hb : b < 18446744073709551616) (h : ¬ isN b) : Calls Try.prog 70 #[.float .f64 b] w fun e w' => e = .returned (.bool false) ∧ w' = w := by
  have o : FloatKind.f64.format.order b b = some .eq := self_num hb h
  clear h
  go_enter Try.func70, Try.ntmps70
  go_wp2
  go_ret
  exact ⟨rfl, rfl⟩
theorem isnan_any (b : Nat) (w : World) (hb : b < 18446744073709551616) : Calls Try.prog 70 #[.float .f64 b] w fun e w' => e = .returned (.bool (decide (isN b))) ∧ w' = w := by
  by_cases h : isN b
  · rw [decide_eq_true h]; exact isnan_yes b w h
  · rw [decide_eq_false h]; exact isnan_no b w hb h
/-- The five cases of a comparison. -/
theorem cmp_cases {a b : Nat} (ha : a < 18446744073709551616) (hb : b < 18446744073709551616) :
    (decide (isN a) = false ∧ decide (isN b) = false ∧ ((FloatKind.f64.format.order a b = some .lt ∧ cmpI (key a) (key b) = -1) ∨ (FloatKind.f64.format.order a b = some .gt ∧ cmpI (key a) (key b) = 1) ∨ (FloatKind.f64.format.order a b = some .eq ∧ cmpI (key a) (key b) = 0))) ∨
    (FloatKind.f64.format.order a b = none ∧ ((decide (isN a) = true ∧ decide (isN b) = true ∧ cmpI (key a) (key b) = 0) ∨ (decide (isN a) = true ∧ decide (isN b) = false ∧ cmpI (key a) (key b) = 1) ∨ (decide (isN a) = false ∧ decide (isN b) = true ∧ cmpI (key a) (key b) = -1))) := by
  by_cases na : isN a
  · refine .inr ⟨order_nan_l b na, ?_⟩
    by_cases nb : isN b
    · refine .inl ⟨decide_eq_true na, decide_eq_true nb, ?_⟩
      rw [key_nan na, key_nan nb]; unfold cmpI; rw [if_neg (by omega), if_neg (by omega)]
    · refine .inr (.inl ⟨decide_eq_true na, decide_eq_false nb, ?_⟩)
      have := key_lt hb nb
      rw [key_nan na]; unfold cmpI; rw [if_neg (by omega), if_pos (by omega)]
  · by_cases nb : isN b
    · refine .inr ⟨order_nan_r a nb, .inr (.inr ⟨decide_eq_false na, decide_eq_true nb, ?_⟩)⟩
      have := key_lt ha na
      rw [key_nan nb]; unfold cmpI; rw [if_pos (by omega)]
    · refine .inl ⟨decide_eq_false na, decide_eq_false nb, ?_⟩
      have e : FloatKind.f64.format.order a b = some (compare (sgI a) (sgI b)) := order_num ha hb na nb
      rw [e, key_num na, key_num nb]
      rcases Int.lt_trichotomy (sgI a) (sgI b) with h | h | h
      · rw [cmp_lt h]; refine .inl ⟨rfl, ?_⟩; unfold cmpI; rw [if_pos h]
      · rw [cmp_eq h]; refine .inr (.inr ⟨rfl, ?_⟩); unfold cmpI; rw [if_neg (by omega), if_neg (by omega)]
      · rw [cmp_gt h]; refine .inr (.inl ⟨rfl, ?_⟩); unfold cmpI; rw [if_neg (by omega), if_pos h]

set_option maxRecDepth 20000 in
set_option maxHeartbeats 1600000 in
theorem compare_any (a b : Nat) (w : World) (ha : a < 18446744073709551616) (hb : b < 18446744073709551616) :
    Calls Try.prog 69 #[.float .f64 a, .float .f64 b] w fun e w' => e = .returned (.int .i64 (cmpI (key a) (key b))) ∧ w' = w := by
  obtain ⟨f, hf⟩ : ∃ f : Nat → Bool, f = fun b => decide (isN b) := ⟨_, rfl⟩
  have H : Hid (∀ x w, x < 18446744073709551616 → Calls Try.prog 70 #[.float .f64 x] w fun e w' => e = .returned (.bool (f x)) ∧ w' = w) := fun x w h => by rw [hf]; exact isnan_any x w h
  have C := cmp_cases ha hb
  rw [show decide (isN a) = f a from by rw [hf], show decide (isN b) = f b from by rw [hf]] at C
  clear hf
  generalize cmpI (key a) (key b) = c at *
  rcases C with ⟨fa, fb, ⟨o, rfl⟩ | ⟨o, rfl⟩ | ⟨o, rfl⟩⟩ | ⟨o, ⟨fa, fb, rfl⟩ | ⟨fa, fb, rfl⟩ | ⟨fa, fb, rfl⟩⟩
  all_goals
    go_enter Try.func69, Try.ntmps69
    go_wp2_with (go_at_call 70; refine (H.out _ _ (by assumption)).mono ?_; rintro e w' ⟨rfl, rfl⟩)
    go_ret
    exact ⟨rfl, rfl⟩

/-- Equal, or none that is a number both. -/
def alB (a b : Nat) : Bool := (double.order a b == some .eq) || (decide (isN a) && decide (isN b))
theorem alB_V {a b A B : Nat} (ha : V a A) (hb : V b B) : alB a b = alB A B := by
  unfold alB
  rw [ha.order hb, show decide (isN a) = decide (isN A) from by simp only [ha.nan], show decide (isN b) = decide (isN B) from by simp only [hb.nan]]
theorem alB_same {a : Nat} (ha : a < 18446744073709551616) : alB a a = true := by
  unfold alB
  by_cases n : isN a
  · simp [n]
  · rw [show double.order a a = some .eq from self_num ha n]; rfl
theorem alB_both {a b X : Nat} (ha : V a X) (hb : V b X) : alB a b = true := by rw [alB_V ha hb]; exact alB_same ha.2.1
theorem alB_cmp {a b : Nat} (ha : a < 18446744073709551616) (hb : b < 18446744073709551616) : (cmpI (key a) (key b) == 0) = alB a b := by
  unfold alB
  have d0 : FloatKind.f64.format.order a b = double.order a b := rfl
  rcases cmp_cases ha hb with ⟨fa, fb, ⟨o, e⟩ | ⟨o, e⟩ | ⟨o, e⟩⟩ | ⟨o, ⟨fa, fb, e⟩ | ⟨fa, fb, e⟩ | ⟨fa, fb, e⟩⟩ <;> rw [d0] at o <;> rw [o, fa, fb, e] <;> rfl
set_option maxRecDepth 20000 in
set_option maxHeartbeats 800000 in
theorem ralike_any {a b : Nat} (ha : a < 18446744073709551616) (hb : b < 18446744073709551616) (w : World) :
    Calls Try.prog 68 #[.float .f64 a, .float .f64 b] w fun e w' => e = .returned (.bool (alB a b)) ∧ w' = w := by
  have C : ∃ R, alB a b = R ∧ ((FloatKind.f64.format.order a b = some .eq ∧ R = true) ∨ (FloatKind.f64.format.order a b = some .lt ∧ FloatKind.f64.format.order a a = some .eq ∧ R = false) ∨ (FloatKind.f64.format.order a b = some .gt ∧ FloatKind.f64.format.order a a = some .eq ∧ R = false) ∨ (FloatKind.f64.format.order a b = none ∧ FloatKind.f64.format.order a a = some .eq ∧ R = false) ∨ (FloatKind.f64.format.order a b = none ∧ FloatKind.f64.format.order a a = none ∧ FloatKind.f64.format.order b b = some .eq ∧ R = false) ∨ (FloatKind.f64.format.order a b = none ∧ FloatKind.f64.format.order a a = none ∧ FloatKind.f64.format.order b b = none ∧ R = true)) := by
    refine ⟨_, rfl, ?_⟩
    unfold alB
    have d0 : double.order a b = FloatKind.f64.format.order a b := rfl
    rw [d0]
    by_cases na : isN a
    · have o1 : FloatKind.f64.format.order a a = none := order_nan_l a na
      have o2 : FloatKind.f64.format.order a b = none := order_nan_l b na
      by_cases nb : isN b
      · have o3 : FloatKind.f64.format.order b b = none := order_nan_l b nb
        exact .inr (.inr (.inr (.inr (.inr ⟨o2, o1, o3, by simp [na, nb]⟩))))
      · exact .inr (.inr (.inr (.inr (.inl ⟨o2, o1, self_num hb nb, by rw [o2]; simp [nb]⟩))))
    · have o1 := self_num ha na
      rcases ho : FloatKind.f64.format.order a b with _ | _ | _ | _
      · exact .inr (.inr (.inr (.inl ⟨rfl, o1, by simp [na]⟩)))
      · exact .inr (.inl ⟨rfl, o1, by simp [na]⟩)
      · exact .inl ⟨rfl, by simp⟩
      · exact .inr (.inr (.inl ⟨rfl, o1, by simp [na]⟩))
  obtain ⟨R, hR, C⟩ := C
  rw [hR]
  clear hR ha hb
  rcases C with ⟨h1, rfl⟩ | ⟨h1, h2, rfl⟩ | ⟨h1, h2, rfl⟩ | ⟨h1, h2, rfl⟩ | ⟨h1, h2, h3, rfl⟩ | ⟨h1, h2, h3, rfl⟩
  all_goals
    go_enter Try.func68, Try.ntmps68
    go_wp2
    go_ret
    exact ⟨rfl, rfl⟩
set_option maxRecDepth 20000 in
set_option maxHeartbeats 800000 in
theorem ralikeNum_any {a b c d : Nat} (ha : a < 18446744073709551616) (hb : b < 18446744073709551616) (hc : c < 18446744073709551616) (hd : d < 18446744073709551616) (w : World) :
    Calls Try.prog 40 #[numV a b, numV c d] w fun e w' => e = .returned (.bool (alB a c && alB b d)) ∧ Gr w w' := by
  have H : Hid (∀ x y w, x < 18446744073709551616 → y < 18446744073709551616 → Calls Try.prog 68 #[.float .f64 x, .float .f64 y] w fun e w' => e = .returned (.bool (alB x y)) ∧ w' = w) := fun x y w hx hy => ralike_any hx hy w
  generalize hf : alB = f at *
  clear hf
  cases hX : f a c <;> cases hY : f b d
  all_goals
    go_enter Try.func40, Try.ntmps40
    go_wp2_with (go_at_call 68; refine (H.out _ _ _ (by assumption) (by assumption)).mono ?_; rintro e w' ⟨rfl, rfl⟩)
    go_ret
    exact ⟨rfl, ((Gr.refl _).alloc _).alloc _⟩
set_option maxRecDepth 20000 in
set_option maxHeartbeats 1600000 in
theorem alike_any {a b c d : Nat} (ha : a < 18446744073709551616) (hb : b < 18446744073709551616) (hc : c < 18446744073709551616) (hd : d < 18446744073709551616) (w : World) :
    Calls Try.prog 53 #[.complex .f64 a b, .complex .f64 c d] w fun e w' => e = .returned (.bool (alB a c && alB b d)) ∧ w' = w := by
  have H : Hid (∀ x y w, x < 18446744073709551616 → y < 18446744073709551616 → Calls Try.prog 69 #[.float .f64 x, .float .f64 y] w fun e w' => e = .returned (.int .i64 (cmpI (key x) (key y))) ∧ w' = w) := fun x y w hx hy => compare_any x y w hx hy
  have e1 := alB_cmp ha hc
  have e2 := alB_cmp hb hd
  generalize alB a c = X at *
  generalize alB b d = Y at *
  cases X <;> cases Y
  all_goals
    go_enter Try.func53, Try.ntmps53
    go_wp2_with (go_at_call 69; refine (H.out _ _ _ (by assumption) (by assumption)).mono ?_; rintro e w' ⟨rfl, rfl⟩)
    go_ret
    exact ⟨rfl, rfl⟩
end Go.Proofs.Ytmjfphidcnjklaa
