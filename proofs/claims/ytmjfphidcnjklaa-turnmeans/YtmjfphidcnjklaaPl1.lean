/- Contract of the reference's Nearest. -/
import Derived.Test.YtmjfphidcnjklaaNr
set_option linter.unusedSimpArgs false
namespace Go.Proofs.Ytmjfphidcnjklaa
open Go.RowKit Go.Sort Ieee

set_option maxHeartbeats 400000 in
theorem risnan_yes (b : Nat) (w : World) (h : isN b) : Calls Try.prog 72 #[.float .f64 b] w fun e w' => e = .returned (.bool true) ∧ w' = w := by
  have o : FloatKind.f64.format.order b b = none := order_nan_l b h
  clear h
  go_enter Try.func72, Try.ntmps72
  go_wp2
  go_ret
  exact ⟨rfl, rfl⟩
set_option maxHeartbeats 400000 in
theorem risnan_no (b : Nat) (w : World) (hb : b < 18446744073709551616) (h : ¬ isN b) : Calls Try.prog 72 #[.float .f64 b] w fun e w' => e = .returned (.bool false) ∧ w' = w := by
  have o : FloatKind.f64.format.order b b = some .eq := self_num hb h
  clear h
  go_enter Try.func72, Try.ntmps72
  go_wp2
  go_ret
  exact ⟨rfl, rfl⟩
theorem fl_52 : Fl 4841369599423283200 4503599627370496 := by
  have := Fl.ofInt (n := 4503599627370496) (by decide)
  rwa [show floatOfInt .f64 4503599627370496 = 4841369599423283200 from by decide] at this
theorem fl_m52 : Fl 14064741636278059008 (-4503599627370496) := by
  have := Fl.ofInt (n := -4503599627370496) (by decide)
  rwa [show floatOfInt .f64 (-4503599627370496) = 14064741636278059008 from by decide] at this
set_option maxHeartbeats 800000 in
theorem rhuge_any {x : Nat} (hx : x < 18446744073709551616) (n : ¬ isN x) (w : World) :
    Calls Try.prog 73 #[.float .f64 x] w fun e w' => e = .returned (.bool (decide (4503599627370496 * one1 ≤ (sgI x).natAbs))) ∧ w' = w := by
  have E : ((FloatKind.f64.format.order x 4841369599423283200 == some .gt || FloatKind.f64.format.order x 4841369599423283200 == some .eq) || (FloatKind.f64.format.order x 14064741636278059008 == some .lt || FloatKind.f64.format.order x 14064741636278059008 == some .eq)) = decide (4503599627370496 * one1 ≤ (sgI x).natAbs) := by
    have g1 := geq_key hx fl_52.1.1
    have g2 := leq_key hx fl_m52.1.1
    have n1 := fin_num fl_52.1
    have n2 := fin_num fl_m52.1
    rw [key_num n, key_num n1, fl_52.2] at g1
    rw [key_num n, key_num n2, fl_m52.2] at g2
    show ((double.order x 4841369599423283200 == some .gt || double.order x 4841369599423283200 == some .eq) || (double.order x 14064741636278059008 == some .lt || double.order x 14064741636278059008 == some .eq)) = _
    rw [g1, g2]
    have hp := one_pos
    generalize one1 = U at *
    generalize sgI x = s at *
    by_cases c1 : 4503599627370496 * (U : Int) ≤ s
    · rw [decide_eq_true ⟨n, n1, c1⟩, decide_eq_true (show 4503599627370496 * U ≤ s.natAbs from by omega)]; rfl
    · by_cases c2 : s ≤ -4503599627370496 * (U : Int)
      · rw [decide_eq_true (p := ¬ isN x ∧ ¬ isN 14064741636278059008 ∧ s ≤ -4503599627370496 * (U : Int)) ⟨n, n2, c2⟩, decide_eq_true (show 4503599627370496 * U ≤ s.natAbs from by omega), Bool.or_true]
      · rw [decide_eq_false (fun k => c1 k.2.2), decide_eq_false (fun k => c2 k.2.2), decide_eq_false (by omega)]; rfl
  rw [← E]
  clear E n hx
  generalize hL : (FloatKind.f64.format.order x 4841369599423283200 == some .gt || FloatKind.f64.format.order x 4841369599423283200 == some .eq) = L
  generalize hG : (FloatKind.f64.format.order x 14064741636278059008 == some .lt || FloatKind.f64.format.order x 14064741636278059008 == some .eq) = G
  cases L
  all_goals
    go_enter Try.func73, Try.ntmps73
    go_wp2
    go_ret
    exact ⟨rfl, rfl⟩
theorem down_plain {x : Nat} (hx : fin x) (hb : (sgI x).natAbs < 4503599627370496 * one1) :
    ∃ t : Int, t.natAbs < 4503599627370496 ∧ floatToIntVal .f64 x .i64 = some t ∧ ((FloatKind.f64.format.order (fi t) x = some .gt ∧ sgI x / (one1 : Int) = t - 1) ∨ (FloatKind.f64.format.order (fi t) x = some .lt ∧ sgI x / (one1 : Int) = t) ∨ (FloatKind.f64.format.order (fi t) x = some .eq ∧ sgI x / (one1 : Int) = t)) := by
  have hp := one_pos
  have hv : (sgI x).natAbs = valN (x % 9223372036854775808) := by rw [sgI_of hx]; split <;> omega
  have hq : valN (x % 9223372036854775808) / one1 < 4503599627370496 := by rw [Nat.div_lt_iff_lt_mul hp, ← hv]; exact hb
  obtain ⟨t, ht⟩ : ∃ t : Int, t = if 9223372036854775808 ≤ x then -((valN (x % 9223372036854775808) / one1 : Nat) : Int) else ((valN (x % 9223372036854775808) / one1 : Nat) : Int) := ⟨_, rfl⟩
  have lt : t.natAbs < 4503599627370496 := by
    rw [ht]
    generalize valN (x % 9223372036854775808) / one1 = q at hq ⊢
    split <;> omega
  have T : Fl (fi t) t := fi_fl (by omega)
  have O : FloatKind.f64.format.order (fi t) x = some (compare (t * (one1 : Int)) (sgI x)) := by
    have := order_num T.1.1 hx.1 (fin_num T.1) (fin_num hx)
    rw [T.2] at this
    exact this
  refine ⟨t, lt, ?_, ?_⟩
  · unfold floatToIntVal
    have e : (FloatKind.f64.decode x).toInt .zero = _ := toInt_zero hx
    rw [e, ← ht]
    have m1 : IntKind.i64.min = -9223372036854775808 := by decide
    have m2 : IntKind.i64.max = 9223372036854775807 := by decide
    simp only []
    rw [m1, m2, if_pos (by omega)]
  · rw [O]
    have d1 := Int.emod_add_mul_ediv (sgI x) (one1 : Int)
    have d2 := Int.emod_nonneg (sgI x) (show (one1 : Int) ≠ 0 from by omega)
    have d3 := Int.emod_lt_of_pos (sgI x) (show (0 : Int) < (one1 : Int) from by omega)
    have n1 := Nat.mod_add_div (valN (x % 9223372036854775808)) one1
    have n2 := Nat.mod_lt (valN (x % 9223372036854775808)) hp
    have es := sgI_of hx
    generalize valN (x % 9223372036854775808) % one1 = r at *
    generalize valN (x % 9223372036854775808) / one1 = q at *
    generalize valN (x % 9223372036854775808) = v at *
    generalize sgI x % (one1 : Int) = e at *
    generalize sgI x / (one1 : Int) = F at *
    generalize one1 = U at *
    have n1' : (r : Int) + (U : Int) * (q : Int) = (v : Int) := by rw [← n1, Int.natCast_add, Int.natCast_mul]
    have uniq : ∀ a : Int, -(U : Int) < (U : Int) * a → (U : Int) * a < (U : Int) → a = 0 := fun a h1 h2 => by
      apply Classical.byContradiction
      intro hc
      rcases Int.lt_or_gt_of_ne hc with c1 | c1
      · have : (U : Int) * a ≤ (U : Int) * (-1) := Int.mul_le_mul_of_nonneg_left (by omega) (by omega)
        omega
      · have : (U : Int) * 1 ≤ (U : Int) * a := Int.mul_le_mul_of_nonneg_left (by omega) (by omega)
        omega
    by_cases c : 9223372036854775808 ≤ x
    · rw [if_pos c] at ht
      rw [if_pos (by simpa using c)] at es
      have tU : t * (U : Int) = -((U : Int) * (q : Int)) := by rw [ht, Int.neg_mul, Int.mul_comm]
      by_cases r0 : r = 0
      · subst r0
        have : F + q = 0 := uniq (F + q) (by rw [Int.mul_add]; omega) (by rw [Int.mul_add]; omega)
        exact .inr (.inr ⟨by rw [cmp_eq (by omega)], by omega⟩)
      · have : F + q + 1 = 0 := uniq (F + q + 1) (by rw [Int.mul_add, Int.mul_add]; omega) (by rw [Int.mul_add, Int.mul_add]; omega)
        exact .inl ⟨by rw [cmp_gt (by omega)], by omega⟩
    · rw [if_neg c] at ht
      rw [if_neg (by simpa using c)] at es
      have tU : t * (U : Int) = (U : Int) * (q : Int) := by rw [ht, Int.mul_comm]
      have : F - q = 0 := uniq (F - q) (by rw [Int.mul_sub]; omega) (by rw [Int.mul_sub]; omega)
      by_cases r0 : r = 0
      · exact .inr (.inr ⟨by rw [cmp_eq (by omega)], by omega⟩)
      · exact .inr (.inl ⟨by rw [cmp_lt (by omega)], by omega⟩)
set_option maxRecDepth 20000 in
set_option maxHeartbeats 800000 in
theorem down_any {x : Nat} (hx : fin x) (hb : (sgI x).natAbs < 4503599627370496 * one1) (w : World) :
    Calls Try.prog 74 #[.float .f64 x] w fun e w' => e = .returned (.int .i64 (sgI x / (one1 : Int))) ∧ w' = w := by
  obtain ⟨t, lt, ht, C⟩ := down_plain hx hb
  have cv : ∀ w, (convert 31 2 (.float .f64 x)).run Try.prog w = .ok (.int .i64 t) w := fun w => run_convert_float_int w 31 2 .f64 .i64 x t (by kernel_rfl) (by kernel_rfl) ht
  have w1 : wrap64 (t - 1) = t - 1 := by unfold wrap64; omega
  have w2 : IntKind.i64.wrap (t - 1) = t - 1 := by simp [IntKind.wrap, IntKind.signed, IntKind.bits]; omega
  generalize sgI x / (one1 : Int) = F at *
  clear ht hb hx lt
  rcases C with ⟨o, rfl⟩ | ⟨o, rfl⟩ | ⟨o, rfl⟩
  all_goals
    go_enter Try.func74, Try.ntmps74
    go_wp2
    go_ret
    exact ⟨rfl, rfl⟩
set_option maxRecDepth 20000 in
set_option maxHeartbeats 3200000 in
theorem rnear_walk {x D : Nat} {F N : Int} {up : Bool} (hx : V x x) (HN : ∀ w, Hid (Calls Try.prog 72 #[.float .f64 x] w fun e w' => e = .returned (.bool false) ∧ w' = w)) (HH : ∀ w, Hid (Calls Try.prog 73 #[.float .f64 x] w fun e w' => e = .returned (.bool false) ∧ w' = w))
    (HD : ∀ w, Hid (Calls Try.prog 74 #[.float .f64 x] w fun e w' => e = .returned (.int .i64 F) ∧ w' = w)) (hD : D = fo .sub x (fi F)) (nD : ¬ isN D) (lF : F.natAbs ≤ 4503599627370497) (hN : N = if up then F + 1 else F)
    (hO : (FloatKind.f64.format.order D 4602678819172646912 = some .gt ∧ up = true) ∨ (FloatKind.f64.format.order D 4602678819172646912 = some .eq ∧ (F.tmod 2 == 0) = false ∧ up = true) ∨ (FloatKind.f64.format.order D 4602678819172646912 = some .eq ∧ (F.tmod 2 == 0) = true ∧ up = false) ∨ (FloatKind.f64.format.order D 4602678819172646912 = some .lt ∧ up = false)) (w : World) :
    Calls Try.prog 62 #[.float .f64 x] w fun e w' => e = .returned (.tuple #[.int .i32 (if N.natAbs ≤ 1073741823 then N else 0), .int .i64 (if N.natAbs ≤ 1073741823 then 0 else 21)]) ∧ Gr w w' := by
  have FV := foi_V F
  have w1 : wrap64 (F + 1) = F + 1 := by unfold wrap64; omega
  have w2 : IntKind.i64.wrap (F + 1) = F + 1 := by simp [IntKind.wrap, IntKind.signed, IntKind.bits]; omega
  have CD : Hid (∀ r, V r (fo .sub x (fi F)) → r = D) := fun r h => by rw [← hD] at h; exact h.eq nD
  have CN : (N.natAbs ≤ 1073741823 ∧ decide (N < -1073741823) = false ∧ decide (1073741823 < N) = false ∧ wrap32 N = N ∧ IntKind.i32.wrap N = N) ∨ (¬ N.natAbs ≤ 1073741823 ∧ decide (N < -1073741823) = true) ∨ (¬ N.natAbs ≤ 1073741823 ∧ decide (N < -1073741823) = false ∧ decide (1073741823 < N) = true) := by
    by_cases c : N.natAbs ≤ 1073741823
    · exact .inl ⟨c, by simp; omega, by simp; omega, by unfold wrap32; omega, by simp [IntKind.wrap, IntKind.signed, IntKind.bits]; omega⟩
    · by_cases c2 : N < -1073741823
      · exact .inr (.inl ⟨c, by simpa using c2⟩)
      · exact .inr (.inr ⟨c, by simp; omega, by simp; omega⟩)
  clear hD nD lF
  rcases hO with ⟨o, rfl⟩ | ⟨o, p, rfl⟩ | ⟨o, p, rfl⟩ | ⟨o, rfl⟩
  all_goals
    simp only [if_true, Bool.false_eq_true, if_false] at hN
    subst hN
    rcases CN with ⟨c, c1, c2, c3, c4⟩ | ⟨c, c1⟩ | ⟨c, c1, c2⟩
    all_goals
      first | rw [if_pos c, if_pos c] | rw [if_neg c, if_neg c]
      clear c
      go_enter Try.func62, Try.ntmps62
      go_wp2_with (first
        | (go_at_call 72; refine (HN _).out.mono ?_; rintro e w' ⟨rfl, rfl⟩)
        | (go_at_call 73; refine (HH _).out.mono ?_; rintro e w' ⟨rfl, rfl⟩)
        | (go_at_call 74; refine (HD _).out.mono ?_; rintro e w' ⟨rfl, rfl⟩)
        | (refine wpList_fl _ rfl .sub (.inr (.inl rfl)) _ _ rfl _ _ rfl rfl hx FV ?_; intro r n h1; obtain rfl := CD.out r h1; clear h1))
      go_ret2
      exact ⟨rfl, (Gr.refl _).drewN _⟩
theorem rnear_any {x X : Nat} (h : V x X) (w : World) :
    Calls Try.prog 62 #[.float .f64 x] w fun e w' => e = .returned (.tuple #[.int .i32 (nrF X).1, .int .i64 (nrF X).2]) ∧ Gr w w' := by
  by_cases n : isN X
  · have hn := h.nan.2 n
    have e : nrF X = (0, 20) := by unfold nrF; rw [if_pos n]
    rw [e]
    have H := fun w => hid' (risnan_yes x w hn)
    clear h n hn e
    go_enter Try.func62, Try.ntmps62
    go_wp2_with (go_at_call 72; refine (H _).out.mono ?_; rintro e w' ⟨rfl, rfl⟩)
    go_ret2
    exact ⟨rfl, Gr.refl _⟩
  · obtain rfl := h.eq n
    have HN := fun w => hid' (risnan_no x w h.1 n)
    have HH := fun w => hid' (rhuge_any h.1 n w)
    by_cases hb : 4503599627370496 * one1 ≤ (sgI x).natAbs
    · rw [nr_huge h.1 n hb]
      rw [decide_eq_true hb] at HH
      clear h n hb
      go_enter Try.func62, Try.ntmps62
      go_wp2_with (first
        | (go_at_call 72; refine (HN _).out.mono ?_; rintro e w' ⟨rfl, rfl⟩)
        | (go_at_call 73; refine (HH _).out.mono ?_; rintro e w' ⟨rfl, rfl⟩))
      go_ret2
      exact ⟨rfl, Gr.refl _⟩
    · rw [decide_eq_false hb] at HH
      have hp := one_pos
      have hf : fin x := by
        rcases inf_cases h.1 n with f | rfl | rfl
        · exact f
        · exfalso
          rw [sgI_inf] at hb
          have := valN_lt (r := 4841369599423283200) (t := 9218868437227405312) (by decide)
          have e : (valN 4841369599423283200 : Int) = 4503599627370496 * (one1 : Int) := by have := fl_52.2; unfold sgI at this; rwa [if_pos (by decide)] at this
          omega
        · exfalso
          rw [sgI_ninf] at hb
          have := valN_lt (r := 4841369599423283200) (t := 9218868437227405312) (by decide)
          have e : (valN 4841369599423283200 : Int) = 4503599627370496 * (one1 : Int) := by have := fl_52.2; unfold sgI at this; rwa [if_pos (by decide)] at this
          omega
      have hb' : (sgI x).natAbs < 4503599627370496 * one1 := by omega
      have HD := fun w => hid' (down_any hf hb' w)
      obtain ⟨fD, hD⟩ := left_half hf hb' rfl
      have rc := rc_floor (sgI x)
      rw [nr_gen hf hb']
      have lF : (sgI x / (one1 : Int)).natAbs ≤ 4503599627370497 := by
        obtain ⟨t, lt, _, C⟩ := down_plain hf hb'
        rcases C with ⟨_, e⟩ | ⟨_, e⟩ | ⟨_, e⟩ <;> omega
      have O := order_num fD.1 half_fin.1 (fin_num fD) (fin_num half_fin)
      have O' : FloatKind.f64.format.order (fo .sub x (fi (sgI x / (one1 : Int)))) 4602678819172646912 = some (compare (sgI (fo .sub x (fi (sgI x / (one1 : Int))))) (sgI 4602678819172646912)) := O
      have tm := tmod2 (sgI x / (one1 : Int))
      have nD := fin_num fD
      generalize hDD : fo .sub x (fi (sgI x / (one1 : Int))) = D at *
      generalize sgI D = sd at *
      generalize sgI 4602678819172646912 = sh at *
      generalize sgI x / (one1 : Int) = F at *
      generalize sgI x % (one1 : Int) = e at *
      have P : ∀ up : Bool, rcS (sgI x) = (if up then F + 1 else F) → ((FloatKind.f64.format.order D 4602678819172646912 = some .gt ∧ up = true) ∨ (FloatKind.f64.format.order D 4602678819172646912 = some .eq ∧ (F.tmod 2 == 0) = false ∧ up = true) ∨ (FloatKind.f64.format.order D 4602678819172646912 = some .eq ∧ (F.tmod 2 == 0) = true ∧ up = false) ∨ (FloatKind.f64.format.order D 4602678819172646912 = some .lt ∧ up = false)) → Calls Try.prog 62 #[.float .f64 x] w fun e w' => e = .returned (.tuple #[.int .i32 (if (rcS (sgI x)).natAbs ≤ 1073741823 then (rcS (sgI x), 0) else ((0, 21) : Int × Int)).1, .int .i64 (if (rcS (sgI x)).natAbs ≤ 1073741823 then (rcS (sgI x), 0) else ((0, 21) : Int × Int)).2]) ∧ Gr w w' := fun up h1 h2 => by
        have := rnear_walk (up := up) h HN HH HD hDD.symm nD lF h1 h2 w
        by_cases c : (rcS (sgI x)).natAbs ≤ 1073741823
        · rw [if_pos c, if_pos c] at this; rw [if_pos c]; exact this
        · rw [if_neg c, if_neg c] at this; rw [if_neg c]; exact this
      rcases Int.lt_trichotomy sd sh with c | c | c
      · rw [cmp_lt c] at O'
        rw [if_neg (fun k => by have := hD.2 k; omega)] at rc
        exact P false rc (.inr (.inr (.inr ⟨O', rfl⟩)))
      · rw [cmp_eq c] at O'
        by_cases p : F % 2 = 0
        · rw [if_neg (fun k => by have := hD.2 k; omega)] at rc
          exact P false rc (.inr (.inr (.inl ⟨O', by rw [tm.2 p]; rfl, rfl⟩)))
        · rw [if_pos (hD.1 (.inr ⟨c, p⟩))] at rc
          exact P true rc (.inr (.inl ⟨O', by rw [beq_eq_false_iff_ne]; exact fun k => p (tm.1 k), rfl⟩))
      · rw [cmp_gt c] at O'
        rw [if_pos (hD.1 (.inl c))] at rc
        exact P true rc (.inl ⟨O', rfl⟩)
end Go.Proofs.Ytmjfphidcnjklaa
