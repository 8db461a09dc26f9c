/- Contract of the reference's Sector. -/
import Derived.Test.YtmjfphidcnjklaaF9
set_option linter.unusedSimpArgs false
namespace Go.Proofs.Ytmjfphidcnjklaa
open Go.RowKit Go.Sort Ieee

theorem key_abs {x : Nat} (hx : x < 18446744073709551616) (n : ¬ isN x) : key (x % 9223372036854775808) = ((sgI x).natAbs : Int) := by
  have n' : ¬ isN (x % 9223372036854775808) := by unfold isN at *; omega
  rw [key_num n']
  unfold sgI
  rw [if_pos (by omega)]
  split
  · rw [Nat.mod_eq_of_lt (by assumption)]; omega
  · rw [show x % 9223372036854775808 = x - 9223372036854775808 from by omega]; omega
set_option maxHeartbeats 400000 in
theorem rsize_num {x : Nat} (hx : x < 18446744073709551616) (n : ¬ isN x) (w : World) :
    Calls Try.prog 55 #[.float .f64 x] w fun e w' => ∃ r, e = .returned (.float .f64 r) ∧ (r < 18446744073709551616 ∧ ¬ isN r ∧ sgI r = ((sgI x).natAbs : Int)) ∧ Gr w w' := by
  have K : ∀ y, szR x y → y < 18446744073709551616 ∧ ¬ isN y ∧ sgI y = ((sgI x).natAbs : Int) := fun y h => by
    obtain ⟨h1, h2, h3⟩ := szR_ok hx h
    have ny : ¬ isN y := fun k => n (h2.1 k)
    refine ⟨h1, ny, ?_⟩
    rw [← key_num ny, h3 n, key_abs hx n]
  by_cases c : (FloatKind.f64.format.order x 0 == some .lt) = true
  · have HS : Hid (∀ r, V r (fo .sub 0 x) → r < 18446744073709551616 ∧ ¬ isN r ∧ sgI r = ((sgI x).natAbs : Int)) := fun r hr => by
      have c2 : (double.order x 0 == some .lt) = true := c
      have := K (fo .sub 0 x) (by unfold szR; rw [if_pos c2]; exact fo_arR _ _ _)
      rw [hr.eq this.2.1]
      exact this
    have c' : FloatKind.f64.format.order x 0 = some .lt := by simpa using c
    have hv := V.refl hx
    have hz := v0
    clear c K
    go_enter Try.func55, Try.ntmps55
    go_wp2_with (refine wpList_fl _ rfl .sub (.inr (.inl rfl)) _ _ rfl _ _ rfl rfl hz hv ?_; intro r n h1)
    go_ret
    exact ⟨r, rfl, HS.out r h1, (Gr.refl _).drewN _⟩
  · have HS := hid' (K x (by
      have c2 : ¬ (double.order x 0 == some .lt) = true := c
      unfold szR; rw [if_neg c2]))
    have c' : (FloatKind.f64.format.order x 0 == some .lt) = false := by simpa using c
    clear c K
    go_enter Try.func55, Try.ntmps55
    go_wp2
    go_ret
    exact ⟨x, rfl, HS.out, Gr.refl _⟩
theorem kp {a b : Nat} {s t : Int} (ha : a < 18446744073709551616 ∧ ¬ isN a ∧ sgI a = s) (hb : b < 18446744073709551616 ∧ ¬ isN b ∧ sgI b = t) : FloatKind.f64.format.order a b = some (compare s t) := by
  rw [ord3 ha.1 hb.1 ha.2.1 hb.2.1, ha.2.2, hb.2.2]
set_option maxRecDepth 20000 in
set_option maxHeartbeats 1600000 in
theorem rsector_none {x y : Nat} (hx : x < 18446744073709551616) (hy : y < 18446744073709551616) (hn : (isN x ∨ isN y) ∨ (¬ isN x ∧ ¬ isN y ∧ sgI x = 0 ∧ sgI y = 0)) (w : World) :
    Calls Try.prog 25 #[numV x y] w fun e w' => e = .returned (.int .i8 (-1)) ∧ Gr w w' := by
  have C : (FloatKind.f64.format.order x x = none) ∨ (FloatKind.f64.format.order x x = some .eq ∧ FloatKind.f64.format.order y y = none) ∨ (FloatKind.f64.format.order x x = some .eq ∧ FloatKind.f64.format.order y y = some .eq ∧ FloatKind.f64.format.order x 0 = some .eq ∧ FloatKind.f64.format.order y 0 = some .eq) := by
    by_cases nx : isN x
    · exact .inl (order_nan_l x nx)
    · by_cases ny : isN y
      · exact .inr (.inl ⟨self_num hx nx, order_nan_l y ny⟩)
      · rcases hn with h | ⟨_, _, h1, h2⟩
        · exact absurd h (by simp [nx, ny])
        · refine .inr (.inr ⟨self_num hx nx, self_num hy ny, ?_, ?_⟩)
          · rw [ord3 hx (by decide) nx (by decide), h1, sgI_zero, cmp_eq rfl]
          · rw [ord3 hy (by decide) ny (by decide), h2, sgI_zero, cmp_eq rfl]
  clear hn hx hy
  rcases C with h1 | ⟨h1, h2⟩ | ⟨h1, h2, h3, h4⟩
  all_goals
    go_enter Try.func25, Try.ntmps25
    go_wp2
    go_ret
    exact ⟨rfl, (Gr.refl _).alloc _⟩
set_option maxRecDepth 20000 in
set_option maxHeartbeats 6400000 in
theorem rsector_num {x y : Nat} (hx : x < 18446744073709551616) (hy : y < 18446744073709551616) (nx : ¬ isN x) (ny : ¬ isN y) (h0 : ¬ (sgI x = 0 ∧ sgI y = 0)) (w : World) :
    Calls Try.prog 25 #[numV x y] w fun e w' => e = .returned (.int .i8 (secI (sgI x) (sgI y))) ∧ Gr w w' := by
  have Hx := fun w => hid' (rsize_num hx nx w)
  have Hy := fun w => hid' (rsize_num hy ny w)
  have sx := self_num hx nx
  have sy := self_num hy ny
  have KP : Hid (∀ a b : Nat, (a < 18446744073709551616 ∧ ¬ isN a ∧ sgI a = ((sgI x).natAbs : Int)) → (b < 18446744073709551616 ∧ ¬ isN b ∧ sgI b = ((sgI y).natAbs : Int)) → FloatKind.f64.format.order a b = some (compare ((sgI x).natAbs : Int) ((sgI y).natAbs : Int)) ∧ FloatKind.f64.format.order b a = some (compare ((sgI y).natAbs : Int) ((sgI x).natAbs : Int))) := fun a b ha hb => ⟨kp ha hb, kp hb ha⟩
  rcases ord0 hx nx with ⟨ox, cx⟩ | ⟨ox, cx⟩ | ⟨ox, cx⟩ <;> rcases ord0 hy ny with ⟨oy, cy⟩ | ⟨oy, cy⟩ | ⟨oy, cy⟩ <;> rcases Int.lt_trichotomy ((sgI x).natAbs : Int) ((sgI y).natAbs : Int) with c | c | c
  all_goals try (exfalso; omega)
  · have e : secI (sgI x) (sgI y) = 5 := by
      unfold secI
      repeat' split
      all_goals omega
    rw [e]
    rw [cmp_lt c, cmp_gt c] at KP
    clear cx cy c e h0 hx hy nx ny
    go_enter Try.func25, Try.ntmps25
    go_wp2_with (first
      | (go_at_call_of 55 x; refine (Hx _).out.mono ?_; rintro e w1 ⟨p, rfl, hp, g1⟩)
      | (go_at_call_of 55 y; refine (Hy _).out.mono ?_; rintro e w2 ⟨q, rfl, hq, g2⟩; obtain ⟨o1, o2⟩ := KP.out p q hp hq; clear hp hq))
    go_ret
    exact ⟨rfl, (((Gr.refl _).alloc _).trans g1).trans g2⟩
  · have e : secI (sgI x) (sgI y) = 5 := by
      unfold secI
      repeat' split
      all_goals omega
    rw [e]
    rw [cmp_eq c, cmp_eq c.symm] at KP
    clear cx cy c e h0 hx hy nx ny
    go_enter Try.func25, Try.ntmps25
    go_wp2_with (first
      | (go_at_call_of 55 x; refine (Hx _).out.mono ?_; rintro e w1 ⟨p, rfl, hp, g1⟩)
      | (go_at_call_of 55 y; refine (Hy _).out.mono ?_; rintro e w2 ⟨q, rfl, hq, g2⟩; obtain ⟨o1, o2⟩ := KP.out p q hp hq; clear hp hq))
    go_ret
    exact ⟨rfl, (((Gr.refl _).alloc _).trans g1).trans g2⟩
  · have e : secI (sgI x) (sgI y) = 4 := by
      unfold secI
      repeat' split
      all_goals omega
    rw [e]
    rw [cmp_gt c, cmp_lt c] at KP
    clear cx cy c e h0 hx hy nx ny
    go_enter Try.func25, Try.ntmps25
    go_wp2_with (first
      | (go_at_call_of 55 x; refine (Hx _).out.mono ?_; rintro e w1 ⟨p, rfl, hp, g1⟩)
      | (go_at_call_of 55 y; refine (Hy _).out.mono ?_; rintro e w2 ⟨q, rfl, hq, g2⟩; obtain ⟨o1, o2⟩ := KP.out p q hp hq; clear hp hq))
    go_ret
    exact ⟨rfl, (((Gr.refl _).alloc _).trans g1).trans g2⟩
  · have e : secI (sgI x) (sgI y) = 4 := by
      unfold secI
      repeat' split
      all_goals omega
    rw [e]
    rw [cmp_gt c, cmp_lt c] at KP
    clear cx cy c e h0 hx hy nx ny
    go_enter Try.func25, Try.ntmps25
    go_wp2_with (first
      | (go_at_call_of 55 x; refine (Hx _).out.mono ?_; rintro e w1 ⟨p, rfl, hp, g1⟩)
      | (go_at_call_of 55 y; refine (Hy _).out.mono ?_; rintro e w2 ⟨q, rfl, hq, g2⟩; obtain ⟨o1, o2⟩ := KP.out p q hp hq; clear hp hq))
    go_ret
    exact ⟨rfl, (((Gr.refl _).alloc _).trans g1).trans g2⟩
  · have e : secI (sgI x) (sgI y) = 2 := by
      unfold secI
      repeat' split
      all_goals omega
    rw [e]
    rw [cmp_lt c, cmp_gt c] at KP
    clear cx cy c e h0 hx hy nx ny
    go_enter Try.func25, Try.ntmps25
    go_wp2_with (first
      | (go_at_call_of 55 x; refine (Hx _).out.mono ?_; rintro e w1 ⟨p, rfl, hp, g1⟩)
      | (go_at_call_of 55 y; refine (Hy _).out.mono ?_; rintro e w2 ⟨q, rfl, hq, g2⟩; obtain ⟨o1, o2⟩ := KP.out p q hp hq; clear hp hq))
    go_ret
    exact ⟨rfl, (((Gr.refl _).alloc _).trans g1).trans g2⟩
  · have e : secI (sgI x) (sgI y) = 3 := by
      unfold secI
      repeat' split
      all_goals omega
    rw [e]
    rw [cmp_eq c, cmp_eq c.symm] at KP
    clear cx cy c e h0 hx hy nx ny
    go_enter Try.func25, Try.ntmps25
    go_wp2_with (first
      | (go_at_call_of 55 x; refine (Hx _).out.mono ?_; rintro e w1 ⟨p, rfl, hp, g1⟩)
      | (go_at_call_of 55 y; refine (Hy _).out.mono ?_; rintro e w2 ⟨q, rfl, hq, g2⟩; obtain ⟨o1, o2⟩ := KP.out p q hp hq; clear hp hq))
    go_ret
    exact ⟨rfl, (((Gr.refl _).alloc _).trans g1).trans g2⟩
  · have e : secI (sgI x) (sgI y) = 3 := by
      unfold secI
      repeat' split
      all_goals omega
    rw [e]
    rw [cmp_gt c, cmp_lt c] at KP
    clear cx cy c e h0 hx hy nx ny
    go_enter Try.func25, Try.ntmps25
    go_wp2_with (first
      | (go_at_call_of 55 x; refine (Hx _).out.mono ?_; rintro e w1 ⟨p, rfl, hp, g1⟩)
      | (go_at_call_of 55 y; refine (Hy _).out.mono ?_; rintro e w2 ⟨q, rfl, hq, g2⟩; obtain ⟨o1, o2⟩ := KP.out p q hp hq; clear hp hq))
    go_ret
    exact ⟨rfl, (((Gr.refl _).alloc _).trans g1).trans g2⟩
  · have e : secI (sgI x) (sgI y) = 6 := by
      unfold secI
      repeat' split
      all_goals omega
    rw [e]
    rw [cmp_lt c, cmp_gt c] at KP
    clear cx cy c e h0 hx hy nx ny
    go_enter Try.func25, Try.ntmps25
    go_wp2_with (first
      | (go_at_call_of 55 x; refine (Hx _).out.mono ?_; rintro e w1 ⟨p, rfl, hp, g1⟩)
      | (go_at_call_of 55 y; refine (Hy _).out.mono ?_; rintro e w2 ⟨q, rfl, hq, g2⟩; obtain ⟨o1, o2⟩ := KP.out p q hp hq; clear hp hq))
    go_ret
    exact ⟨rfl, (((Gr.refl _).alloc _).trans g1).trans g2⟩
  · have e : secI (sgI x) (sgI y) = 2 := by
      unfold secI
      repeat' split
      all_goals omega
    rw [e]
    rw [cmp_lt c, cmp_gt c] at KP
    clear cx cy c e h0 hx hy nx ny
    go_enter Try.func25, Try.ntmps25
    go_wp2_with (first
      | (go_at_call_of 55 x; refine (Hx _).out.mono ?_; rintro e w1 ⟨p, rfl, hp, g1⟩)
      | (go_at_call_of 55 y; refine (Hy _).out.mono ?_; rintro e w2 ⟨q, rfl, hq, g2⟩; obtain ⟨o1, o2⟩ := KP.out p q hp hq; clear hp hq))
    go_ret
    exact ⟨rfl, (((Gr.refl _).alloc _).trans g1).trans g2⟩
  · have e : secI (sgI x) (sgI y) = 6 := by
      unfold secI
      repeat' split
      all_goals omega
    rw [e]
    rw [cmp_lt c, cmp_gt c] at KP
    clear cx cy c e h0 hx hy nx ny
    go_enter Try.func25, Try.ntmps25
    go_wp2_with (first
      | (go_at_call_of 55 x; refine (Hx _).out.mono ?_; rintro e w1 ⟨p, rfl, hp, g1⟩)
      | (go_at_call_of 55 y; refine (Hy _).out.mono ?_; rintro e w2 ⟨q, rfl, hq, g2⟩; obtain ⟨o1, o2⟩ := KP.out p q hp hq; clear hp hq))
    go_ret
    exact ⟨rfl, (((Gr.refl _).alloc _).trans g1).trans g2⟩
  · have e : secI (sgI x) (sgI y) = 7 := by
      unfold secI
      repeat' split
      all_goals omega
    rw [e]
    rw [cmp_eq c, cmp_eq c.symm] at KP
    clear cx cy c e h0 hx hy nx ny
    go_enter Try.func25, Try.ntmps25
    go_wp2_with (first
      | (go_at_call_of 55 x; refine (Hx _).out.mono ?_; rintro e w1 ⟨p, rfl, hp, g1⟩)
      | (go_at_call_of 55 y; refine (Hy _).out.mono ?_; rintro e w2 ⟨q, rfl, hq, g2⟩; obtain ⟨o1, o2⟩ := KP.out p q hp hq; clear hp hq))
    go_ret
    exact ⟨rfl, (((Gr.refl _).alloc _).trans g1).trans g2⟩
  · have e : secI (sgI x) (sgI y) = 7 := by
      unfold secI
      repeat' split
      all_goals omega
    rw [e]
    rw [cmp_gt c, cmp_lt c] at KP
    clear cx cy c e h0 hx hy nx ny
    go_enter Try.func25, Try.ntmps25
    go_wp2_with (first
      | (go_at_call_of 55 x; refine (Hx _).out.mono ?_; rintro e w1 ⟨p, rfl, hp, g1⟩)
      | (go_at_call_of 55 y; refine (Hy _).out.mono ?_; rintro e w2 ⟨q, rfl, hq, g2⟩; obtain ⟨o1, o2⟩ := KP.out p q hp hq; clear hp hq))
    go_ret
    exact ⟨rfl, (((Gr.refl _).alloc _).trans g1).trans g2⟩
  · have e : secI (sgI x) (sgI y) = 0 := by
      unfold secI
      repeat' split
      all_goals omega
    rw [e]
    rw [cmp_gt c, cmp_lt c] at KP
    clear cx cy c e h0 hx hy nx ny
    go_enter Try.func25, Try.ntmps25
    go_wp2_with (first
      | (go_at_call_of 55 x; refine (Hx _).out.mono ?_; rintro e w1 ⟨p, rfl, hp, g1⟩)
      | (go_at_call_of 55 y; refine (Hy _).out.mono ?_; rintro e w2 ⟨q, rfl, hq, g2⟩; obtain ⟨o1, o2⟩ := KP.out p q hp hq; clear hp hq))
    go_ret
    exact ⟨rfl, (((Gr.refl _).alloc _).trans g1).trans g2⟩
  · have e : secI (sgI x) (sgI y) = 1 := by
      unfold secI
      repeat' split
      all_goals omega
    rw [e]
    rw [cmp_lt c, cmp_gt c] at KP
    clear cx cy c e h0 hx hy nx ny
    go_enter Try.func25, Try.ntmps25
    go_wp2_with (first
      | (go_at_call_of 55 x; refine (Hx _).out.mono ?_; rintro e w1 ⟨p, rfl, hp, g1⟩)
      | (go_at_call_of 55 y; refine (Hy _).out.mono ?_; rintro e w2 ⟨q, rfl, hq, g2⟩; obtain ⟨o1, o2⟩ := KP.out p q hp hq; clear hp hq))
    go_ret
    exact ⟨rfl, (((Gr.refl _).alloc _).trans g1).trans g2⟩
  · have e : secI (sgI x) (sgI y) = 1 := by
      unfold secI
      repeat' split
      all_goals omega
    rw [e]
    rw [cmp_eq c, cmp_eq c.symm] at KP
    clear cx cy c e h0 hx hy nx ny
    go_enter Try.func25, Try.ntmps25
    go_wp2_with (first
      | (go_at_call_of 55 x; refine (Hx _).out.mono ?_; rintro e w1 ⟨p, rfl, hp, g1⟩)
      | (go_at_call_of 55 y; refine (Hy _).out.mono ?_; rintro e w2 ⟨q, rfl, hq, g2⟩; obtain ⟨o1, o2⟩ := KP.out p q hp hq; clear hp hq))
    go_ret
    exact ⟨rfl, (((Gr.refl _).alloc _).trans g1).trans g2⟩
  · have e : secI (sgI x) (sgI y) = 0 := by
      unfold secI
      repeat' split
      all_goals omega
    rw [e]
    rw [cmp_gt c, cmp_lt c] at KP
    clear cx cy c e h0 hx hy nx ny
    go_enter Try.func25, Try.ntmps25
    go_wp2_with (first
      | (go_at_call_of 55 x; refine (Hx _).out.mono ?_; rintro e w1 ⟨p, rfl, hp, g1⟩)
      | (go_at_call_of 55 y; refine (Hy _).out.mono ?_; rintro e w2 ⟨q, rfl, hq, g2⟩; obtain ⟨o1, o2⟩ := KP.out p q hp hq; clear hp hq))
    go_ret
    exact ⟨rfl, (((Gr.refl _).alloc _).trans g1).trans g2⟩
theorem rsector_any {x y : Nat} (hx : x < 18446744073709551616) (hy : y < 18446744073709551616) (w : World) :
    Calls Try.prog 25 #[numV x y] w fun e w' => e = .returned (.int .i8 (secF x y)) ∧ Gr w w' := by
  unfold secF
  by_cases h : isN x ∨ isN y
  · rw [if_pos h]; exact rsector_none hx hy (.inl h) w
  · rw [if_neg h]
    have nx : ¬ isN x := fun n => h (.inl n)
    have ny : ¬ isN y := fun n => h (.inr n)
    by_cases h0 : sgI x = 0 ∧ sgI y = 0
    · rw [show secI (sgI x) (sgI y) = -1 from by rw [h0.1, h0.2]; decide]
      exact rsector_none hx hy (.inr ⟨nx, ny, h0.1, h0.2⟩) w
    · exact rsector_num hx hy nx ny h0 w
end Go.Proofs.Ytmjfphidcnjklaa
