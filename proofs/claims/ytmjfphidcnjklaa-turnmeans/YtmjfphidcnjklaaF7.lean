/- Contracts of both Backs. -/
import Derived.Test.YtmjfphidcnjklaaF6
set_option linter.unusedSimpArgs false
namespace Go.Proofs.Ytmjfphidcnjklaa
open Go.RowKit Go.Sort Ieee

/-! ### What is not finite stays so -/
theorem nb_read {a : Nat} (ha : a < 18446744073709551616) (h : bdd a = false) : (∃ s, double.read a = .infinity s) ∨ isN a := by
  unfold bdd at h
  have h' : ¬ a % 9223372036854775808 < 9218868437227405312 := by simpa using h
  by_cases n : isN a
  · exact .inr n
  · unfold isN at n
    rcases (show a = 9218868437227405312 ∨ a = 18442240474082181120 from by omega) with rfl | rfl
    · exact .inl ⟨false, read_inf false⟩
    · exact .inl ⟨true, read_inf true⟩
theorem nb_nan {a : Nat} (h : isN a) : bdd a = false := by unfold bdd; unfold isN at h; simp; omega
theorem nb_inf (s : Bool) : bdd (double.word s double.infRung) = false := by cases s <;> decide
theorem nb_fo {op : BinOp} {a b : Nat} (h : floatBits op .f64 a b = none ∨ ∃ s, floatBits op .f64 a b = some (double.word s double.infRung)) : bdd (fo op a b) = false := by
  unfold fo
  rcases h with h | ⟨s, h⟩
  · rw [h]; decide
  · rw [h]; exact nb_inf s
theorem nb_sq {a : Nat} (ha : a < 18446744073709551616) (h : bdd a = false) : bdd (fo .mul a a) = false := by
  refine nb_fo ?_
  rcases nb_read ha h with ⟨s, e⟩ | n
  · refine .inr ⟨s ^^ s, ?_⟩
    show Format.mul double a a = _
    unfold Format.mul
    rw [e]
    rfl
  · exact .inl (bits_nan_l _ _ n)
theorem nb_add_l {a : Nat} (b : Nat) (ha : a < 18446744073709551616) (h : bdd a = false) : bdd (fo .add a b) = false := by
  refine nb_fo ?_
  rcases nb_read ha h with ⟨s, e⟩ | n
  · show Format.add double a b = none ∨ ∃ s, Format.add double a b = some _
    unfold Format.add
    rw [e]
    cases hb : double.read b with
    | nan t u => exact .inl rfl
    | infinity t => cases s <;> cases t <;> first | exact .inl rfl | exact .inr ⟨_, rfl⟩
    | number t m k => exact .inr ⟨s, rfl⟩
  · exact .inl (bits_nan_l _ _ n)
theorem nb_add_r {b : Nat} (a : Nat) (hb : b < 18446744073709551616) (h : bdd b = false) : bdd (fo .add a b) = false := by
  refine nb_fo ?_
  rcases nb_read hb h with ⟨s, e⟩ | n
  · show Format.add double a b = none ∨ ∃ s, Format.add double a b = some _
    unfold Format.add
    rw [e]
    cases ha : double.read a with
    | nan t u => exact .inl rfl
    | infinity t => cases s <;> cases t <;> first | exact .inl rfl | exact .inr ⟨_, rfl⟩
    | number t m k => exact .inr ⟨s, rfl⟩
  · exact .inl (bits_nan_r _ _ n)
theorem sq_bdd {A B : Nat} (hA : A < 18446744073709551616) (hB : B < 18446744073709551616) (h : bdd (sqF A B) = true) : (bdd A && bdd B) = true := by
  cases a : bdd A with
  | false => rw [show bdd (sqF A B) = false from nb_add_l _ (fo_lt _ _ _) (nb_sq hA a)] at h; cases h
  | true =>
    cases b : bdd B with
    | false => rw [show bdd (sqF A B) = false from nb_add_r _ (fo_lt _ _ _) (nb_sq hB b)] at h; cases h
    | true => rfl

/-! ### Back -/
def zeB (x : Nat) : Bool := double.order x 0 == some .eq
theorem V.ze {a x : Nat} (h : V a x) : (FloatKind.f64.format.order a 0 == some .eq) = zeB x := by
  have := h.order (V.refl (a := 0) (by decide))
  show (double.order a 0 == some .eq) = _
  rw [this]
  rfl
def bkA (A B : Nat) : Nat := byRe 4607182418800017408 0 A B
def bkB (A B : Nat) : Nat := byIm 4607182418800017408 0 A B
def bkC (A B C D : Nat) : Nat := fo .sub 0 (tRe (bkA A B) (bkB A B) C D)
def bkD (A B C D : Nat) : Nat := fo .sub 0 (tIm (bkA A B) (bkB A B) C D)
def backOK (A B C D : Nat) : Bool := !zeB (sqF A B) && (bdd (sqF A B) && (bdd C && bdd D))
theorem v0 : V 0 0 := V.refl (by decide)
theorem v1 : V 4607182418800017408 4607182418800017408 := V.refl (by decide)

set_option maxRecDepth 20000 in
set_option maxHeartbeats 1600000 in
theorem back_not {a b c d A B C D : Nat} (ha : V a A) (hb : V b B) (hc : V c C) (hd : V d D) (hn : backOK A B C D = false) (w : World) :
    Calls Try.prog 19 #[simV a b c d] w fun e w' => e = .returned (.tuple #[simV 0 0 0 0, .int .i64 80]) ∧ Gr w w' := by
  have sc := run_store_c
  have F1 := fun w => hid' (square_any ha hb w)
  have F3 := fun w => hid' (finite_any hc hd w)
  have F2 : Hid (∀ d, V d (sqF A B) → ∀ w, Calls Try.prog 45 #[.float .f64 d] w fun e w' => e = .returned (.bool (bdd (sqF A B))) ∧ w' = w) := fun d h w => bounded_any h w
  have F4 : Hid (∀ d, V d (sqF A B) → (FloatKind.f64.format.order d 0 == some .eq) = zeB (sqF A B)) := fun d h => h.ze
  obtain ⟨kM, kR, g⟩ := two_new w 28 28 #[.complex .f64 a b, .complex .f64 c d] #[.complex .f64 0 0, .complex .f64 0 0]
  unfold backOK at hn
  generalize sqF A B = S at *
  generalize zeB S = Z at *
  generalize bdd S = B1 at *
  generalize (bdd C && bdd D) = B2 at *
  clear ha hb hc hd
  rcases (show Z = true ∨ (Z = false ∧ B1 = false) ∨ (Z = false ∧ B1 = true ∧ B2 = false) from by revert hn; cases Z <;> cases B1 <;> cases B2 <;> simp) with rfl | ⟨rfl, rfl⟩ | ⟨rfl, rfl, rfl⟩
  all_goals
    clear hn
    go_enter Try.func19, Try.ntmps19
    go_wp2_with fail
    refine (F1 _).out.mono ?_
    rintro e w1 ⟨x, rfl, hx, g1⟩
    have ez := F4.out x hx
    have E2 := hid' (F2.out x hx)
    replace g := g.trans g1
    obtain ⟨m0, m1, _, _⟩ := (kM.gr g1).two
    obtain ⟨q0, q1, q2, q3⟩ := (kR.gr g1).two
    clear g1 kM kR hx F2 F4 F1
    dsimp only
    go_wp2_with (first
      | (go_at_call 45; refine (E2.out _).mono ?_; rintro e w2 ⟨rfl, rfl⟩)
      | (go_at_call 46; refine (F3 _).out.mono ?_; rintro e w2 ⟨rfl, rfl⟩))
    refine bodyPost_ret (v := .tuple #[simV 0 0 0 0, .int .i64 80]) (by simp [results, Try.results19, go_sem, q0, q1]) rfl ⟨rfl, ?_⟩
    exact (g.setCell (by simp only []; omega) _).setCell (by simp only []; omega) _
set_option maxRecDepth 20000 in
set_option maxHeartbeats 1600000 in
theorem back_yes {a b c d A B C D : Nat} (ha : V a A) (hb : V b B) (hc : V c C) (hd : V d D) (hn : backOK A B C D = true) (w : World) :
    Calls Try.prog 19 #[simV a b c d] w fun e w' => ∃ p q r s, e = .returned (.tuple #[simV p q r s, .int .i64 0]) ∧ V p (bkA A B) ∧ V q (bkB A B) ∧ V r (bkC A B C D) ∧ V s (bkD A B C D) ∧ Gr w w' := by
  have sc := run_store_c
  have F1 := fun w => hid' (square_any ha hb w)
  have F3 := fun w => hid' (finite_any hc hd w)
  have F2 : Hid (∀ d, V d (sqF A B) → ∀ w, Calls Try.prog 45 #[.float .f64 d] w fun e w' => e = .returned (.bool (bdd (sqF A B))) ∧ w' = w) := fun d h w => bounded_any h w
  have F4 : Hid (∀ d, V d (sqF A B) → (FloatKind.f64.format.order d 0 == some .eq) = zeB (sqF A B)) := fun d h => h.ze
  have F5 := fun w => hid' (by_any v1 v0 ha hb w)
  have F6 : Hid (∀ p q, V p (bkA A B) → V q (bkB A B) → ∀ w, Calls Try.prog 41 #[.complex .f64 p q, .complex .f64 c d] w fun e w' => ∃ r s, e = .returned (.complex .f64 r s) ∧ V r (tRe (bkA A B) (bkB A B) C D) ∧ V s (tIm (bkA A B) (bkB A B) C D) ∧ Gr w w') := fun p q hp hq w => times_any hp hq hc hd w
  have hz := v0
  obtain ⟨kM, kR, g⟩ := two_new w 28 28 #[.complex .f64 a b, .complex .f64 c d] #[.complex .f64 0 0, .complex .f64 0 0]
  unfold backOK at hn
  generalize sqF A B = S at *
  generalize zeB S = Z at *
  generalize bdd S = B1 at *
  generalize (bdd C && bdd D) = B2 at *
  clear ha hb hc hd
  obtain ⟨rfl, rfl, rfl⟩ : Z = false ∧ B1 = true ∧ B2 = true := by revert hn; cases Z <;> cases B1 <;> cases B2 <;> simp
  clear hn
  go_enter Try.func19, Try.ntmps19
  go_wp2_with fail
  refine (F1 _).out.mono ?_
  rintro e w1 ⟨x, rfl, hx, g1⟩
  have ez := F4.out x hx
  have E2 := hid' (F2.out x hx)
  replace g := g.trans g1
  replace kM := kM.gr g1
  replace kR := kR.gr g1
  obtain ⟨m0, m1, _, _⟩ := kM.two
  clear g1 hx F2 F4 F1
  dsimp only
  go_wp2_with (first
    | (go_at_call 45; refine (E2.out _).mono ?_; rintro e w2 ⟨rfl, rfl⟩)
    | (go_at_call 46; refine (F3 _).out.mono ?_; rintro e w2 ⟨rfl, rfl⟩))
  refine (F5 _).out.mono ?_
  rintro e w3 ⟨p, q, rfl, hp, hq, g3⟩
  replace g := g.trans g3
  clear m0 m1
  obtain ⟨m0, m1, _, _⟩ := (kM.gr g3).two
  replace kR := kR.gr g3
  clear g3 kM F5 F3 E2 ez
  dsimp only
  go_wp2_with fail
  refine (F6.out p q hp hq _).mono ?_
  rintro e w4 ⟨r, s, rfl, hr, hs, g4⟩
  replace g := g.trans g4
  obtain ⟨q0, q1, q2, q3⟩ := (kR.gr g4).two
  clear g4 kR F6
  dsimp only
  go_wp2_with (refine wpList_cx _ rfl .sub (.inr rfl) _ _ rfl _ _ _ _ rfl rfl hz hz hr hs ?_; intro r2 s2 n h3 h4)
  refine bodyPost_ret (v := .tuple #[simV p q r2 s2, .int .i64 0]) (by simp [results, Try.results19, go_sem, q0, q1]) rfl ⟨_, _, _, _, rfl, hp, hq, h3, h4, ?_⟩
  exact ((g.drewN _).setCell (by simp only []; omega) _).setCell (by simp only []; omega) _
end Go.Proofs.Ytmjfphidcnjklaa
