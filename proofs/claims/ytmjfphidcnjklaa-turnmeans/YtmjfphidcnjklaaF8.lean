/- Contracts of the reference's Back; of Unit and of what the law makes of words. -/
import Derived.Test.YtmjfphidcnjklaaF7
set_option linter.unusedSimpArgs false
namespace Go.Proofs.Ytmjfphidcnjklaa
open Go.RowKit Go.Sort Ieee

theorem S4.far {a0 a1 a2 a3 : Addr} {x0 x1 x2 x3 : Value} {W w : World} (h : S4 a0 a1 a2 a3 x0 x1 x2 x3 W w) {p : Addr} (h0 : p.block ≠ a0.block) (h1 : p.block ≠ a1.block) (h2 : p.block ≠ a2.block) (h3 : p.block ≠ a3.block) (hp : W.heap.size ≤ p.block) (z : Value) : S4 a0 a1 a2 a3 x0 x1 x2 x3 W (w.setCell p z) :=
  S4.set h (Ne.symm h0) (Ne.symm h1) (Ne.symm h2) (Ne.symm h3) hp z

set_option maxRecDepth 20000 in
set_option maxHeartbeats 1600000 in
theorem rback_not {a b c d A B C D : Nat} (ha : V a A) (hb : V b B) (hc : V c C) (hd : V d D) (hn : backOK A B C D = false) (w : World) :
    Calls Try.prog 20 #[mapV a b c d] w fun e w' => e = .returned (.tuple #[mapV 0 0 0 0, .int .i64 80]) ∧ Gr w w' := by
  have sf := run_store_f
  have F1 := fun w => hid' (rsquare_any ha hb w)
  have F0 := fun w => hid' (rfinite_any ha hb w)
  have F3 := fun w => hid' (rfinite_any hc hd w)
  have F2 : Hid (∀ d, V d (sqF A B) → ∀ w, Calls Try.prog 50 #[.float .f64 d] w fun e w' => e = .returned (.bool (bdd (sqF A B))) ∧ w' = w) := fun d h w => rbounded_any h w
  have F4 : Hid (∀ d, V d (sqF A B) → (FloatKind.f64.format.order d 0 == some .eq) = zeB (sqF A B)) := fun d h => h.ze
  obtain ⟨kM, kR, g⟩ := two_new w 35 35 #[.float .f64 a, .float .f64 b, .float .f64 c, .float .f64 d] #[.float .f64 0, .float .f64 0, .float .f64 0, .float .f64 0]
  unfold backOK at hn
  generalize sqF A B = S at *
  generalize zeB S = Z at *
  generalize bdd S = B1 at *
  generalize (bdd C && bdd D) = B2 at *
  generalize (bdd A && bdd B) = B0 at *
  clear ha hb hc hd
  rcases (show B0 = false ∨ (B0 = true ∧ B2 = false) ∨ (B0 = true ∧ B2 = true ∧ Z = true) ∨ (B0 = true ∧ B2 = true ∧ Z = false ∧ B1 = false) from by revert hn; cases Z <;> cases B1 <;> cases B2 <;> cases B0 <;> simp) with rfl | ⟨rfl, rfl⟩ | ⟨rfl, rfl, rfl⟩ | ⟨rfl, rfl, rfl, rfl⟩
  all_goals
    clear hn
    go_enter Try.func20, Try.ntmps20
    go_wp2_with fail
    refine (F1 _).out.mono ?_
    rintro e w1 ⟨x, rfl, hx, g1⟩
    have ez := F4.out x hx
    have E2 := hid' (F2.out x hx)
    replace g := g.trans g1
    replace kM := kM.gr g1
    replace kR := kR.gr g1
    obtain ⟨⟨m0, m1, m2, m3⟩, _⟩ := kM.four
    clear g1 hx F2 F4 F1
    dsimp only
    go_wp2_with fail
    refine (F0 _).out.mono ?_
    rintro e w2 ⟨rfl, g2⟩
    replace g := g.trans g2
    replace kM := kM.gr g2
    replace kR := kR.gr g2
    clear m0 m1 m2 m3
    obtain ⟨⟨m0, m1, m2, m3⟩, _⟩ := kM.four
    obtain ⟨⟨q0, q1, q2, q3⟩, p0, p1, p2, p3⟩ := kR.four
    clear g2 F0
    dsimp only
    go_wp2_with (first
      | (go_at_call 50; refine (E2.out _).mono ?_; rintro e w2 ⟨rfl, rfl⟩)
      | (go_at_call 49; refine (F3 _).out.mono ?_; rintro e w3 ⟨rfl, g3⟩; replace g := g.trans g3; replace kR := kR.gr g3; clear q0 q1 q2 q3 p0 p1 p2 p3; obtain ⟨⟨q0, q1, q2, q3⟩, p0, p1, p2, p3⟩ := kR.four))
    refine bodyPost_ret (v := .tuple #[mapV 0 0 0 0, .int .i64 80]) (by simp [results, Try.results20, go_sem, q0, q1, q2, q3]) rfl ⟨rfl, ?_⟩
    exact (((g.setCell (by simp only []; omega) _).setCell (by simp only []; omega) _).setCell (by simp only []; omega) _).setCell (by simp only []; omega) _
set_option maxRecDepth 20000 in
set_option maxHeartbeats 1600000 in
theorem rback_yes {a b c d A B C D : Nat} (ha : V a A) (hb : V b B) (hc : V c C) (hd : V d D) (hn : backOK A B C D = true) (w : World) :
    Calls Try.prog 20 #[mapV a b c d] w fun e w' => ∃ p q r s, e = .returned (.tuple #[mapV p q r s, .int .i64 0]) ∧ V p (bkA A B) ∧ V q (bkB A B) ∧ V r (bkC A B C D) ∧ V s (bkD A B C D) ∧ Gr w w' := by
  have sf := run_store_f
  have F1 := fun w => hid' (rsquare_any ha hb w)
  have F0 := fun w => hid' (rfinite_any ha hb w)
  have F3 := fun w => hid' (rfinite_any hc hd w)
  have F2 : Hid (∀ d, V d (sqF A B) → ∀ w, Calls Try.prog 50 #[.float .f64 d] w fun e w' => e = .returned (.bool (bdd (sqF A B))) ∧ w' = w) := fun d h w => rbounded_any h w
  have F4 : Hid (∀ d, V d (sqF A B) → (FloatKind.f64.format.order d 0 == some .eq) = zeB (sqF A B)) := fun d h => h.ze
  have F5 := fun w => hid' (rby_any v1 v0 ha hb w)
  have F6 : Hid (∀ p q, V p (bkA A B) → V q (bkB A B) → ∀ w, Calls Try.prog 43 #[numV p q, numV c d] w fun e w' => ∃ r s, e = .returned (numV r s) ∧ V r (tRe (bkA A B) (bkB A B) C D) ∧ V s (tIm (bkA A B) (bkB A B) C D) ∧ Gr w w') := fun p q hp hq w => rtimes_any hp hq hc hd w
  have F7 : Hid (∀ p q, V p (tRe (bkA A B) (bkB A B) C D) → V q (tIm (bkA A B) (bkB A B) C D) → ∀ w, Calls Try.prog 52 #[numV 0 0, numV p q] w fun e w' => ∃ r s, e = .returned (numV r s) ∧ V r (bkC A B C D) ∧ V s (bkD A B C D) ∧ Gr w w') := fun p q hp hq w => rminus_any v0 v0 hp hq w
  obtain ⟨kM, kR, g⟩ := two_new w 35 35 #[.float .f64 a, .float .f64 b, .float .f64 c, .float .f64 d] #[.float .f64 0, .float .f64 0, .float .f64 0, .float .f64 0]
  unfold backOK at hn
  have hF : bdd (sqF A B) = true → (bdd A && bdd B) = true := sq_bdd ha.2.1 hb.2.1
  generalize sqF A B = S at *
  generalize zeB S = Z at *
  generalize bdd S = B1 at *
  generalize (bdd C && bdd D) = B2 at *
  generalize (bdd A && bdd B) = B0 at *
  clear ha hb hc hd
  obtain ⟨rfl, rfl, rfl⟩ : Z = false ∧ B1 = true ∧ B2 = true := by revert hn; cases Z <;> cases B1 <;> cases B2 <;> simp
  obtain rfl := hF rfl
  clear hn hF
  go_enter Try.func20, Try.ntmps20
  go_wp2_with fail
  refine (F1 _).out.mono ?_
  rintro e w1 ⟨x, rfl, hx, g1⟩
  have ez := F4.out x hx
  have E2 := hid' (F2.out x hx)
  replace g := g.trans g1
  replace kM := kM.gr g1
  replace kR := kR.gr g1
  obtain ⟨⟨m0, m1, m2, m3⟩, _⟩ := kM.four
  clear g1 hx F2 F4 F1
  dsimp only
  go_wp2_with fail
  refine (F0 _).out.mono ?_
  rintro e w2 ⟨rfl, g2⟩
  replace g := g.trans g2
  replace kM := kM.gr g2
  replace kR := kR.gr g2
  clear m0 m1 m2 m3
  obtain ⟨⟨m0, m1, m2, m3⟩, _⟩ := kM.four
  clear g2 F0
  dsimp only
  go_wp2_with (first
    | (go_at_call 50; refine (E2.out _).mono ?_; rintro e w2 ⟨rfl, rfl⟩)
    | (go_at_call 49; refine (F3 _).out.mono ?_; rintro e w3 ⟨rfl, g3⟩; replace g := g.trans g3; replace kR := kR.gr g3; replace kM := kM.gr g3; clear m0 m1 m2 m3 g3; obtain ⟨⟨m0, m1, m2, m3⟩, _⟩ := kM.four))
  refine (F5 _).out.mono ?_
  rintro e w4 ⟨p, q, rfl, hp, hq, g4⟩
  replace g := g.trans g4
  replace kM := (kM.gr g4).alloc (.cells #[.float .f64 p, .float .f64 q] 33)
  have hl := (kR.gr g4).lt
  replace kR := (kR.gr g4).alloc (.cells #[.float .f64 p, .float .f64 q] 33)
  have kT := Bl.new w4 33 #[.float .f64 p, .float .f64 q]
  replace g := hid' (g.alloc (.cells #[.float .f64 p, .float .f64 q] 33))
  clear m0 m1 m2 m3 g4
  clear F5 F3 E2 ez
  dsimp only
  go_wp2_with fail
  generalize w4.alloc (.cells #[.float .f64 p, .float .f64 q] 33) = W5 at *
  generalize w4.heap.size = Y at *
  obtain ⟨⟨m0, m1, m2, m3⟩, _⟩ := kM.four
  obtain ⟨n0, n1, _, _⟩ := kT.two
  go_region_held3 (S4 ⟨w.heap.size, 2, none⟩ ⟨w.heap.size, 3, none⟩ ⟨Y, 0, none⟩ ⟨Y, 1, none⟩ (.float .f64 c) (.float .f64 d) (.float .f64 p) (.float .f64 q) w)
    (first
      | exact ⟨m2, m3, n0, n1, g.out.drew⟩
      | exact S4.call (by assumption) (by assumption)
      | (refine S4.far (S4.far (S4.far (S4.far ?_ ?_ ?_ ?_ ?_ ?_ _) ?_ ?_ ?_ ?_ ?_ _) ?_ ?_ ?_ ?_ ?_ _) ?_ ?_ ?_ ?_ ?_ _ <;> first | assumption | (simp only []; omega)))
    (first
      | (go_at_call 43; refine (F6.out p q hp hq _).mono ?_; rintro e w5 ⟨r, s, rfl, hr, hs, g5⟩; replace kR := (kR.drewN 1).gr g5)
      | (go_at_call 52; refine (F7.out r s hr hs _).mono ?_; rintro e w6 ⟨r2, s2, rfl, h3, h4, g6⟩; replace kR := kR.gr g6; obtain ⟨⟨q0, q1, q2, q3⟩, p0, p1, p2, p3⟩ := kR.four))
  rename_i hH
  have gg := hH.2.2.2.2
  go_wp2
  refine bodyPost_ret (v := .tuple #[mapV p q r2 s2, .int .i64 0]) (by simp [results, Try.results20, go_sem, q0, q1, q2, q3]) rfl ⟨_, _, _, _, rfl, hp, hq, h3, h4, gg⟩
theorem unit_any (w : World) : Calls Try.prog 21 #[] w fun e w' => e = .returned (simV 4607182418800017408 0 0 0) ∧ Gr w w' := by
  have sc := run_store_c
  go_enter Try.func21, Try.ntmps21
  go_wp2
  refine bodyPost_ret (v := simV 4607182418800017408 0 0 0) (by simp [results, Try.results21, go_sem]) rfl ⟨rfl, ?_⟩
  exact (Gr.refl w).alloc _
theorem of_any (a b : Nat) (w : World) : Calls Try.prog 10 #[.int .u64 (a : Int), .int .u64 (b : Int)] w fun e w' => e = .returned (.complex .f64 a b) ∧ w' = w := by
  go_enter Try.func10, Try.ntmps10
  go_wp2_with (simp only [run39])
  go_ret
  exact ⟨rfl, rfl⟩
theorem of_gr (a b : Nat) (w : World) : Calls Try.prog 10 #[.int .u64 (a : Int), .int .u64 (b : Int)] w fun e w' => e = .returned (.complex .f64 a b) ∧ Gr w w' :=
  (of_any a b w).mono fun _ _ ⟨h1, h2⟩ => ⟨h1, h2 ▸ Gr.refl _⟩
set_option maxRecDepth 20000 in
set_option maxHeartbeats 1600000 in
theorem similar_any (a b c d : Nat) (w : World) :
    Calls Try.prog 9 #[.agg #[.int .u64 (a : Int), .int .u64 (b : Int), .int .u64 (c : Int), .int .u64 (d : Int)]] w fun e w' => e = .returned (simV a b c d) ∧ Gr w w' := by
  obtain ⟨kM, kR, g⟩ := two_new w 24 28 #[.int .u64 (a : Int), .int .u64 (b : Int), .int .u64 (c : Int), .int .u64 (d : Int)] #[.complex .f64 0 0, .complex .f64 0 0]
  replace g := hid' g
  have sc := run_store_c
  go_enter Try.func9, Try.ntmps9
  go_wp2_with fail
  generalize (w.alloc (.cells #[.int .u64 (a : Int), .int .u64 (b : Int), .int .u64 (c : Int), .int .u64 (d : Int)] 24)).alloc (.cells #[.complex .f64 0 0, .complex .f64 0 0] 28) = W1 at *
  obtain ⟨⟨m0, m1, m2, m3⟩, _⟩ := kM.four
  go_region_held3 (S4 ⟨w.heap.size, 0, none⟩ ⟨w.heap.size, 1, none⟩ ⟨w.heap.size, 2, none⟩ ⟨w.heap.size, 3, none⟩ (.int .u64 (a : Int)) (.int .u64 (b : Int)) (.int .u64 (c : Int)) (.int .u64 (d : Int)) w)
    (first
      | exact ⟨m0, m1, m2, m3, g.out.drew⟩
      | exact S4.call (by assumption) (by assumption)
      | (refine S4.far (S4.far ?_ ?_ ?_ ?_ ?_ ?_ _) ?_ ?_ ?_ ?_ ?_ _ <;> first | assumption | (simp only []; omega)))
    (first
      | (go_at_call_of 10 c; refine (of_gr c d _).mono ?_; rintro e w2 ⟨rfl, g2⟩; replace kR := kR.gr g2; obtain ⟨q0, q1, q2, q3⟩ := kR.two)
      | (go_at_call_of 10 a; refine (of_gr a b _).mono ?_; rintro e w1 ⟨rfl, g1⟩; replace kR := (kR.drewN 1).gr g1))
  rename_i hH
  have gg := hH.2.2.2.2
  go_wp2
  refine bodyPost_ret (v := simV a b c d) (by simp [results, Try.results9, go_sem, q0, q1]) rfl ⟨rfl, gg⟩
end Go.Proofs.Ytmjfphidcnjklaa
