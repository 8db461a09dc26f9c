/- The law TurnQuarters, walked. -/
import Derived.Test.YtmjfphidcnjklaaQd
set_option linter.unusedSimpArgs false
namespace Go.Proofs.Ytmjfphidcnjklaa
open Go.RowKit Go.Sort Ieee

set_option maxRecDepth 20000 in
set_option maxHeartbeats 6400000 in
theorem quarters_up (K bx by_ px py far : Int) (lbx : bx.natAbs ≤ 1073741824) (lby : by_.natAbs ≤ 1073741824) (lpx : px.natAbs ≤ 1073741823) (lpy : py.natAbs ≤ 1073741823) (hfar : in32 far) (w : World) :
    Calls Try.prog 7 #[.agg #[.int .i64 K, .int .i32 bx, .int .i32 by_, .int .i32 px, .int .i32 py, .int .i32 far, .bool true]] w fun e w' => e = .returned (.bool true) ∧ Gr w w' := by
  obtain ⟨a, b, α, β, hQ, QA⟩ := quarter_any K
  have i1 : in32 px := by unfold in32; omega
  have i2 : in32 py := by unfold in32; omega
  have d1 : decide (1073741824 < bx) = false := by simp; omega
  have d2 : decide (bx < -1073741824) = false := by simp; omega
  have d3 : decide (1073741824 < by_) = false := by simp; omega
  have d4 : decide (by_ < -1073741824) = false := by simp; omega
  have d5 : decide (1073741823 < px) = false := by simp; omega
  have d6 : decide (px < -1073741823) = false := by simp; omega
  have d7 : decide (1073741823 < py) = false := by simp; omega
  have d8 : decide (py < -1073741823) = false := by simp; omega
  have FBX : Fl (fi bx) bx := fi_fl (by omega)
  have FBY : Fl (fi by_) by_ := fi_fl (by omega)
  have FPX : Fl (fi px) px := fi_fl (by omega)
  have FPY : Fl (fi py) py := fi_fl (by omega)
  have BK := fun w => hid' (back_quarter hQ FBX FBY lbx lby w)
  have SM : Sw 1 1073741824 a b (fi bx) (fi by_) α β bx by_ := ⟨hQ.a, hQ.b, FBX, FBY, hQ.la, hQ.lb, lbx, lby⟩
  have A1 := fun w => hid' (apply_whole (C := 1073741823) SM FPX FPY lpx lpy (by decide) w)
  have m1 := mul_bd hQ.la lpx
  have m2 := mul_bd hQ.lb lpy
  have m3 := mul_bd hQ.la lpy
  have m4 := mul_bd hQ.lb lpx
  have A2 : Hid (∀ x y z t k l, Sw 1 2147483648 x y z t α (-β) (0 - (α * bx - -β * by_)) (0 - (α * by_ + -β * bx)) → (Fl k (α * px - β * py + bx) ∧ Fl l (α * py + β * px + by_)) → ∀ w, Calls Try.prog 13 #[simV x y z t, .complex .f64 k l] w fun e w' => ∃ i j, e = .returned (.complex .f64 i j) ∧ (Fl i px ∧ Fl j py) ∧ Gr w w') := fun x y z t k l h1 h2 w => by
    have := apply_whole (C := 4294967296) h1 h2.1 h2.2 (by omega) (by omega) (by decide) w
    have e1 : α * (α * px - β * py + bx) - -β * (α * py + β * px + by_) + (0 - (α * bx - -β * by_)) = px := by
      rcases hQ.q with ⟨h, k⟩ | ⟨h, k⟩ | ⟨h, k⟩ | ⟨h, k⟩ <;> subst h k <;> omega
    have e2 : α * (α * py + β * px + by_) + -β * (α * px - β * py + bx) + (0 - (α * by_ + -β * bx)) = py := by
      rcases hQ.q with ⟨h, k⟩ | ⟨h, k⟩ | ⟨h, k⟩ | ⟨h, k⟩ <;> subst h k <;> omega
    rw [e1, e2] at this
    exact this
  have PL := fun w => hid' (place_quarter hQ FBX FBY lbx lby i1 i2 w)
  have PQ := fun w => hid' (place_quarter (x := px) (y := far) hQ FBX FBY lbx lby i1 hfar w)
  have GP : Hid ((plI (α * px - β * py + bx) (α * py + β * px + by_)).2.2 = 0 → (plI (α * px - β * py + bx) (α * py + β * px + by_)).1 = α * px - β * py + bx ∧ (plI (α * px - β * py + bx) (α * py + β * px + by_)).2.1 = α * py + β * px + by_ ∧ (α * px - β * py + bx).natAbs ≤ 1073741823 ∧ (α * py + β * px + by_).natAbs ≤ 1073741823) := by
    show _ → _
    unfold plI
    split
    · split
      · intro _; exact ⟨rfl, rfl, by assumption, by assumption⟩
      · intro h; cases h
    · intro h; cases h
  have GQ : Hid ((plI (α * px - β * far + bx) (α * far + β * px + by_)).2.2 = 0 → (plI (α * px - β * far + bx) (α * far + β * px + by_)).1 = α * px - β * far + bx ∧ (plI (α * px - β * far + bx) (α * far + β * px + by_)).2.1 = α * far + β * px + by_ ∧ (α * px - β * far + bx).natAbs ≤ 1073741823 ∧ (α * far + β * px + by_).natAbs ≤ 1073741823) := by
    show _ → _
    unfold plI
    split
    · split
      · intro _; exact ⟨rfl, rfl, by assumption, by assumption⟩
      · intro h; cases h
    · intro h; cases h
  have FT : Hid (∀ rx ry sx sy : Int, far ≠ py → far.natAbs ≤ 1073741823 → rx = α * px - β * py + bx → ry = α * py + β * px + by_ → sx = α * px - β * far + bx → sy = α * far + β * px + by_ → rx.natAbs ≤ 1073741823 → ry.natAbs ≤ 1073741823 → sx.natAbs ≤ 1073741823 → sy.natAbs ≤ 1073741823 → ∀ w, Calls Try.prog 27 #[ptV px py, ptV px far, ptV rx ry, ptV sx sy] w fun e w' => ∃ x y z t, e = .returned (.tuple #[simV x y z t, .int .i64 0]) ∧ (Fl x α ∧ Fl y β ∧ Fl z bx ∧ Fl t by_) ∧ Gr w w') := fun rx ry sx sy hne lf e1 e2 e3 e4 l1 l2 l3 l4 w => fit_quarter hQ lpx lpy lpx lf (.inr ⟨rfl, hne⟩) e1 e2 e3 e4 l1 l2 l3 l4 w
  have SA : Hid (∀ x y z t, (Fl x α ∧ Fl y β ∧ Fl z bx ∧ Fl t by_) → ∀ w, Calls Try.prog 22 #[simV x y z t, simV a b (fi bx) (fi by_)] w fun e w' => e = .returned (.bool true) ∧ Gr w w') := fun x y z t h w => by
    have := same_any ⟨h.1.1.1, h.2.1.1.1, h.2.2.1.1.1, h.2.2.2.1.1⟩ ⟨hQ.a.1.1, hQ.b.1.1, FBX.1.1, FBY.1.1⟩ w
    rw [fl_alB h.1 hQ.a, fl_alB h.2.1 hQ.b, fl_alB h.2.2.1 FBX, fl_alB h.2.2.2 FBY] at this
    exact this
  have HP := hid' (And.intro FPX FPY)
  have HF := hid' hfar
  have QA' := fun w => hid' (QA w)
  generalize plI (α * px - β * py + bx) (α * py + β * px + by_) = P3 at *
  generalize plI (α * px - β * far + bx) (α * far + β * px + by_) = Q3 at *
  obtain ⟨rx, ry, E1⟩ := P3
  obtain ⟨sx, sy, E2⟩ := Q3
  dsimp only at PL PQ GP GQ
  obtain ⟨kX, kP, g⟩ := two_new w 82 57 #[.int .i64 K, .int .i32 bx, .int .i32 by_, .int .i32 px, .int .i32 py, .int .i32 far, .bool true] #[.int .i32 px, .int .i32 py]
  have kM := Bl.new ((w.alloc (.cells #[.int .i64 K, .int .i32 bx, .int .i32 by_, .int .i32 px, .int .i32 py, .int .i32 far, .bool true] 82)).alloc (.cells #[.int .i32 px, .int .i32 py] 57)) 28 #[.complex .f64 a b, .complex .f64 (fi bx) (fi by_)]
  have eM : ((w.alloc (.cells #[.int .i64 K, .int .i32 bx, .int .i32 by_, .int .i32 px, .int .i32 py, .int .i32 far, .bool true] 82)).alloc (.cells #[.int .i32 px, .int .i32 py] 57)).heap.size = w.heap.size + 1 + 1 := by simp
  rw [eM] at kM
  replace kX := kX.alloc (.cells #[.complex .f64 a b, .complex .f64 (fi bx) (fi by_)] 28)
  replace kP := kP.alloc (.cells #[.complex .f64 a b, .complex .f64 (fi bx) (fi by_)] 28)
  replace g := hid' (g.alloc (.cells #[.complex .f64 a b, .complex .f64 (fi bx) (fi by_)] 28))
  have sc := run_store_c
  have si := run_store_i
  clear QA hQ i1 i2 FBX FBY FPX FPY SM m1 m2 m3 m4 lbx lby lpx lpy hfar eM
  go_enter Try.func7, Try.ntmps7
  go_wp2_with (go_at_call 37; refine (QA' _).out.mono ?_; rintro e w' ⟨rfl, rfl⟩)
  refine (BK _).out.mono ?_
  rintro e w1 ⟨x1, y1, z1, t1, rfl, hS, g1⟩
  replace hS := hid' hS
  replace kX := (kX.gr g1).alloc (.cells #[.complex .f64 x1 y1, .complex .f64 z1 t1] 28)
  replace kP := (kP.gr g1).alloc (.cells #[.complex .f64 x1 y1, .complex .f64 z1 t1] 28)
  replace kM := (kM.gr g1).alloc (.cells #[.complex .f64 x1 y1, .complex .f64 z1 t1] 28)
  have kN := Bl.new w1 28 #[.complex .f64 x1 y1, .complex .f64 z1 t1]
  replace g := hid' ((g.out.trans g1).alloc (.cells #[.complex .f64 x1 y1, .complex .f64 z1 t1] 28))
  clear g1 BK d1 d2 d3 d4 d5 d6 d7 d8 QA'
  dsimp only
  obtain ⟨p0, p1, _, _⟩ := kP.two
  go_wp2_with fail
  generalize w1.alloc (.cells #[.complex .f64 x1 y1, .complex .f64 z1 t1] 28) = W at *
  generalize w1.heap.size = X1 at *
  obtain ⟨m0, m1⟩ := kM.two_gr
  obtain ⟨n0, n1⟩ := kN.two_gr
  go_region_held3 (Gr W)
    (first
      | exact (Gr.refl _).drew
      | exact Gr.trans (by assumption) (by assumption)
      | assumption)
    (first
      | (go_at_call_of 13 x1; refine (A2.out _ _ _ _ _ _ hS.out hk.out _).mono ?_; rintro e w3 ⟨i3, j3, rfl, hi, g3⟩; have o1 := fl_ord hi.1 HP.out.1; have o2 := fl_ord hi.2 HP.out.2)
      | (go_at_call_of 13 a; refine (A1 _).out.mono ?_; rintro e w2 ⟨k2, l2, rfl, hk, g2⟩; replace hk := hid' hk))
  rename_i hH
  replace kX := (kX.gr hH).alloc (.cells #[.int .i32 px, .int .i32 py] 57)
  have kq := Bl.new w3 57 #[.int .i32 px, .int .i32 py]
  have kP0 := kP.gr hH
  replace kP := (kP.gr hH).alloc (.cells #[.int .i32 px, .int .i32 far] 57)
  replace kM := (kM.gr hH).alloc (.cells #[.int .i32 px, .int .i32 far] 57)
  have kQ := Bl.new w3 57 #[.int .i32 px, .int .i32 far]
  replace g := hid' ((g.out.trans hH).alloc (.cells #[.int .i32 px, .int .i32 far] 57))
  clear p0 p1 m0 m1 n0 n1 g2 g3 hk hi hH hS kN A1 A2
  obtain ⟨p0, p1, _, _⟩ := kP0.two
  obtain ⟨p2, p3, _, _⟩ := kP.two
  obtain ⟨m0, m1, _, _⟩ := kM.two
  have c6 := kX.cell (i := 6) rfl
  go_wp2_with fail
  refine (PL _).out.mono ?_
  rintro e w4 ⟨rfl, g4⟩
  replace kP := (kP.gr g4).alloc (.cells #[.int .i32 rx, .int .i32 ry] 57)
  replace kM := (kM.gr g4).alloc (.cells #[.int .i32 rx, .int .i32 ry] 57)
  replace kQ := (kQ.gr g4).alloc (.cells #[.int .i32 rx, .int .i32 ry] 57)
  have kr := Bl.new w4 57 #[.int .i32 rx, .int .i32 ry]
  replace g := hid' ((g.out.trans g4).alloc (.cells #[.int .i32 rx, .int .i32 ry] 57))
  clear p0 p1 p2 p3 m0 m1 c6 g4 kX kP0 kq PL
  dsimp only
  obtain ⟨q0, q1, _, _⟩ := kQ.two
  obtain ⟨m0, m1, _, _⟩ := kM.two
  go_wp2_with fail
  refine (PQ _).out.mono ?_
  rintro e w5 ⟨rfl, g5⟩
  replace kP := (kP.gr g5).alloc (.cells #[.int .i32 sx, .int .i32 sy] 57)
  replace kM := (kM.gr g5).alloc (.cells #[.int .i32 sx, .int .i32 sy] 57)
  replace kQ := (kQ.gr g5).alloc (.cells #[.int .i32 sx, .int .i32 sy] 57)
  replace kr := (kr.gr g5).alloc (.cells #[.int .i32 sx, .int .i32 sy] 57)
  have ks := Bl.new w5 57 #[.int .i32 sx, .int .i32 sy]
  replace g := hid' ((g.out.trans g5).alloc (.cells #[.int .i32 sx, .int .i32 sy] 57))
  clear q0 q1 m0 m1 g5 PQ
  dsimp only
  obtain ⟨q0, q1, _, _⟩ := kQ.two
  obtain ⟨p0, p1, _, _⟩ := kP.two
  obtain ⟨r0, r1, _, _⟩ := kr.two
  obtain ⟨s0, s1, _, _⟩ := ks.two
  cases cB : (far == py) with
  | true =>
    clear GP GQ FT SA HP HF
    go_wp2_with (go_at_call 26; refine (lives_any _).mono ?_; rintro e w8 ⟨rfl, g8⟩)
    go_ret
    exact ⟨rfl, g.out.trans g8⟩
  | false =>
    cases c1 : decide (1073741823 < far) with
    | true =>
      clear GP GQ FT SA HP HF
      go_wp2_with (go_at_call 26; refine (lives_any _).mono ?_; rintro e w8 ⟨rfl, g8⟩)
      go_ret
      exact ⟨rfl, g.out.trans g8⟩
    | false =>
      cases c2 : decide (far < -1073741823) with
      | true =>
        clear GP GQ FT SA HP HF
        go_wp2_with (go_at_call 26; refine (lives_any _).mono ?_; rintro e w8 ⟨rfl, g8⟩)
        go_ret
        exact ⟨rfl, g.out.trans g8⟩
      | false =>
        by_cases e1 : E1 = 0
        · subst e1
          by_cases e2 : E2 = 0
          · subst e2
            have hne : far ≠ py := by rw [beq_eq_false_iff_ne] at cB; exact cB
            have lf : far.natAbs ≤ 1073741823 := by
              have h1 := of_decide_eq_false c1
              have h2 := of_decide_eq_false c2
              omega
            obtain ⟨f1, f2, f3, f4⟩ := GP.out rfl
            obtain ⟨f5, f6, f7, f8⟩ := GQ.out rfl
            have FF := fun w => hid' (FT.out rx ry sx sy hne lf f1 f2 f5 f6 (by rw [f1]; exact f3) (by rw [f2]; exact f4) (by rw [f5]; exact f7) (by rw [f6]; exact f8) w)
            clear GP GQ FT hne lf f1 f2 f3 f4 f5 f6 f7 f8 HP HF
            go_wp2_with fail
            refine (FF _).out.mono ?_
            rintro e w6 ⟨x6, y6, z6, t6, rfl, h6, g6⟩
            have SS := fun w => hid' (SA.out x6 y6 z6 t6 h6 w)
            replace kM := (kM.gr g6).alloc (.cells #[.complex .f64 x6 y6, .complex .f64 z6 t6] 28)
            have kF := Bl.new w6 28 #[.complex .f64 x6 y6, .complex .f64 z6 t6]
            replace g := hid' ((g.out.trans g6).alloc (.cells #[.complex .f64 x6 y6, .complex .f64 z6 t6] 28))
            clear q0 q1 p0 p1 r0 r1 s0 s1 g6 FF SA h6 kP kQ kr ks
            dsimp only
            obtain ⟨m0, m1, _, _⟩ := kM.two
            obtain ⟨n0, n1, _, _⟩ := kF.two
            go_wp2_with (first
              | (go_at_call 22; refine (SS _).out.mono ?_; rintro e w7 ⟨rfl, g7⟩)
              | (go_at_call 26; refine (lives_any _).mono ?_; rintro e w8 ⟨rfl, g8⟩))
            go_ret
            exact ⟨rfl, (g.out.trans g7).trans g8⟩
          · have e2' : (E2 == 0) = false := by simpa using e2
            clear GP GQ FT SA HP HF e2
            go_wp2_with (go_at_call 26; refine (lives_any _).mono ?_; rintro e w8 ⟨rfl, g8⟩)
            go_ret
            exact ⟨rfl, g.out.trans g8⟩
        · have e1' : (E1 == 0) = false := by simpa using e1
          clear GP GQ FT SA HP HF e1
          go_wp2_with (go_at_call 26; refine (lives_any _).mono ?_; rintro e w8 ⟨rfl, g8⟩)
          go_ret
          exact ⟨rfl, g.out.trans g8⟩
set_option maxRecDepth 20000 in
set_option maxHeartbeats 6400000 in
theorem quarters_side (K bx by_ px py far : Int) (lbx : bx.natAbs ≤ 1073741824) (lby : by_.natAbs ≤ 1073741824) (lpx : px.natAbs ≤ 1073741823) (lpy : py.natAbs ≤ 1073741823) (hfar : in32 far) (w : World) :
    Calls Try.prog 7 #[.agg #[.int .i64 K, .int .i32 bx, .int .i32 by_, .int .i32 px, .int .i32 py, .int .i32 far, .bool false]] w fun e w' => e = .returned (.bool true) ∧ Gr w w' := by
  obtain ⟨a, b, α, β, hQ, QA⟩ := quarter_any K
  have i1 : in32 px := by unfold in32; omega
  have i2 : in32 py := by unfold in32; omega
  have d1 : decide (1073741824 < bx) = false := by simp; omega
  have d2 : decide (bx < -1073741824) = false := by simp; omega
  have d3 : decide (1073741824 < by_) = false := by simp; omega
  have d4 : decide (by_ < -1073741824) = false := by simp; omega
  have d5 : decide (1073741823 < px) = false := by simp; omega
  have d6 : decide (px < -1073741823) = false := by simp; omega
  have d7 : decide (1073741823 < py) = false := by simp; omega
  have d8 : decide (py < -1073741823) = false := by simp; omega
  have FBX : Fl (fi bx) bx := fi_fl (by omega)
  have FBY : Fl (fi by_) by_ := fi_fl (by omega)
  have FPX : Fl (fi px) px := fi_fl (by omega)
  have FPY : Fl (fi py) py := fi_fl (by omega)
  have BK := fun w => hid' (back_quarter hQ FBX FBY lbx lby w)
  have SM : Sw 1 1073741824 a b (fi bx) (fi by_) α β bx by_ := ⟨hQ.a, hQ.b, FBX, FBY, hQ.la, hQ.lb, lbx, lby⟩
  have A1 := fun w => hid' (apply_whole (C := 1073741823) SM FPX FPY lpx lpy (by decide) w)
  have m1 := mul_bd hQ.la lpx
  have m2 := mul_bd hQ.lb lpy
  have m3 := mul_bd hQ.la lpy
  have m4 := mul_bd hQ.lb lpx
  have A2 : Hid (∀ x y z t k l, Sw 1 2147483648 x y z t α (-β) (0 - (α * bx - -β * by_)) (0 - (α * by_ + -β * bx)) → (Fl k (α * px - β * py + bx) ∧ Fl l (α * py + β * px + by_)) → ∀ w, Calls Try.prog 13 #[simV x y z t, .complex .f64 k l] w fun e w' => ∃ i j, e = .returned (.complex .f64 i j) ∧ (Fl i px ∧ Fl j py) ∧ Gr w w') := fun x y z t k l h1 h2 w => by
    have := apply_whole (C := 4294967296) h1 h2.1 h2.2 (by omega) (by omega) (by decide) w
    have e1 : α * (α * px - β * py + bx) - -β * (α * py + β * px + by_) + (0 - (α * bx - -β * by_)) = px := by
      rcases hQ.q with ⟨h, k⟩ | ⟨h, k⟩ | ⟨h, k⟩ | ⟨h, k⟩ <;> subst h k <;> omega
    have e2 : α * (α * py + β * px + by_) + -β * (α * px - β * py + bx) + (0 - (α * by_ + -β * bx)) = py := by
      rcases hQ.q with ⟨h, k⟩ | ⟨h, k⟩ | ⟨h, k⟩ | ⟨h, k⟩ <;> subst h k <;> omega
    rw [e1, e2] at this
    exact this
  have PL := fun w => hid' (place_quarter hQ FBX FBY lbx lby i1 i2 w)
  have PQ := fun w => hid' (place_quarter (x := far) (y := py) hQ FBX FBY lbx lby hfar i2 w)
  have GP : Hid ((plI (α * px - β * py + bx) (α * py + β * px + by_)).2.2 = 0 → (plI (α * px - β * py + bx) (α * py + β * px + by_)).1 = α * px - β * py + bx ∧ (plI (α * px - β * py + bx) (α * py + β * px + by_)).2.1 = α * py + β * px + by_ ∧ (α * px - β * py + bx).natAbs ≤ 1073741823 ∧ (α * py + β * px + by_).natAbs ≤ 1073741823) := by
    show _ → _
    unfold plI
    split
    · split
      · intro _; exact ⟨rfl, rfl, by assumption, by assumption⟩
      · intro h; cases h
    · intro h; cases h
  have GQ : Hid ((plI (α * far - β * py + bx) (α * py + β * far + by_)).2.2 = 0 → (plI (α * far - β * py + bx) (α * py + β * far + by_)).1 = α * far - β * py + bx ∧ (plI (α * far - β * py + bx) (α * py + β * far + by_)).2.1 = α * py + β * far + by_ ∧ (α * far - β * py + bx).natAbs ≤ 1073741823 ∧ (α * py + β * far + by_).natAbs ≤ 1073741823) := by
    show _ → _
    unfold plI
    split
    · split
      · intro _; exact ⟨rfl, rfl, by assumption, by assumption⟩
      · intro h; cases h
    · intro h; cases h
  have FT : Hid (∀ rx ry sx sy : Int, far ≠ px → far.natAbs ≤ 1073741823 → rx = α * px - β * py + bx → ry = α * py + β * px + by_ → sx = α * far - β * py + bx → sy = α * py + β * far + by_ → rx.natAbs ≤ 1073741823 → ry.natAbs ≤ 1073741823 → sx.natAbs ≤ 1073741823 → sy.natAbs ≤ 1073741823 → ∀ w, Calls Try.prog 27 #[ptV px py, ptV far py, ptV rx ry, ptV sx sy] w fun e w' => ∃ x y z t, e = .returned (.tuple #[simV x y z t, .int .i64 0]) ∧ (Fl x α ∧ Fl y β ∧ Fl z bx ∧ Fl t by_) ∧ Gr w w') := fun rx ry sx sy hne lf e1 e2 e3 e4 l1 l2 l3 l4 w => fit_quarter hQ lpx lpy lf lpy (.inl ⟨rfl, hne⟩) e1 e2 e3 e4 l1 l2 l3 l4 w
  have SA : Hid (∀ x y z t, (Fl x α ∧ Fl y β ∧ Fl z bx ∧ Fl t by_) → ∀ w, Calls Try.prog 22 #[simV x y z t, simV a b (fi bx) (fi by_)] w fun e w' => e = .returned (.bool true) ∧ Gr w w') := fun x y z t h w => by
    have := same_any ⟨h.1.1.1, h.2.1.1.1, h.2.2.1.1.1, h.2.2.2.1.1⟩ ⟨hQ.a.1.1, hQ.b.1.1, FBX.1.1, FBY.1.1⟩ w
    rw [fl_alB h.1 hQ.a, fl_alB h.2.1 hQ.b, fl_alB h.2.2.1 FBX, fl_alB h.2.2.2 FBY] at this
    exact this
  have HP := hid' (And.intro FPX FPY)
  have HF := hid' hfar
  have QA' := fun w => hid' (QA w)
  generalize plI (α * px - β * py + bx) (α * py + β * px + by_) = P3 at *
  generalize plI (α * far - β * py + bx) (α * py + β * far + by_) = Q3 at *
  obtain ⟨rx, ry, E1⟩ := P3
  obtain ⟨sx, sy, E2⟩ := Q3
  dsimp only at PL PQ GP GQ
  obtain ⟨kX, kP, g⟩ := two_new w 82 57 #[.int .i64 K, .int .i32 bx, .int .i32 by_, .int .i32 px, .int .i32 py, .int .i32 far, .bool false] #[.int .i32 px, .int .i32 py]
  have kM := Bl.new ((w.alloc (.cells #[.int .i64 K, .int .i32 bx, .int .i32 by_, .int .i32 px, .int .i32 py, .int .i32 far, .bool false] 82)).alloc (.cells #[.int .i32 px, .int .i32 py] 57)) 28 #[.complex .f64 a b, .complex .f64 (fi bx) (fi by_)]
  have eM : ((w.alloc (.cells #[.int .i64 K, .int .i32 bx, .int .i32 by_, .int .i32 px, .int .i32 py, .int .i32 far, .bool false] 82)).alloc (.cells #[.int .i32 px, .int .i32 py] 57)).heap.size = w.heap.size + 1 + 1 := by simp
  rw [eM] at kM
  replace kX := kX.alloc (.cells #[.complex .f64 a b, .complex .f64 (fi bx) (fi by_)] 28)
  replace kP := kP.alloc (.cells #[.complex .f64 a b, .complex .f64 (fi bx) (fi by_)] 28)
  replace g := hid' (g.alloc (.cells #[.complex .f64 a b, .complex .f64 (fi bx) (fi by_)] 28))
  have sc := run_store_c
  have si := run_store_i
  clear QA hQ i1 i2 FBX FBY FPX FPY SM m1 m2 m3 m4 lbx lby lpx lpy hfar eM
  go_enter Try.func7, Try.ntmps7
  go_wp2_with (go_at_call 37; refine (QA' _).out.mono ?_; rintro e w' ⟨rfl, rfl⟩)
  refine (BK _).out.mono ?_
  rintro e w1 ⟨x1, y1, z1, t1, rfl, hS, g1⟩
  replace hS := hid' hS
  replace kX := (kX.gr g1).alloc (.cells #[.complex .f64 x1 y1, .complex .f64 z1 t1] 28)
  replace kP := (kP.gr g1).alloc (.cells #[.complex .f64 x1 y1, .complex .f64 z1 t1] 28)
  replace kM := (kM.gr g1).alloc (.cells #[.complex .f64 x1 y1, .complex .f64 z1 t1] 28)
  have kN := Bl.new w1 28 #[.complex .f64 x1 y1, .complex .f64 z1 t1]
  replace g := hid' ((g.out.trans g1).alloc (.cells #[.complex .f64 x1 y1, .complex .f64 z1 t1] 28))
  clear g1 BK d1 d2 d3 d4 d5 d6 d7 d8 QA'
  dsimp only
  obtain ⟨p0, p1, _, _⟩ := kP.two
  go_wp2_with fail
  generalize w1.alloc (.cells #[.complex .f64 x1 y1, .complex .f64 z1 t1] 28) = W at *
  generalize w1.heap.size = X1 at *
  obtain ⟨m0, m1⟩ := kM.two_gr
  obtain ⟨n0, n1⟩ := kN.two_gr
  go_region_held3 (Gr W)
    (first
      | exact (Gr.refl _).drew
      | exact Gr.trans (by assumption) (by assumption)
      | assumption)
    (first
      | (go_at_call_of 13 x1; refine (A2.out _ _ _ _ _ _ hS.out hk.out _).mono ?_; rintro e w3 ⟨i3, j3, rfl, hi, g3⟩; have o1 := fl_ord hi.1 HP.out.1; have o2 := fl_ord hi.2 HP.out.2)
      | (go_at_call_of 13 a; refine (A1 _).out.mono ?_; rintro e w2 ⟨k2, l2, rfl, hk, g2⟩; replace hk := hid' hk))
  rename_i hH
  replace kX := (kX.gr hH).alloc (.cells #[.int .i32 px, .int .i32 py] 57)
  have kq := Bl.new w3 57 #[.int .i32 px, .int .i32 py]
  have kP0 := kP.gr hH
  replace kP := (kP.gr hH).alloc (.cells #[.int .i32 far, .int .i32 py] 57)
  replace kM := (kM.gr hH).alloc (.cells #[.int .i32 far, .int .i32 py] 57)
  have kQ := Bl.new w3 57 #[.int .i32 far, .int .i32 py]
  replace g := hid' ((g.out.trans hH).alloc (.cells #[.int .i32 far, .int .i32 py] 57))
  clear p0 p1 m0 m1 n0 n1 g2 g3 hk hi hH hS kN A1 A2
  obtain ⟨p0, p1, _, _⟩ := kP0.two
  obtain ⟨p2, p3, _, _⟩ := kP.two
  obtain ⟨m0, m1, _, _⟩ := kM.two
  have c6 := kX.cell (i := 6) rfl
  go_wp2_with fail
  refine (PL _).out.mono ?_
  rintro e w4 ⟨rfl, g4⟩
  replace kP := (kP.gr g4).alloc (.cells #[.int .i32 rx, .int .i32 ry] 57)
  replace kM := (kM.gr g4).alloc (.cells #[.int .i32 rx, .int .i32 ry] 57)
  replace kQ := (kQ.gr g4).alloc (.cells #[.int .i32 rx, .int .i32 ry] 57)
  have kr := Bl.new w4 57 #[.int .i32 rx, .int .i32 ry]
  replace g := hid' ((g.out.trans g4).alloc (.cells #[.int .i32 rx, .int .i32 ry] 57))
  clear p0 p1 p2 p3 m0 m1 c6 g4 kX kP0 kq PL
  dsimp only
  obtain ⟨q0, q1, _, _⟩ := kQ.two
  obtain ⟨m0, m1, _, _⟩ := kM.two
  go_wp2_with fail
  refine (PQ _).out.mono ?_
  rintro e w5 ⟨rfl, g5⟩
  replace kP := (kP.gr g5).alloc (.cells #[.int .i32 sx, .int .i32 sy] 57)
  replace kM := (kM.gr g5).alloc (.cells #[.int .i32 sx, .int .i32 sy] 57)
  replace kQ := (kQ.gr g5).alloc (.cells #[.int .i32 sx, .int .i32 sy] 57)
  replace kr := (kr.gr g5).alloc (.cells #[.int .i32 sx, .int .i32 sy] 57)
  have ks := Bl.new w5 57 #[.int .i32 sx, .int .i32 sy]
  replace g := hid' ((g.out.trans g5).alloc (.cells #[.int .i32 sx, .int .i32 sy] 57))
  clear q0 q1 m0 m1 g5 PQ
  dsimp only
  obtain ⟨q0, q1, _, _⟩ := kQ.two
  obtain ⟨p0, p1, _, _⟩ := kP.two
  obtain ⟨r0, r1, _, _⟩ := kr.two
  obtain ⟨s0, s1, _, _⟩ := ks.two
  cases cB : (far == px) with
  | true =>
    clear GP GQ FT SA HP HF
    go_wp2_with (go_at_call 26; refine (lives_any _).mono ?_; rintro e w8 ⟨rfl, g8⟩)
    go_ret
    exact ⟨rfl, g.out.trans g8⟩
  | false =>
    cases c1 : decide (1073741823 < far) with
    | true =>
      clear GP GQ FT SA HP HF
      go_wp2_with (go_at_call 26; refine (lives_any _).mono ?_; rintro e w8 ⟨rfl, g8⟩)
      go_ret
      exact ⟨rfl, g.out.trans g8⟩
    | false =>
      cases c2 : decide (far < -1073741823) with
      | true =>
        clear GP GQ FT SA HP HF
        go_wp2_with (go_at_call 26; refine (lives_any _).mono ?_; rintro e w8 ⟨rfl, g8⟩)
        go_ret
        exact ⟨rfl, g.out.trans g8⟩
      | false =>
        by_cases e1 : E1 = 0
        · subst e1
          by_cases e2 : E2 = 0
          · subst e2
            have hne : far ≠ px := by rw [beq_eq_false_iff_ne] at cB; exact cB
            have lf : far.natAbs ≤ 1073741823 := by
              have h1 := of_decide_eq_false c1
              have h2 := of_decide_eq_false c2
              omega
            obtain ⟨f1, f2, f3, f4⟩ := GP.out rfl
            obtain ⟨f5, f6, f7, f8⟩ := GQ.out rfl
            have FF := fun w => hid' (FT.out rx ry sx sy hne lf f1 f2 f5 f6 (by rw [f1]; exact f3) (by rw [f2]; exact f4) (by rw [f5]; exact f7) (by rw [f6]; exact f8) w)
            clear GP GQ FT hne lf f1 f2 f3 f4 f5 f6 f7 f8 HP HF
            go_wp2_with fail
            refine (FF _).out.mono ?_
            rintro e w6 ⟨x6, y6, z6, t6, rfl, h6, g6⟩
            have SS := fun w => hid' (SA.out x6 y6 z6 t6 h6 w)
            replace kM := (kM.gr g6).alloc (.cells #[.complex .f64 x6 y6, .complex .f64 z6 t6] 28)
            have kF := Bl.new w6 28 #[.complex .f64 x6 y6, .complex .f64 z6 t6]
            replace g := hid' ((g.out.trans g6).alloc (.cells #[.complex .f64 x6 y6, .complex .f64 z6 t6] 28))
            clear q0 q1 p0 p1 r0 r1 s0 s1 g6 FF SA h6 kP kQ kr ks
            dsimp only
            obtain ⟨m0, m1, _, _⟩ := kM.two
            obtain ⟨n0, n1, _, _⟩ := kF.two
            go_wp2_with (first
              | (go_at_call 22; refine (SS _).out.mono ?_; rintro e w7 ⟨rfl, g7⟩)
              | (go_at_call 26; refine (lives_any _).mono ?_; rintro e w8 ⟨rfl, g8⟩))
            go_ret
            exact ⟨rfl, (g.out.trans g7).trans g8⟩
          · have e2' : (E2 == 0) = false := by simpa using e2
            clear GP GQ FT SA HP HF e2
            go_wp2_with (go_at_call 26; refine (lives_any _).mono ?_; rintro e w8 ⟨rfl, g8⟩)
            go_ret
            exact ⟨rfl, g.out.trans g8⟩
        · have e1' : (E1 == 0) = false := by simpa using e1
          clear GP GQ FT SA HP HF e1
          go_wp2_with (go_at_call 26; refine (lives_any _).mono ?_; rintro e w8 ⟨rfl, g8⟩)
          go_ret
          exact ⟨rfl, g.out.trans g8⟩
end Go.Proofs.Ytmjfphidcnjklaa
