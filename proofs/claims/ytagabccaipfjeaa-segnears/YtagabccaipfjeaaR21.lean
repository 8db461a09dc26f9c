/- Contract of the reference's Meet. -/
import Derived.Test.YtagabccaipfjeaaR20
namespace Go.Proofs.Ytagabccaipfjeaa
open Go.RowKit Go.Sort

set_option maxRecDepth 20000 in
set_option maxHeartbeats 4000000 in
theorem rmeet_cd (a b c : P2) (w : World) (la : lat a) (lb : lat b) (lc : lat c) (hab : a ≠ b) (h1 : crs a b c ≠ 0) : Calls Try.prog 7 #[ptv a, ptv b, ptv c, ptv c] w fun e w' => e = .returned (mtv mt0) ∧ Below w.heap.size w w' := by
  have IA : Hid (∀ W, Calls Try.prog 18 #[ptv a] W fun e w' => e = .returned (.bool true) ∧ Gr W w') := fun W => by have := rin_any a W; rw [(latP_iff a).mpr la] at this; exact this
  have IB : Hid (∀ W, Calls Try.prog 18 #[ptv b] W fun e w' => e = .returned (.bool true) ∧ Gr W w') := fun W => by have := rin_any b W; rw [(latP_iff b).mpr lb] at this; exact this
  have IC : Hid (∀ W, Calls Try.prog 18 #[ptv c] W fun e w' => e = .returned (.bool true) ∧ Gr W w') := fun W => by have := rin_any c W; rw [(latP_iff c).mpr lc] at this; exact this
  have TC := hid' (fun W => rturn_any a b c W la.ins lb.ins lc.ins)
  have hz : (cmpI (crs a b c) 0 == 0) = false := by simp; intro q; exact h1 ((cmpI_zero _ _).mp q)
  generalize cmpI (crs a b c) 0 = CX at *
  have hne := ne_eqB hab
  clear hab h1 la lb lc
  obtain ⟨ax, ay⟩ := a
  obtain ⟨bx, by_⟩ := b
  obtain ⟨cx, cy⟩ := c
  simp only at hne
  have S : Mq w (((((w.alloc (.cells #[.int .i32 ax, .int .i32 ay] 23)).alloc (.cells #[.int .i32 bx, .int .i32 by_] 23)).alloc (.cells #[.int .i32 cx, .int .i32 cy] 23)).alloc (.cells #[.int .i32 cx, .int .i32 cy] 23)).alloc (.cells #[.int .u8 0, .bool false, .int .i64 0, .int .i64 0, .int .i64 0, .int .i64 0] 30)) (ax, ay) (bx, by_) (cx, cy) (cx, cy) := Mq.new w ax ay bx by_ cx cy cx cy
  show Calls Try.prog 7 #[pt ax ay, pt bx by_, pt cx cy, pt cx cy] w _
  go_enter Try.func7, Try.ntmps7
  go_wp2_with fail
  refine (IA.out _).mono ?_
  generalize (((((w.alloc (.cells #[.int .i32 ax, .int .i32 ay] 23)).alloc (.cells #[.int .i32 bx, .int .i32 by_] 23)).alloc (.cells #[.int .i32 cx, .int .i32 cy] 23)).alloc (.cells #[.int .i32 cx, .int .i32 cy] 23)).alloc (.cells #[.int .u8 0, .bool false, .int .i64 0, .int .i64 0, .int .i64 0, .int .i64 0] 30)) = W at *
  rintro e w1 ⟨rfl, g1⟩
  replace S := S.mono g1.below
  clear g1
  have b0 := S.b.c0
  have b1 := S.b.c1
  go_wp2_with fail
  refine (IB.out _).mono ?_
  rintro e w2 ⟨rfl, g2⟩
  replace S := S.mono g2.below
  clear g2
  clear b0 b1
  have c0 := S.c.c0
  have c1 := S.c.c1
  go_wp2_with fail
  refine (IC.out _).mono ?_
  rintro e w3 ⟨rfl, g3⟩
  replace S := S.mono g3.below
  clear g3
  clear c0 c1
  have d0 := S.d.c0
  have d1 := S.d.c1
  go_wp2_with fail
  refine (IC.out _).mono ?_
  rintro e w4 ⟨rfl, g4⟩
  replace S := S.mono g4.below
  clear g4
  clear d0 d1
  rcases hne.out with k | ⟨k, k'⟩
  all_goals
    clear hne
    have a0 := S.a.c0
    have a1 := S.a.c1
    have b0 := S.b.c0
    have b1 := S.b.c1
    have c0 := S.c.c0
    have c1 := S.c.c1
    go_wp2_with fail
    refine (TC.out _).mono ?_
    rintro e w5 ⟨rfl, g5⟩
    replace S := S.mono g5
    clear g5
    clear a0 a1 b0 b1 c0 c1
    have c0 := S.c.c0
    have c1 := S.c.c1
    have d0 := S.d.c0
    have d1 := S.d.c1
    have r0 := S.r.c0
    have r1 := S.r.c1
    have r2 := S.r.c2
    have r3 := S.r.c3
    have r4 := S.r.c4
    have r5 := S.r.c5
    have rf := S.r.f
    have hb := S.g
    go_wp2
    refine bodyPost_ret (v := mtv mt0) (by simp [results, Try.results7, go_sem, r0, r1, r2, r3, r4, r5, mt0]) rfl ⟨rfl, ?_⟩
    exact (((((hb.setCell (by simp only []; omega) _).setCell (by simp only []; omega) _).setCell (by simp only []; omega) _).setCell (by simp only []; omega) _).setCell (by simp only []; omega) _).setCell (by simp only []; omega) _
set_option maxRecDepth 20000 in
set_option maxHeartbeats 4000000 in
theorem rmeet_two (a b c d : P2) (w : World) (la : lat a) (lb : lat b) (lc : lat c) (ld : lat d) (hab : a ≠ b) (hzz : ¬ (crs a b c = 0 ∧ crs a b d = 0)) (hcd : c ≠ d) : Calls Try.prog 7 #[ptv a, ptv b, ptv c, ptv d] w fun e w' => e = .returned (mtv (refCross (crW (c.1 - a.1) (c.2 - a.2) (d.1 - c.1) (d.2 - c.2)) (crW (c.1 - a.1) (c.2 - a.2) (b.1 - a.1) (b.2 - a.2)) (crW (b.1 - a.1) (b.2 - a.2) (d.1 - c.1) (d.2 - c.2)))) ∧ Below w.heap.size w w' := by
  have IA : Hid (∀ W, Calls Try.prog 18 #[ptv a] W fun e w' => e = .returned (.bool true) ∧ Gr W w') := fun W => by have := rin_any a W; rw [(latP_iff a).mpr la] at this; exact this
  have IB : Hid (∀ W, Calls Try.prog 18 #[ptv b] W fun e w' => e = .returned (.bool true) ∧ Gr W w') := fun W => by have := rin_any b W; rw [(latP_iff b).mpr lb] at this; exact this
  have IC : Hid (∀ W, Calls Try.prog 18 #[ptv c] W fun e w' => e = .returned (.bool true) ∧ Gr W w') := fun W => by have := rin_any c W; rw [(latP_iff c).mpr lc] at this; exact this
  have ID : Hid (∀ W, Calls Try.prog 18 #[ptv d] W fun e w' => e = .returned (.bool true) ∧ Gr W w') := fun W => by have := rin_any d W; rw [(latP_iff d).mpr ld] at this; exact this
  have TC := hid' (fun W => rturn_any a b c W la.ins lb.ins lc.ins)
  have TD := hid' (fun W => rturn_any a b d W la.ins lb.ins ld.ins)
  have hz : Hid ((cmpI (crs a b c) 0 == 0) = false ∨ ((cmpI (crs a b c) 0 == 0) = true ∧ (cmpI (crs a b d) 0 == 0) = false)) := by
    unfold Hid
    by_cases k : crs a b c = 0
    · right; exact ⟨by rw [k]; rfl, by simp; intro q; exact hzz ⟨k, (cmpI_zero _ _).mp q⟩⟩
    · left; simp; intro q; exact k ((cmpI_zero _ _).mp q)
  clear hzz
  generalize cmpI (crs a b c) 0 = CX at *
  generalize cmpI (crs a b d) 0 = DX at *
  have hne := ne_eqB hab
  have hnd := ne_eqB hcd
  have bd := den_bd la lb lc ld
  have e3 : crW (b.1 - a.1) (b.2 - a.2) (d.1 - c.1) (d.2 - c.2) = crs c d a - crs c d b := by unfold crW crs; grind
  rw [← e3] at bd
  clear e3 hab hcd
  have i1 := la.ins
  have i2 := lb.ins
  have i3 := lc.ins
  have i4 := ld.ins
  clear la lb lc ld
  obtain ⟨ax, ay⟩ := a
  obtain ⟨bx, by_⟩ := b
  obtain ⟨cx, cy⟩ := c
  obtain ⟨dx, dy⟩ := d
  obtain ⟨i1, j1⟩ := i1
  obtain ⟨i2, j2⟩ := i2
  obtain ⟨i3, j3⟩ := i3
  obtain ⟨i4, j4⟩ := i4
  simp only at i1 j1 i2 j2 i3 j3 i4 j4 hne hnd bd
  show Calls Try.prog 7 _ w fun e w' => e = .returned (mtv (refCross (crW (cx - ax) (cy - ay) (dx - cx) (dy - cy)) (crW (cx - ax) (cy - ay) (bx - ax) (by_ - ay)) (crW (bx - ax) (by_ - ay) (dx - cx) (dy - cy)))) ∧ Below w.heap.size w w'
  have CD : Hid (∀ W, Calls Try.prog 23 #[.int .i64 (bx - ax), .int .i64 (by_ - ay), .int .i64 (dx - cx), .int .i64 (dy - cy)] W fun e w' => ∃ z, e = .returned z ∧ Rt w' z (crW (bx - ax) (by_ - ay) (dx - cx) (dy - cy)) 1 9 ∧ Below W.heap.size W w') := fun W => cross_rt _ _ _ _ W (dif64 i2 i1) (dif64 j2 j1) (dif64 i4 i3) (dif64 j4 j3)
  have hw : ∀ x y, in32 x → in32 y → IntKind.i64.wrap (IntKind.i64.wrap x - IntKind.i64.wrap y) = x - y := fun x y h k => by rw [IntKind.wrap_i64, IntKind.wrap_i64, IntKind.wrap_i64]; unfold in32 at *; omega
  have CT : Hid (∀ W, Calls Try.prog 23 #[.int .i64 (IntKind.i64.wrap (IntKind.i64.wrap cx - IntKind.i64.wrap ax)), .int .i64 (IntKind.i64.wrap (IntKind.i64.wrap cy - IntKind.i64.wrap ay)), .int .i64 (dx - cx), .int .i64 (dy - cy)] W fun e w' => ∃ z, e = .returned z ∧ Rt w' z (crW (cx - ax) (cy - ay) (dx - cx) (dy - cy)) 1 9 ∧ Below W.heap.size W w') := fun W => by
    rw [hw _ _ i3 i1, hw _ _ j3 j1]
    exact cross_rt _ _ _ _ W (dif64 i3 i1) (dif64 j3 j1) (dif64 i4 i3) (dif64 j4 j3)
  have CS : Hid (∀ W, Calls Try.prog 23 #[.int .i64 (IntKind.i64.wrap (IntKind.i64.wrap cx - IntKind.i64.wrap ax)), .int .i64 (IntKind.i64.wrap (IntKind.i64.wrap cy - IntKind.i64.wrap ay)), .int .i64 (bx - ax), .int .i64 (by_ - ay)] W fun e w' => ∃ z, e = .returned z ∧ Rt w' z (crW (cx - ax) (cy - ay) (bx - ax) (by_ - ay)) 1 9 ∧ Below W.heap.size W w') := fun W => by
    rw [hw _ _ i3 i1, hw _ _ j3 j1]
    exact cross_rt _ _ _ _ W (dif64 i3 i1) (dif64 j3 j1) (dif64 i2 i1) (dif64 j2 j1)
  clear hw
  generalize crW (cx - ax) (cy - ay) (dx - cx) (dy - cy) = TN at *
  generalize crW (cx - ax) (cy - ay) (bx - ax) (by_ - ay) = SN at *
  generalize crW (bx - ax) (by_ - ay) (dx - cx) (dy - cy) = DEN at *
  have E0 : Hid (DEN = 0 → refCross TN SN DEN = mt0) := fun h => by unfold refCross; rw [if_pos h]
  have E : Hid (DEN ≠ 0 → refCross TN SN DEN = if sgN TN DEN < 0 ∨ sgN DEN DEN < sgN TN DEN ∨ sgN SN DEN < 0 ∨ sgN DEN DEN < sgN SN DEN then mt0 else (1, decide ((0 < sgN TN DEN ∧ sgN TN DEN < sgN DEN DEN) ∧ (0 < sgN SN DEN ∧ sgN SN DEN < sgN DEN DEN)), lowF (sgN TN DEN) (sgN DEN DEN), lowF (sgN TN DEN) (sgN DEN DEN))) := fun h => by unfold refCross; rw [if_neg h]
  have hDD : Hid (DEN ≠ 0 → 0 < sgN DEN DEN ∧ sgN DEN DEN ≤ 9223372036854775807) := fun h => by unfold sgN; split <;> omega
  generalize refCross TN SN DEN = res at *
  clear bd
  have S : Mq w (((((w.alloc (.cells #[.int .i32 ax, .int .i32 ay] 23)).alloc (.cells #[.int .i32 bx, .int .i32 by_] 23)).alloc (.cells #[.int .i32 cx, .int .i32 cy] 23)).alloc (.cells #[.int .i32 dx, .int .i32 dy] 23)).alloc (.cells #[.int .u8 0, .bool false, .int .i64 0, .int .i64 0, .int .i64 0, .int .i64 0] 30)) (ax, ay) (bx, by_) (cx, cy) (dx, dy) := Mq.new w ax ay bx by_ cx cy dx dy
  show Calls Try.prog 7 #[pt ax ay, pt bx by_, pt cx cy, pt dx dy] w _
  go_enter Try.func7, Try.ntmps7
  go_wp2_with fail
  refine (IA.out _).mono ?_
  generalize (((((w.alloc (.cells #[.int .i32 ax, .int .i32 ay] 23)).alloc (.cells #[.int .i32 bx, .int .i32 by_] 23)).alloc (.cells #[.int .i32 cx, .int .i32 cy] 23)).alloc (.cells #[.int .i32 dx, .int .i32 dy] 23)).alloc (.cells #[.int .u8 0, .bool false, .int .i64 0, .int .i64 0, .int .i64 0, .int .i64 0] 30)) = W at *
  rintro e w1 ⟨rfl, g1⟩
  replace S := S.mono g1.below
  clear g1
  have b0 := S.b.c0
  have b1 := S.b.c1
  go_wp2_with fail
  refine (IB.out _).mono ?_
  rintro e w2 ⟨rfl, g2⟩
  replace S := S.mono g2.below
  clear g2
  clear b0 b1
  have c0 := S.c.c0
  have c1 := S.c.c1
  go_wp2_with fail
  refine (IC.out _).mono ?_
  rintro e w3 ⟨rfl, g3⟩
  replace S := S.mono g3.below
  clear g3
  clear c0 c1
  have d0 := S.d.c0
  have d1 := S.d.c1
  go_wp2_with fail
  refine (ID.out _).mono ?_
  rintro e w4 ⟨rfl, g4⟩
  replace S := S.mono g4.below
  clear g4
  clear d0 d1
  rcases hne.out with k | ⟨k, k'⟩
  all_goals
    clear hne
    have a0 := S.a.c0
    have a1 := S.a.c1
    have b0 := S.b.c0
    have b1 := S.b.c1
    have c0 := S.c.c0
    have c1 := S.c.c1
    go_wp2_with fail
    refine (TC.out _).mono ?_
    rintro e w5 ⟨rfl, g5⟩
    replace S := S.mono g5
    dsimp only
    clear g5 a0 a1 b0 b1 c0 c1
    rcases hz.out with m | ⟨m, m'⟩
    · clear hz
      have c0 := S.c.c0
      have c1 := S.c.c1
      have d0 := S.d.c0
      have d1 := S.d.c1
      rcases hnd.out with n | ⟨n, n'⟩
      all_goals
        clear hnd
        go_upto_region 11 with fail
        exact meet_t5 w _ (w.heap.size + 1 + 1 + 1 + 1) res w.heap.size (w.heap.size + 1) (w.heap.size + 1 + 1) (w.heap.size + 1 + 1 + 1) ax ay bx by_ cx cy dx dy TN SN DEN (by omega) S.r S.g S.a S.b S.c S.d i1 j1 i2 j2 i3 j3 i4 j4 CD CT CS hDD E0 E _ rfl _ (by assumption)
    · clear hz
      have a0 := S.a.c0
      have a1 := S.a.c1
      have b0 := S.b.c0
      have b1 := S.b.c1
      have d0 := S.d.c0
      have d1 := S.d.c1
      go_wp2_with fail
      refine (TD.out _).mono ?_
      rintro e w6 ⟨rfl, g6⟩
      replace S := S.mono g6
      dsimp only
      clear g6 a0 a1 b0 b1 d0 d1
      have c0 := S.c.c0
      have c1 := S.c.c1
      have d0 := S.d.c0
      have d1 := S.d.c1
      rcases hnd.out with n | ⟨n, n'⟩
      all_goals
        clear hnd
        go_upto_region 11 with fail
        exact meet_t5 w _ (w.heap.size + 1 + 1 + 1 + 1) res w.heap.size (w.heap.size + 1) (w.heap.size + 1 + 1) (w.heap.size + 1 + 1 + 1) ax ay bx by_ cx cy dx dy TN SN DEN (by omega) S.r S.g S.a S.b S.c S.d i1 j1 i2 j2 i3 j3 i4 j4 CD CT CS hDD E0 E _ rfl _ (by assumption)
/-- Meet of the reference, of any points. -/
theorem rmeet_any (a b c d : P2) (w : World) : Calls Try.prog 7 #[ptv a, ptv b, ptv c, ptv d] w fun e w' => e = .returned (mtv (meetA a b c d)) ∧ Below w.heap.size w w' := by
  unfold meetA
  cases hA : latP a with
  | false => simpa using rmeet_offA a b c d w hA
  | true =>
  have la := (latP_iff a).mp hA
  cases hB : latP b with
  | false => simpa using rmeet_offB a b c d w la hB
  | true =>
  have lb := (latP_iff b).mp hB
  cases hC : latP c with
  | false => simpa using rmeet_offC a b c d w la lb hC
  | true =>
  have lc := (latP_iff c).mp hC
  cases hD : latP d with
  | false => simpa using rmeet_offD a b c d w la lb lc hD
  | true =>
  have ld := (latP_iff d).mp hD
  have e : (if (true && true && true && true) = true then meetM a b c d else mt0) = refM a b c d := by rw [refM_eq, ← meet_eq]; rfl
  rw [e]
  unfold refM
  by_cases h1 : a = b
  · subst h1
    rw [if_pos rfl]
    exact rmeet_pt a c d w la lc ld
  · rw [if_neg h1]
    by_cases h2 : crs a b c = 0 ∧ crs a b d = 0
    · rw [if_pos h2]
      exact rmeet_line a b c d w la lb lc ld h1 h2.1 h2.2
    · rw [if_neg h2]
      by_cases h3 : c = d
      · subst h3
        rw [if_pos rfl]
        exact rmeet_cd a b c w la lb lc h1 (fun q => h2 ⟨q, q⟩)
      · rw [if_neg h3]
        exact rmeet_two a b c d w la lb lc ld h1 h2 h3
end Go.Proofs.Ytagabccaipfjeaa
