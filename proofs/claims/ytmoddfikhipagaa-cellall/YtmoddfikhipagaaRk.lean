/- The reference's Count. -/
import Derived.Test.YtmoddfikhipagaaCw
import Derived.Test.YtmoddfikhipagaaRs
set_option linter.unusedSimpArgs false
set_option linter.unusedVariables false
namespace Go.Proofs.Ytmoddfikhipagaa
open Go.RowKit Go.Sort Go.Shelf
attribute [local go_sem] Oper.semAt_some wide_fn
attribute [local simp] wide_fn

set_option maxHeartbeats 4000000 in
theorem rcount_no (a b c d s : Int) (w : World) (hok : (szB s && rtB a b c d) = false) :
    Calls Try.prog 12 #[bx a b c d, .int .i64 s] w fun e w' => e = .returned (.int .i64 0) ∧ Gr w w' := by
  have S1 := hid0 (fits_any s)
  have S2 := hid0 (right_any a b c d)
  generalize szB s = b1 at *
  generalize rtB a b c d = b2 at *
  have kb := Bk.new w 25 [.int .i32 a, .int .i32 b, .int .i32 c, .int .i32 d]
  have gW : Gr w (w.alloc (.cells #[.int .i32 a, .int .i32 b, .int .i32 c, .int .i32 d] 25)) := (Gr.refl _).alloc _
  go_enter Try.func12, Try.ntmps12
  go_upto_region 1 with fail
  generalize w.alloc (.cells #[.int .i32 a, .int .i32 b, .int .i32 c, .int .i32 d] 25) = W0 at *
  obtain ⟨p0, p1, p2, p3⟩ := kb.four
  cases b1
  · go_wp2_with (go_at_call 24; refine (S1.out _).mono ?_; rintro e w1 ⟨rfl, rfl⟩; clear S1)
    go_ret
    exact ⟨rfl, gW⟩
  · cases b2
    · go_wp2_with (first
        | (go_at_call 24; refine (S1.out _).mono ?_; rintro e w1 ⟨rfl, rfl⟩; clear S1)
        | (go_at_call 35; refine (S2.out _).mono ?_; rintro e W ⟨rfl, g2⟩; clear S2))
      go_ret
      exact ⟨rfl, gW.trans g2⟩
    · cases hok

set_option maxRecDepth 20000 in
set_option maxHeartbeats 4000000 in
theorem rcount_yes (a b c d s X Y Z U R : Int) (w : World)
    (S1 : Hid (∀ w, Calls Try.prog 24 #[.int .i64 s] w fun e w' => e = .returned (.bool true) ∧ w' = w)) (S2 : Hid (∀ w, Calls Try.prog 35 #[bx a b c d] w fun e w' => e = .returned (.bool true) ∧ Gr w w'))
    (Fa : Hid (∀ w, Calls Try.prog 32 #[.int .i64 a, .int .i64 s] w fun e w' => e = .returned (.int .i64 X) ∧ w' = w))
    (Fb : Hid (∀ w, Calls Try.prog 32 #[.int .i64 b, .int .i64 s] w fun e w' => e = .returned (.int .i64 Y) ∧ w' = w))
    (Fc : Hid (∀ w, Calls Try.prog 32 #[.int .i64 c, .int .i64 s] w fun e w' => e = .returned (.int .i64 Z) ∧ w' = w))
    (Fd : Hid (∀ w, Calls Try.prog 32 #[.int .i64 d, .int .i64 s] w fun e w' => e = .returned (.int .i64 U) ∧ w' = w))
    (x1 : wrap64 a = a) (x2 : wrap64 b = b) (x3 : wrap64 c = c) (x4 : wrap64 d = d) (y1 : wrap64 (Z - X) = Z - X) (y2 : wrap64 (U - Y) = U - Y) (y3 : wrap64 (Z - X + 1) = Z - X + 1) (y4 : wrap64 (U - Y + 1) = U - Y + 1) (y5 : wrap64 ((Z - X + 1) * (U - Y + 1)) = R) :
    Calls Try.prog 12 #[bx a b c d, .int .i64 s] w fun e w' => e = .returned (.int .i64 R) ∧ Gr w w' := by
  have kb := Bk.new w 25 [.int .i32 a, .int .i32 b, .int .i32 c, .int .i32 d]
  have gW : Gr w (w.alloc (.cells #[.int .i32 a, .int .i32 b, .int .i32 c, .int .i32 d] 25)) := (Gr.refl _).alloc _
  go_enter Try.func12, Try.ntmps12
  go_upto_region 1 with fail
  generalize w.alloc (.cells #[.int .i32 a, .int .i32 b, .int .i32 c, .int .i32 d] 25) = W0 at *
  obtain ⟨p0, p1, p2, p3⟩ := kb.four
  go_upto_region 3 with (first
    | (go_at_call 24; refine (S1.out _).mono ?_; rintro e w1 ⟨rfl, rfl⟩; clear S1)
    | (go_at_call 35; refine (S2.out _).mono ?_; rintro e W ⟨rfl, g2⟩; clear S2))
  replace kb := kb.gr g2
  replace gW := gW.trans g2
  clear p0 p1 p2 p3 g2
  generalize hB : w.heap.size = B at *
  clear hB
  obtain ⟨p0, p1, p2, p3⟩ := kb.four
  have Q1 : Hid (∀ n, Calls Try.prog 32 #[.int .i64 c, .int .i64 s] (W.drewN n) fun e w' => e = .returned (.int .i64 Z) ∧ ∃ n', w' = W.drewN n') := fun n => (Fc.out _).mono fun e w' h => ⟨h.1, n, h.2⟩
  have Q2 : Hid (∀ n, Calls Try.prog 32 #[.int .i64 a, .int .i64 s] (W.drewN n) fun e w' => e = .returned (.int .i64 X) ∧ ∃ n', w' = W.drewN n') := fun n => (Fa.out _).mono fun e w' h => ⟨h.1, n, h.2⟩
  obtain ⟨nF, hnF⟩ : ∃ nF : Nat, 5 ≤ nF := ⟨5, by omega⟩
  have hn1 : 1 ≤ nF - 1 := by omega
  refine (wpIn_wide (n := nF)).1 ?_
  refine region_head_lit 14 (by kernel_rfl) (by kernel_rfl) (by simp) (by kernel_rfl) ?_
  simp only [List.take_succ_cons, List.take_zero, List.drop_succ_cons, List.drop_zero]
  iterate 5 gi_big_quiet_step (fail)
  refine BigFrame.wpQuietIn_want (by intro w _ f hf; exact trivial) (by rfl) ?_
  intro K hK
  gi_big_quiet_op
  gi_big_quiet_call (exact ⟨fun _ => by omega, callsIn_wide.2 (Q1.out _)⟩)
  iterate 5 gi_big_quiet_step (fail)
  refine BigFrame.wpQuietIn_want (by intro w _ f hf; exact trivial) (by rfl) ?_
  intro K hK
  gi_big_quiet_op
  gi_big_quiet_call (exact ⟨fun _ => by omega, callsIn_wide.2 (Q2.out _)⟩)
  gi_big_quiet_step (fail)
  gi_big_quiet_step (fail)
  refine wpQuietIn_nil ?_
  intro _ hw'
  obtain ⟨nq, hw''⟩ := hw'
  subst hw''
  clear Q1 Q2 p0 p1 p2 p3
  replace kb := kb.gr ((Gr.refl _).drewN nq)
  replace gW := gW.trans ((Gr.refl _).drewN nq)
  generalize W.drewN nq = W2 at *
  clear W
  obtain ⟨p0, p1, p2, p3⟩ := kb.four
  gi_upto_region 4 with fail
  go_upto_region 4 with fail
  have Q1 : Hid (∀ n, Calls Try.prog 32 #[.int .i64 d, .int .i64 s] (W2.drewN n) fun e w' => e = .returned (.int .i64 U) ∧ ∃ n', w' = W2.drewN n') := fun n => (Fd.out _).mono fun e w' h => ⟨h.1, n, h.2⟩
  have Q2 : Hid (∀ n, Calls Try.prog 32 #[.int .i64 b, .int .i64 s] (W2.drewN n) fun e w' => e = .returned (.int .i64 Y) ∧ ∃ n', w' = W2.drewN n') := fun n => (Fb.out _).mono fun e w' h => ⟨h.1, n, h.2⟩
  refine (wpIn_wide (n := nF)).1 ?_
  refine region_head_lit 14 (by kernel_rfl) (by kernel_rfl) (by simp) (by kernel_rfl) ?_
  simp only [List.take_succ_cons, List.take_zero, List.drop_succ_cons, List.drop_zero]
  iterate 5 gi_big_quiet_step (fail)
  refine BigFrame.wpQuietIn_want (by intro w _ f hf; exact trivial) (by rfl) ?_
  intro K hK
  gi_big_quiet_op
  gi_big_quiet_call (exact ⟨fun _ => by omega, callsIn_wide.2 (Q1.out _)⟩)
  iterate 5 gi_big_quiet_step (fail)
  refine BigFrame.wpQuietIn_want (by intro w _ f hf; exact trivial) (by rfl) ?_
  intro K hK
  gi_big_quiet_op
  gi_big_quiet_call (exact ⟨fun _ => by omega, callsIn_wide.2 (Q2.out _)⟩)
  gi_big_quiet_step (fail)
  gi_big_quiet_step (fail)
  refine wpQuietIn_nil ?_
  intro _ hw'
  obtain ⟨nq, hw''⟩ := hw'
  subst hw''
  replace gW := gW.trans ((Gr.refl _).drewN nq)
  generalize W2.drewN nq = W3 at *
  gi_wp2
  go_wp2
  go_ret
  exact ⟨by rw [← y5]; rfl, gW⟩

theorem rcount_any (a b c d s : Int) (w : World) :
    Calls Try.prog 12 #[bx a b c d, .int .i64 s] w fun e w' => e = .returned (.int .i64 (cntP a b c d s)) ∧ Gr w w' := by
  cases hok : (szB s && rtB a b c d) with
  | false =>
    have e : cntP a b c d s = 0 := by unfold cntP; rw [hok]; rfl
    rw [e]; exact rcount_no a b c d s w hok
  | true =>
    have hok' := hok
    rw [Bool.and_eq_true] at hok'
    obtain ⟨hz, hr⟩ := hok'
    obtain ⟨ha, hb, hc, hd, hac, hbd⟩ := rt_32 hr
    obtain ⟨hs1, hs2⟩ := szB_iff.1 hz
    have S1 := fits_any s
    rw [hz] at S1
    have S2 := right_any a b c d
    rw [hr] at S2
    have e1 : a / s ≤ c / s := Int.ediv_le_ediv (by omega) hac
    have e2 : b / s ≤ d / s := Int.ediv_le_ediv (by omega) hbd
    obtain ⟨q1, q2, q3, q4⟩ := rtB_iff.1 hr
    have hp1 := plB_iff.1 q1
    have hp2 := plB_iff.1 q2
    have bnd : ∀ x, -1073741823 ≤ x ∧ x ≤ 1073741823 → -1073741823 ≤ x / s ∧ x / s ≤ 1073741823 := by
      intro x hx
      constructor
      · rw [Int.le_ediv_iff_mul_le (by omega)]
        have : -1073741823 * s ≤ -1073741823 * 1 := by omega
        omega
      · rcases Int.lt_or_le x 0 with h | h
        · have := Int.ediv_neg_of_neg_of_pos h (by omega : 0 < s); omega
        · have := Int.ediv_le_self s h; omega
    have ea := bnd a hp1.1
    have eb := bnd b hp1.2
    have ec := bnd c hp2.1
    have ed := bnd d hp2.2
    have e : cntP a b c d s = (c / s - a / s + 1) * (d / s - b / s + 1) := by unfold cntP; rw [hok]; rfl
    have hm1 : 0 ≤ (c / s - a / s + 1) * (d / s - b / s + 1) := Int.mul_nonneg (by omega) (by omega)
    have hm2 : (c / s - a / s + 1) * (d / s - b / s + 1) ≤ 2147483647 * 2147483647 := Int.mul_le_mul (by omega) (by omega) (by omega) (by omega)
    have i64 : ∀ {x}, in32 x → in64 x := by intro x h; unfold in32 at h; unfold in64; omega
    refine rcount_yes a b c d s (a / s) (b / s) (c / s) (d / s) _ w (hid0 S1) (hid0 S2) (hid0 (down_any a s hs1 (i64 ha))) (hid0 (down_any b s hs1 (i64 hb))) (hid0 (down_any c s hs1 (i64 hc))) (hid0 (down_any d s hs1 (i64 hd))) (w64_32 ha) (w64_32 hb) (w64_32 hc) (w64_32 hd) ?_ ?_ ?_ ?_ ?_
    all_goals first
      | (rw [e]; refine w64_in ?_; unfold in64; omega)
      | (refine w64_in ?_; unfold in64; omega)

theorem ns_64 {x s : Int} (hx : in32 x) (h1 : 1 ≤ s) (h2 : s ≤ 2147483648) : -4611686018427387904 ≤ x * s ∧ x * s ≤ 4611686018427387904 := by
  unfold in32 at hx
  rcases Int.le_total 0 x with h | h
  · have h3 : x * s ≤ 2147483647 * 2147483648 := Int.mul_le_mul hx.2 h2 (by omega) (by omega)
    have h4 : 0 ≤ x * s := Int.mul_nonneg h (by omega)
    omega
  · have h3 : -x * s ≤ 2147483648 * 2147483648 := Int.mul_le_mul (by omega) h2 (by omega) (by omega)
    have h4 : 0 ≤ -x * s := Int.mul_nonneg (by omega) (by omega)
    rw [Int.neg_mul] at h3 h4
    omega

theorem square_any (x y s : Int) (hx : in32 x) (hy : in32 y) (w : World) :
    Calls Try.prog 9 #[pt x y, .int .i64 s] w fun e w' => e = .returned (.tuple #[sqV x y s, .bool (sqB x y s)]) ∧ Gr w w' := by
  have e : sqV x y s = if szB s && decide (sLo x s ≤ sHi x s) && decide (sLo y s ≤ sHi y s) then bx (if sLo x s ≤ sHi x s then sLo x s else 0) (if sLo y s ≤ sHi y s then sLo y s else 0) (if sLo x s ≤ sHi x s then sHi x s else 0) (if sLo y s ≤ sHi y s then sHi y s else 0) else bx 0 0 0 0 := by
    unfold sqV sqB
    by_cases h1 : sLo x s ≤ sHi x s <;> by_cases h2 : sLo y s ≤ sHi y s <;> simp [h1, h2]
  exact square_raw x y s (szB s) (decide (sLo x s ≤ sHi x s)) (decide (sLo y s ≤ sHi y s)) _ _ _ _ _ w (hid0 (isSize_any s)) (hid0 (fun h => stretch_any x s hx (szB_iff.1 h).1 (szB_iff.1 h).2)) (hid0 (fun h => stretch_any y s hy (szB_iff.1 h).1 (szB_iff.1 h).2)) e

set_option maxHeartbeats 4000000 in
theorem rsquare_no (x y s : Int) (hs : szB s = false) (w : World) :
    Calls Try.prog 10 #[pt x y, .int .i64 s] w fun e w' => e = .returned (.tuple #[bx 0 0 0 0, .bool false]) ∧ Gr w w' := by
  have S1 : Hid (∀ w, Calls Try.prog 24 #[.int .i64 s] w fun e w' => e = .returned (.bool false) ∧ w' = w) := fun w => by have := fits_any s w; rw [hs] at this; exact this
  have k1 : Bk ((w.alloc (.cells #[.int .i32 x, .int .i32 y] 26)).alloc (.cells #[.int .i32 0, .int .i32 0, .int .i32 0, .int .i32 0] 25)) (w.heap.size + 1) 25 [.int .i32 0, .int .i32 0, .int .i32 0, .int .i32 0] := by
    have := Bk.new (w.alloc (.cells #[.int .i32 x, .int .i32 y] 26)) 25 [.int .i32 0, .int .i32 0, .int .i32 0, .int .i32 0]; rwa [World.size_alloc] at this
  have gW : Gr w ((w.alloc (.cells #[.int .i32 x, .int .i32 y] 26)).alloc (.cells #[.int .i32 0, .int .i32 0, .int .i32 0, .int .i32 0] 25)) := ((Gr.refl _).alloc _).alloc _
  go_enter Try.func10, Try.ntmps10
  go_upto_region 1 with fail
  generalize (w.alloc (.cells #[.int .i32 x, .int .i32 y] 26)).alloc (.cells #[.int .i32 0, .int .i32 0, .int .i32 0, .int .i32 0] 25) = W at *
  obtain ⟨c0, c1, c2, c3⟩ := k1.four
  have f0 := k1.frozen 0
  have f1 := k1.frozen 1
  have f2 := k1.frozen 2
  have f3 := k1.frozen 3
  have q2 : Bk ((((W.setCell ⟨w.heap.size + 1, 0, none⟩ (.int .i32 0)).setCell ⟨w.heap.size + 1, 1, none⟩ (.int .i32 0)).setCell ⟨w.heap.size + 1, 2, none⟩ (.int .i32 0)).setCell ⟨w.heap.size + 1, 3, none⟩ (.int .i32 0)) (w.heap.size + 1) 25 [.int .i32 0, .int .i32 0, .int .i32 0, .int .i32 0] := (((k1.set 0 _).set 1 _).set 2 _).set 3 _
  have gF := (((gW.setCell (p := ⟨w.heap.size + 1, 0, none⟩) (by simp) (.int .i32 0)).setCell (p := ⟨w.heap.size + 1, 1, none⟩) (by simp) (.int .i32 0)).setCell (p := ⟨w.heap.size + 1, 2, none⟩) (by simp) (.int .i32 0)).setCell (p := ⟨w.heap.size + 1, 3, none⟩) (by simp) (.int .i32 0)
  go_wp2_with (go_at_call 24; refine (S1.out _).mono ?_; rintro e w1 ⟨rfl, rfl⟩; clear S1)
  obtain ⟨t0, t1, t2, t3⟩ := q2.four
  refine bodyPost_ret (v := .tuple #[bx 0 0 0 0, .bool false]) (by simp [results, Try.results10, go_sem, t0, t1, t2, t3]) rfl ⟨rfl, gF⟩

theorem rsquare_any (x y s : Int) (hx : in32 x) (hy : in32 y) (w : World) :
    Calls Try.prog 10 #[pt x y, .int .i64 s] w fun e w' => e = .returned (.tuple #[sqV x y s, .bool (sqB x y s)]) ∧ Gr w w' := by
  cases hs : szB s with
  | false =>
    have e1 : sqB x y s = false := by unfold sqB; rw [hs]; rfl
    have e2 : sqV x y s = bx 0 0 0 0 := by unfold sqV; rw [e1]; rfl
    rw [e1, e2]; exact rsquare_no x y s hs w
  | true =>
    obtain ⟨h1, h2⟩ := szB_iff.1 hs
    have S1 := fits_any s
    rw [hs] at S1
    have bx' := ns_64 hx h1 h2
    have by' := ns_64 hy h1 h2
    refine rsquare_raw x y s (x * s) (y * s) (x * s + s - 1) (y * s + s - 1) _ _ w (w64_32 hx) (w64_32 hy) (hid0 S1) (w64_in ?_) (w64_in ?_) (w64_in ?_) (w64_in ?_) (w64_in ?_) (w64_in ?_) ?_ ?_
    · unfold in64; omega
    · unfold in64; omega
    · unfold in64; omega
    · unfold in64; omega
    · unfold in64; omega
    · unfold in64; omega
    · intro a1 a2
      have e1 : sqB x y s = true := by unfold sqB sLo sHi; simp [hs, a1, a2]
      exact ⟨e1, by unfold sqV; rw [e1]; rfl⟩
    · intro hno
      have e1 : sqB x y s = false := by
        unfold sqB sLo sHi
        by_cases a1 : clL (x * s) ≤ clH (x * s + s - 1)
        · have a2 : ¬ clL (y * s) ≤ clH (y * s + s - 1) := fun h => hno ⟨a1, h⟩
          simp [a2]
        · simp [a1]
      exact ⟨e1, by unfold sqV; rw [e1]; rfl⟩
end Go.Proofs.Ytmoddfikhipagaa
