/- SegSides' walk. -/
import Derived.Test.YtagabccaipfjeaaSegS
import Derived.Test.YtagabccaipfjeaaMvW
import Derived.Deep.CutBlock
namespace Go.Proofs.Ytagabccaipfjeaa
open Go.RowKit Go.Sort

theorem meet_g (px p_y qx q_y sx s_y tx t_y : Int) (m : Mt) (w : World) (h : meetA (px, p_y) (qx, q_y) (sx, s_y) (tx, t_y) = m) : Calls Try.prog 8 #[pt px p_y, pt qx q_y, pt sx s_y, pt tx t_y] w fun e w' => e = .returned (mtv m) ∧ Gr w w' := h ▸ Meet_any (px, p_y) (qx, q_y) (sx, s_y) (tx, t_y) w
theorem touch_g (px p_y qx q_y sx s_y tx t_y : Int) (B : Bool) (w : World) (h : touchA (px, p_y) (qx, q_y) (sx, s_y) (tx, t_y) = B) : Calls Try.prog 9 #[pt px p_y, pt qx q_y, pt sx s_y, pt tx t_y] w fun e w' => e = .returned (.bool B) ∧ Gr w w' := h ▸ Touch_any (px, p_y) (qx, q_y) (sx, s_y) (tx, t_y) w
theorem nears_g (px p_y qx q_y sx s_y tx t_y r : Int) (B : Bool) (w : World) (h : nearS (px, p_y) (qx, q_y) (sx, s_y) (tx, t_y) r = B) : Calls Try.prog 15 #[pt px p_y, pt qx q_y, pt sx s_y, pt tx t_y, .int .i64 r] w fun e w' => e = .returned (.bool B) ∧ Gr w w' := h ▸ NearSeg_any (px, p_y) (qx, q_y) (sx, s_y) (tx, t_y) r w
theorem near_g (px p_y qx q_y sx s_y r : Int) (B : Bool) (w : World) (h : nearA (px, p_y) (qx, q_y) (sx, s_y) r = B) : Calls Try.prog 13 #[pt px p_y, pt qx q_y, pt sx s_y, .int .i64 r] w fun e w' => e = .returned (.bool B) ∧ Gr w w' := h ▸ Near_any (px, p_y) (qx, q_y) (sx, s_y) r w
theorem rin_g (x y : Int) (B : Bool) (w : World) (h : latP (x, y) = B) : Calls Try.prog 18 #[pt x y] w fun e w' => e = .returned (.bool B) ∧ Gr w w' := h ▸ rin_any (x, y) w
set_option maxHeartbeats 400000 in
theorem lless_any (n d : Int) (w : World) (h : wrap64 (d - n) = d - n) : Calls Try.prog 17 #[.agg #[.int .i64 n, .int .i64 d]] w fun e w' => e = .returned (.agg #[.int .i64 (d - n), .int .i64 d]) ∧ Gr w w' := by
  go_enter Try.func17, Try.ntmps17
  go_wp2
  refine bodyPost_ret (v := frv (d - n, d)) (by simp [results, Try.results17, go_sem]) rfl ⟨rfl, ?_⟩
  exact ((Gr.refl _).alloc _).alloc _
theorem ok_fr {m : Mt} (h : okM m) : frOk m.2.2.1 ∧ frOk m.2.2.2 := by
  rcases h with rfl | ⟨f, rfl, hf⟩ | ⟨f, g, rfl, hf, hg⟩
  · unfold mt0 frOk; simp
  · exact ⟨hf, hf⟩
  · exact ⟨hf, hg⟩
theorem meet_fr (a b c d : P2) : frOk (meetA a b c d).2.2.1 ∧ frOk (meetA a b c d).2.2.2 := by
  by_cases h : lat4 a b c d
  · rw [meetA_in h]
    unfold meetM
    split
    · unfold insideM
      split
      · rename_i k
        rw [Bool.and_eq_true, oppS_iff, oppS_iff] at k
        have b1 := crs_bd h.2.2.1 h.2.2.2 h.1
        have b2 := den_bd h.1 h.2.1 h.2.2.1 h.2.2.2
        have := low_ok (n := crs c d a) (d := crs c d a - crs c d b) (by omega) (by omega)
        exact ⟨this, this⟩
      · unfold mt0 frOk; simp
    · exact ok_fr (ends_ok h.1 h.2.1 h.2.2.1 h.2.2.2)
  · rw [meetA_out h]; unfold mt0 frOk; simp

set_option maxRecDepth 20000 in
set_option maxHeartbeats 8000000 in
theorem sides_walk (ax ay bx by_ cx cy dx dy r more : Int) (w : World) :
    Calls Try.prog 5 #[fourV ax ay bx by_ cx cy dx dy, .int .i64 r, .int .i64 more] w fun e w' => e = .returned (.bool true) ∧ Gr w w' := by
  have hF : FourIs (w.alloc (.cells #[.int .i32 ax, .int .i32 ay, .int .i32 bx, .int .i32 by_, .int .i32 cx, .int .i32 cy, .int .i32 dx, .int .i32 dy] 25)) w.heap.size ax ay bx by_ cx cy dx dy := FourIs.new w ax ay bx by_ cx cy dx dy
  have hG : Gr w (w.alloc (.cells #[.int .i32 ax, .int .i32 ay, .int .i32 bx, .int .i32 by_, .int .i32 cx, .int .i32 cy, .int .i32 dx, .int .i32 dy] 25)) := (Gr.refl _).alloc _
  have M0 := hid' (Meet_c ax ay bx by_ cx cy dx dy)
  have tM : meetA (ax, ay) (bx, by_) (dx, dy) (cx, cy) = meetA (ax, ay) (bx, by_) (cx, cy) (dx, dy) := (meetA_last _ _ _ _).symm
  have t2 : touchA (cx, cy) (dx, dy) (ax, ay) (bx, by_) = touchA (ax, ay) (bx, by_) (cx, cy) (dx, dy) := (touch_turn _ _ _ _).symm
  have t3 : touchA (bx, by_) (ax, ay) (cx, cy) (dx, dy) = touchA (ax, ay) (bx, by_) (cx, cy) (dx, dy) := (touch_back _ _ _ _).symm
  have kb : ((meetA (ax, ay) (bx, by_) (cx, cy) (dx, dy)).1 != 0) = touchA (ax, ay) (bx, by_) (cx, cy) (dx, dy) := by
    rw [Bool.eq_iff_iff, bne_iff_ne]; exact kind_ne
  have s2 : nearS (cx, cy) (dx, dy) (ax, ay) (bx, by_) r = nearS (ax, ay) (bx, by_) (cx, cy) (dx, dy) r := (nearS_turn _ _ _ _ _).symm
  have s3 : nearS (bx, by_) (ax, ay) (dx, dy) (cx, cy) r = nearS (ax, ay) (bx, by_) (cx, cy) (dx, dy) r := (nearS_both _ _ _ _ _).symm
  have s4 : nearS (bx, by_) (ax, ay) (cx, cy) (dx, dy) r = nearS (ax, ay) (bx, by_) (cx, cy) (dx, dy) r := (nearS_back _ _ _ _ _).symm
  have n2 : nearA (ax, ay) (dx, dy) (cx, cy) r = nearA (ax, ay) (cx, cy) (dx, dy) r := (nearA_swap _ _ _ _).symm
  have n3 : nearS (ax, ay) (ax, ay) (cx, cy) (dx, dy) r = nearA (ax, ay) (cx, cy) (dx, dy) r := (nearA_seg _ _ _ _).symm
  have z0 : nearS (ax, ay) (bx, by_) (cx, cy) (dx, dy) 0 = touchA (ax, ay) (bx, by_) (cx, cy) (dx, dy) := nearS_zero _ _ _ _
  have mo1 : Hid (r < more → nearA (ax, ay) (cx, cy) (dx, dy) r = true → nearA (ax, ay) (cx, cy) (dx, dy) more = true) := fun h k => nearA_more h k
  have mo2 : Hid (r < more → nearS (ax, ay) (bx, by_) (cx, cy) (dx, dy) r = true → nearS (ax, ay) (bx, by_) (cx, cy) (dx, dy) more = true) := fun h k => nearS_more h k
  have BK : Hid ((ax, ay) ≠ (bx, by_) → (meetA (ax, ay) (bx, by_) (cx, cy) (dx, dy)).1 ≠ 0 → meetA (bx, by_) (ax, ay) (cx, cy) (dx, dy) = backM (meetA (ax, ay) (bx, by_) (cx, cy) (dx, dy))) := fun h k => meetA_back h k
  have M1 := hid' (Meet_c bx by_ ax ay cx cy dx dy)
  have fr := meet_fr (bx, by_) (ax, ay) (cx, cy) (dx, dy)
  generalize meetA (bx, by_) (ax, ay) (cx, cy) (dx, dy) = bb at *
  generalize meetA (ax, ay) (bx, by_) (cx, cy) (dx, dy) = mm at *
  generalize t1 : touchA (ax, ay) (bx, by_) (cx, cy) (dx, dy) = TB at *
  generalize s1 : nearS (ax, ay) (bx, by_) (cx, cy) (dx, dy) r = NB at *
  generalize n1 : nearA (ax, ay) (cx, cy) (dx, dy) r = PB at *
  obtain ⟨mk, mi, ⟨f1, f2⟩, ⟨g1, g2⟩⟩ := mm
  obtain ⟨bk, bi, ⟨u1, u2⟩, ⟨v1, v2⟩⟩ := bb
  simp only at kb
  have kz : (mk ≠ 0) ↔ TB = true := by rw [← kb, bne_iff_ne]
  have a0 := hF.c0
  have a1 := hF.c1
  have a2 := hF.c2
  have a3 := hF.c3
  have a4 := hF.c4
  have a5 := hF.c5
  have a6 := hF.c6
  have a7 := hF.c7
  go_enter Try.func5, Try.ntmps5
  go_wp2_with fail
  refine (M0.out _).mono ?_
  rintro e w1 ⟨rfl, q1⟩
  have g1' := (Gr.refl w1).alloc (.cells #[.int .u8 mk, .bool mi, .int .i64 f1, .int .i64 f2, .int .i64 g1, .int .i64 g2] 30)
  replace hF := (hF.gr q1).gr g1'
  replace hG := (hG.trans q1).trans g1'
  have h7 := M6.new w1 (.int .u8 mk) (.bool mi) (.int .i64 f1) (.int .i64 f2) (.int .i64 g1) (.int .i64 g2)
  clear q1 g1' a0 a1 a2 a3 a4 a5 a6 a7 M0
  go_upto_region 2 with fail
  generalize w1.alloc (.cells #[.int .u8 mk, .bool mi, .int .i64 f1, .int .i64 f2, .int .i64 g1, .int .i64 g2] 30) = W1 at *
  generalize w1.heap.size = X7 at *
  have e30 : (mk == mk) = true := by simp
  have e31 : (mi == mi) = true := by simp
  have e32 : (f1 == f1) = true := by simp
  have e33 : (f2 == f2) = true := by simp
  have e34 : (g1 == g1) = true := by simp
  have e35 : (g2 == g2) = true := by simp
  have e36 : (TB != TB) = false := by simp
  have x0 := cell_gr hF.c0
  have x1 := cell_gr hF.c1
  have x2 := cell_gr hF.c2
  have x3 := cell_gr hF.c3
  have x4 := cell_gr hF.c4
  have x5 := cell_gr hF.c5
  have x6 := cell_gr hF.c6
  have x7 := cell_gr hF.c7
  have y0 := cell_gr h7.c0
  have y1 := cell_gr h7.c1
  have y2 := cell_gr h7.c2
  have y3 := cell_gr h7.c3
  have y4 := cell_gr h7.c4
  have y5 := cell_gr h7.c5
  refine wp_region_quiet_grown (by kernel_rfl) (by kernel_rfl) ?_
  (try dsimp only [List.append])
  repeat (go_big_quiet_step (first | (go_at_call 8; exact Calls.grown_of (meet_g _ _ _ _ _ _ _ _ (mk, mi, (f1, f2), (g1, g2)) _ tM)) | (go_at_call 9; exact Calls.grown_of (touch_g _ _ _ _ _ _ _ _ TB _ (by first | exact t1 | exact t2 | exact t3)))))
  refine wpQuiet_nil ?_
  intro _ hw'
  obtain ⟨⟨nq, osq⟩, hw''⟩ := hw'
  subst hw''
  have gq : Gr W1 (grow (W1.drewN nq) osq) := ⟨nq, osq, rfl⟩
  replace hF := hF.gr gq
  replace h7 := h7.gr gq
  replace hG := hG.trans gq
  clear gq x0 x1 x2 x3 x4 x5 x6 x7 y0 y1 y2 y3 y4 y5 tM
  generalize grow (W1.drewN nq) osq = W2 at *
  have a0 := hF.c0
  have a1 := hF.c1
  have a2 := hF.c2
  have a3 := hF.c3
  have a4 := hF.c4
  have a5 := hF.c5
  have a6 := hF.c6
  have a7 := hF.c7
  go_wp2_with fail
  refine (M1.out _).mono ?_
  rintro e w3 ⟨rfl, q3⟩
  have g3 := (Gr.refl w3).alloc (.cells #[.int .u8 bk, .bool bi, .int .i64 u1, .int .i64 u2, .int .i64 v1, .int .i64 v2] 30)
  replace hF := (hF.gr q3).gr g3
  replace h7 := (h7.gr q3).gr g3
  replace hG := (hG.trans q3).trans g3
  have h8 := M6.new w3 (.int .u8 bk) (.bool bi) (.int .i64 u1) (.int .i64 u2) (.int .i64 v1) (.int .i64 v2)
  clear q3 g3 a0 a1 a2 a3 a4 a5 a6 a7 M1
  go_upto_region 5 with fail
  generalize w3.alloc (.cells #[.int .u8 bk, .bool bi, .int .i64 u1, .int .i64 u2, .int .i64 v1, .int .i64 v2] 30) = W3 at *
  generalize w3.heap.size = X8 at *
  go_cut [115] (fun s115 w' => s115 = .bool false ∧ Gr W3 w')
  case first =>
    as_aux_lemma =>
    by_cases hab : ax = bx ∧ ay = by_
    · have hx1 : (ax == bx) = true := by simp [hab.1]
      have hx2 : (ay == by_) = true := by simp [hab.2]
      clear hab BK fr kz
      have x0 := cell_gr hF.c0
      have x1 := cell_gr hF.c1
      have x2 := cell_gr hF.c2
      have x3 := cell_gr hF.c3
      have x4 := cell_gr hF.c4
      have x5 := cell_gr hF.c5
      have x6 := cell_gr hF.c6
      have x7 := cell_gr hF.c7
      have y0 := cell_gr h7.c0
      have y1 := cell_gr h7.c1
      have y2 := cell_gr h7.c2
      have y3 := cell_gr h7.c3
      have y4 := cell_gr h7.c4
      have y5 := cell_gr h7.c5
      have v0' := cell_gr h8.c0
      have v1' := cell_gr h8.c1
      have v2' := cell_gr h8.c2
      have v3' := cell_gr h8.c3
      have v4' := cell_gr h8.c4
      have v5' := cell_gr h8.c5
      refine wp_region_quiet_grown (by kernel_rfl) (by kernel_rfl) ?_
      (try dsimp only [List.append])
      repeat (go_big_quiet_step (first | (go_at_call 17; exact Calls.grown_of (lless_any _ _ _ (by first | exact wg | exact wf)))))
      refine wpQuiet_nil ?_
      intro _ hw'
      obtain ⟨⟨nq, osq⟩, hw''⟩ := hw'
      subst hw''
      have gq : Gr W3 (grow (W3.drewN nq) osq) := ⟨nq, osq, rfl⟩
      go_wp2
      go_meet
      case rel => exact ⟨rfl, gq⟩
    · have hne : (ax, ay) ≠ (bx, by_) := fun h => hab ⟨congrArg Prod.fst h, congrArg Prod.snd h⟩
      have hx : (ax == bx) = false ∨ ((ax == bx) = true ∧ (ay == by_) = false) := by
        by_cases h : ax = bx
        · right; exact ⟨by simp [h], by simp; intro k; exact hab ⟨h, k⟩⟩
        · left; simp [h]
      cases TB with
      | false =>
        clear BK fr kz hne hab
        rcases hx with hx1 | ⟨hx1, hx2⟩
        · have x0 := cell_gr hF.c0
          have x1 := cell_gr hF.c1
          have x2 := cell_gr hF.c2
          have x3 := cell_gr hF.c3
          have x4 := cell_gr hF.c4
          have x5 := cell_gr hF.c5
          have x6 := cell_gr hF.c6
          have x7 := cell_gr hF.c7
          have y0 := cell_gr h7.c0
          have y1 := cell_gr h7.c1
          have y2 := cell_gr h7.c2
          have y3 := cell_gr h7.c3
          have y4 := cell_gr h7.c4
          have y5 := cell_gr h7.c5
          have v0' := cell_gr h8.c0
          have v1' := cell_gr h8.c1
          have v2' := cell_gr h8.c2
          have v3' := cell_gr h8.c3
          have v4' := cell_gr h8.c4
          have v5' := cell_gr h8.c5
          refine wp_region_quiet_grown (by kernel_rfl) (by kernel_rfl) ?_
          (try dsimp only [List.append])
          repeat (go_big_quiet_step (first | (go_at_call 17; exact Calls.grown_of (lless_any _ _ _ (by first | exact wg | exact wf)))))
          refine wpQuiet_nil ?_
          intro _ hw'
          obtain ⟨⟨nq, osq⟩, hw''⟩ := hw'
          subst hw''
          have gq : Gr W3 (grow (W3.drewN nq) osq) := ⟨nq, osq, rfl⟩
          go_wp2
          go_meet
          case rel => exact ⟨rfl, gq⟩
        · have x0 := cell_gr hF.c0
          have x1 := cell_gr hF.c1
          have x2 := cell_gr hF.c2
          have x3 := cell_gr hF.c3
          have x4 := cell_gr hF.c4
          have x5 := cell_gr hF.c5
          have x6 := cell_gr hF.c6
          have x7 := cell_gr hF.c7
          have y0 := cell_gr h7.c0
          have y1 := cell_gr h7.c1
          have y2 := cell_gr h7.c2
          have y3 := cell_gr h7.c3
          have y4 := cell_gr h7.c4
          have y5 := cell_gr h7.c5
          have v0' := cell_gr h8.c0
          have v1' := cell_gr h8.c1
          have v2' := cell_gr h8.c2
          have v3' := cell_gr h8.c3
          have v4' := cell_gr h8.c4
          have v5' := cell_gr h8.c5
          refine wp_region_quiet_grown (by kernel_rfl) (by kernel_rfl) ?_
          (try dsimp only [List.append])
          repeat (go_big_quiet_step (first | (go_at_call 17; exact Calls.grown_of (lless_any _ _ _ (by first | exact wg | exact wf)))))
          refine wpQuiet_nil ?_
          intro _ hw'
          obtain ⟨⟨nq, osq⟩, hw''⟩ := hw'
          subst hw''
          have gq : Gr W3 (grow (W3.drewN nq) osq) := ⟨nq, osq, rfl⟩
          go_wp2
          go_meet
          case rel => exact ⟨rfl, gq⟩
      | true =>
        have hb := BK.out hne (kz.mpr rfl)
        unfold backM lessF at hb
        simp only [Prod.mk.injEq] at hb
        obtain ⟨rfl, rfl, ⟨rfl, rfl⟩, rfl, rfl⟩ := hb
        have wg : wrap64 (u2 - g1) = u2 - g1 := by unfold frOk at fr; simp only at fr; unfold wrap64; omega
        have wf : wrap64 (v2 - f1) = v2 - f1 := by unfold frOk at fr; simp only at fr; unfold wrap64; omega
        have e41 : (u2 - g1 == u2 - g1) = true := by simp
        have e42 : (v2 - f1 == v2 - f1) = true := by simp
        clear BK fr kz hne hab
        rcases hx with hx1 | ⟨hx1, hx2⟩
        · have x0 := cell_gr hF.c0
          have x1 := cell_gr hF.c1
          have x2 := cell_gr hF.c2
          have x3 := cell_gr hF.c3
          have x4 := cell_gr hF.c4
          have x5 := cell_gr hF.c5
          have x6 := cell_gr hF.c6
          have x7 := cell_gr hF.c7
          have y0 := cell_gr h7.c0
          have y1 := cell_gr h7.c1
          have y2 := cell_gr h7.c2
          have y3 := cell_gr h7.c3
          have y4 := cell_gr h7.c4
          have y5 := cell_gr h7.c5
          have v0' := cell_gr h8.c0
          have v1' := cell_gr h8.c1
          have v2' := cell_gr h8.c2
          have v3' := cell_gr h8.c3
          have v4' := cell_gr h8.c4
          have v5' := cell_gr h8.c5
          refine wp_region_quiet_grown (by kernel_rfl) (by kernel_rfl) ?_
          (try dsimp only [List.append])
          repeat (go_big_quiet_step (first | (go_at_call 17; exact Calls.grown_of (lless_any _ _ _ (by first | exact wg | exact wf)))))
          refine wpQuiet_nil ?_
          intro _ hw'
          obtain ⟨⟨nq, osq⟩, hw''⟩ := hw'
          subst hw''
          have gq : Gr W3 (grow (W3.drewN nq) osq) := ⟨nq, osq, rfl⟩
          go_wp2
          go_meet
          case rel => exact ⟨rfl, gq⟩
        · have x0 := cell_gr hF.c0
          have x1 := cell_gr hF.c1
          have x2 := cell_gr hF.c2
          have x3 := cell_gr hF.c3
          have x4 := cell_gr hF.c4
          have x5 := cell_gr hF.c5
          have x6 := cell_gr hF.c6
          have x7 := cell_gr hF.c7
          have y0 := cell_gr h7.c0
          have y1 := cell_gr h7.c1
          have y2 := cell_gr h7.c2
          have y3 := cell_gr h7.c3
          have y4 := cell_gr h7.c4
          have y5 := cell_gr h7.c5
          have v0' := cell_gr h8.c0
          have v1' := cell_gr h8.c1
          have v2' := cell_gr h8.c2
          have v3' := cell_gr h8.c3
          have v4' := cell_gr h8.c4
          have v5' := cell_gr h8.c5
          refine wp_region_quiet_grown (by kernel_rfl) (by kernel_rfl) ?_
          (try dsimp only [List.append])
          repeat (go_big_quiet_step (first | (go_at_call 17; exact Calls.grown_of (lless_any _ _ _ (by first | exact wg | exact wf)))))
          refine wpQuiet_nil ?_
          intro _ hw'
          obtain ⟨⟨nq, osq⟩, hw''⟩ := hw'
          subst hw''
          have gq : Gr W3 (grow (W3.drewN nq) osq) := ⟨nq, osq, rfl⟩
          go_wp2
          go_meet
          case rel => exact ⟨rfl, gq⟩
  case rest =>
    obtain ⟨rfl, gq⟩ := hcut
    replace hF := hF.gr gq
    replace h7 := h7.gr gq
    replace hG := hG.trans gq
    clear gq h8 BK fr kz
    have e43 : (NB != NB) = false := by simp
    have e44 : (PB != PB) = false := by simp
    have a0 := hF.c0
    have a1 := hF.c1
    have a2 := hF.c2
    have a3 := hF.c3
    have a4 := hF.c4
    have a5 := hF.c5
    have a6 := hF.c6
    have a7 := hF.c7
    go_wp2_with (go_at_call 15; refine (nears_g _ _ _ _ _ _ _ _ _ NB _ (by first | exact s1 | exact s2 | exact s3 | exact s4)).mono ?_; rintro e w' ⟨rfl, q⟩; replace hF := hF.gr q; replace h7 := h7.gr q; replace hG := hG.trans q; clear q a0 a1 a2 a3 a4 a5 a6 a7; have a0 := hF.c0; have a1 := hF.c1; have a2 := hF.c2; have a3 := hF.c3; have a4 := hF.c4; have a5 := hF.c5; have a6 := hF.c6; have a7 := hF.c7)
    refine (near_g _ _ _ _ _ _ _ PB _ n1).mono ?_
    rintro e w4 ⟨rfl, q4⟩
    replace hF := hF.gr q4
    replace h7 := h7.gr q4
    replace hG := hG.trans q4
    clear q4 a0 a1 a2 a3 a4 a5 a6 a7
    go_upto_region 11 with fail
    have x0 := cell_gr hF.c0
    have x1 := cell_gr hF.c1
    have x2 := cell_gr hF.c2
    have x3 := cell_gr hF.c3
    have x4 := cell_gr hF.c4
    have x5 := cell_gr hF.c5
    have x6 := cell_gr hF.c6
    have x7 := cell_gr hF.c7
    have y0 := cell_gr h7.c0
    have y1 := cell_gr h7.c1
    have y2 := cell_gr h7.c2
    have y3 := cell_gr h7.c3
    have y4 := cell_gr h7.c4
    have y5 := cell_gr h7.c5
    refine wp_region_quiet_grown (by kernel_rfl) (by kernel_rfl) ?_
    (try dsimp only [List.append])
    repeat (go_big_quiet_step (first | (go_at_call 13; exact Calls.grown_of (near_g _ _ _ _ _ _ _ PB _ n2)) | (go_at_call_of 15 (Value.int IntKind.i64 r); exact Calls.grown_of (nears_g _ _ _ _ _ _ _ _ _ PB _ n3)) | (go_at_call 15; exact Calls.grown_of (nears_g _ _ _ _ _ _ _ _ _ TB _ z0))))
    refine wpQuiet_nil ?_
    intro _ hw'
    obtain ⟨⟨nq, osq⟩, hw''⟩ := hw'
    subst hw''
    have gq : Gr w4 (grow (w4.drewN nq) osq) := ⟨nq, osq, rfl⟩
    replace hF := hF.gr gq
    replace hG := hG.trans gq
    clear gq x0 x1 x2 x3 x4 x5 x6 x7 y0 y1 y2 y3 y4 y5 h7 kb t1 t2 t3 z0 s1 s2 s3 s4 n1 n2 n3 e30 e31 e32 e33 e34 e35 e36 e43 e44
    generalize grow (w4.drewN nq) osq = W5 at *
    go_upto_region 13 with fail
    go_cut [245] (fun s245 w' => s245 = .bool false ∧ Gr W5 w')
    case first =>
      as_aux_lemma =>
      have hH := Gr.refl W5
      have a0 := hF.c0
      have a1 := hF.c1
      have a2 := hF.c2
      have a3 := hF.c3
      have a4 := hF.c4
      have a5 := hF.c5
      have a6 := hF.c6
      have a7 := hF.c7
      by_cases hmo : r < more
      · cases PB with
        | false =>
          cases NB with
          | false =>
            go_wp2
            go_meet
            case rel => exact ⟨rfl, hH⟩
          | true =>
            have o2 := mo2.out hmo rfl
            go_wp2_with (first | (go_at_call 15; refine (nears_g _ _ _ _ _ _ _ _ _ true _ o2).mono ?_; rintro e w' ⟨rfl, q⟩; replace hF := hF.gr q; replace hH := hH.trans q; clear q a0 a1 a2 a3 a4 a5 a6 a7; have a0 := hF.c0; have a1 := hF.c1; have a2 := hF.c2; have a3 := hF.c3; have a4 := hF.c4; have a5 := hF.c5; have a6 := hF.c6; have a7 := hF.c7))
            go_meet
            case rel => exact ⟨rfl, hH⟩
        | true =>
          have o1 := mo1.out hmo rfl
          cases NB with
          | false =>
            go_wp2_with (first | (go_at_call 13; refine (near_g _ _ _ _ _ _ _ true _ o1).mono ?_; rintro e w' ⟨rfl, q⟩; replace hF := hF.gr q; replace hH := hH.trans q; clear q a0 a1 a2 a3 a4 a5 a6 a7; have a0 := hF.c0; have a1 := hF.c1; have a2 := hF.c2; have a3 := hF.c3; have a4 := hF.c4; have a5 := hF.c5; have a6 := hF.c6; have a7 := hF.c7))
            go_meet
            case rel => exact ⟨rfl, hH⟩
          | true =>
            have o2 := mo2.out hmo rfl
            go_wp2_with (first | (go_at_call 13; refine (near_g _ _ _ _ _ _ _ true _ o1).mono ?_; rintro e w' ⟨rfl, q⟩; replace hF := hF.gr q; replace hH := hH.trans q; clear q a0 a1 a2 a3 a4 a5 a6 a7; have a0 := hF.c0; have a1 := hF.c1; have a2 := hF.c2; have a3 := hF.c3; have a4 := hF.c4; have a5 := hF.c5; have a6 := hF.c6; have a7 := hF.c7) | (go_at_call 15; refine (nears_g _ _ _ _ _ _ _ _ _ true _ o2).mono ?_; rintro e w' ⟨rfl, q⟩; replace hF := hF.gr q; replace hH := hH.trans q; clear q a0 a1 a2 a3 a4 a5 a6 a7; have a0 := hF.c0; have a1 := hF.c1; have a2 := hF.c2; have a3 := hF.c3; have a4 := hF.c4; have a5 := hF.c5; have a6 := hF.c6; have a7 := hF.c7))
            go_meet
            case rel => exact ⟨rfl, hH⟩
      · go_wp2
        go_meet
        case rel => exact ⟨rfl, hH⟩
    case rest =>
      obtain ⟨rfl, gq⟩ := hcut
      replace hF := hF.gr gq
      replace hG := hG.trans gq
      clear gq mo1 mo2
      go_upto_region 15 with fail
      have hwc := hG
      go_cut [285] (fun s285 w' => s285 = .bool false ∧ Gr w w')
      case first =>
        as_aux_lemma =>
        have a0 := hF.c0
        have a1 := hF.c1
        have a2 := hF.c2
        have a3 := hF.c3
        have a4 := hF.c4
        have a5 := hF.c5
        have a6 := hF.c6
        have a7 := hF.c7
        cases l1 : latP (ax, ay) with
        | false =>
          go_wp2_with (go_at_call 18; refine (rin_g _ _ _ _ (by first | exact l1)).mono ?_; rintro e w' ⟨rfl, q⟩; replace hF := hF.gr q; replace hG := hG.trans q; clear q a0 a1 a2 a3 a4 a5 a6 a7; have a0 := hF.c0; have a1 := hF.c1; have a2 := hF.c2; have a3 := hF.c3; have a4 := hF.c4; have a5 := hF.c5; have a6 := hF.c6; have a7 := hF.c7)
          go_meet
          case rel => exact ⟨rfl, hG⟩
        | true =>
          cases l2 : latP (bx, by_) with
          | false =>
            go_wp2_with (go_at_call 18; refine (rin_g _ _ _ _ (by first | exact l1 | exact l2)).mono ?_; rintro e w' ⟨rfl, q⟩; replace hF := hF.gr q; replace hG := hG.trans q; clear q a0 a1 a2 a3 a4 a5 a6 a7; have a0 := hF.c0; have a1 := hF.c1; have a2 := hF.c2; have a3 := hF.c3; have a4 := hF.c4; have a5 := hF.c5; have a6 := hF.c6; have a7 := hF.c7)
            go_meet
            case rel => exact ⟨rfl, hG⟩
          | true =>
            cases l3 : latP (cx, cy) with
            | false =>
              go_wp2_with (go_at_call 18; refine (rin_g _ _ _ _ (by first | exact l1 | exact l2 | exact l3)).mono ?_; rintro e w' ⟨rfl, q⟩; replace hF := hF.gr q; replace hG := hG.trans q; clear q a0 a1 a2 a3 a4 a5 a6 a7; have a0 := hF.c0; have a1 := hF.c1; have a2 := hF.c2; have a3 := hF.c3; have a4 := hF.c4; have a5 := hF.c5; have a6 := hF.c6; have a7 := hF.c7)
              go_meet
              case rel => exact ⟨rfl, hG⟩
            | true =>
              cases l4 : latP (dx, dy) with
              | false =>
                go_wp2_with (go_at_call 18; refine (rin_g _ _ _ _ (by first | exact l1 | exact l2 | exact l3 | exact l4)).mono ?_; rintro e w' ⟨rfl, q⟩; replace hF := hF.gr q; replace hG := hG.trans q; clear q a0 a1 a2 a3 a4 a5 a6 a7; have a0 := hF.c0; have a1 := hF.c1; have a2 := hF.c2; have a3 := hF.c3; have a4 := hF.c4; have a5 := hF.c5; have a6 := hF.c6; have a7 := hF.c7)
                go_meet
                case rel => exact ⟨rfl, hG⟩
              | true =>
                have o1 := nearA_far ((latP_iff _).mp l1) ((latP_iff _).mp l3) ((latP_iff _).mp l4)
                have o2 := nearS_far ⟨(latP_iff _).mp l1, (latP_iff _).mp l2, (latP_iff _).mp l3, (latP_iff _).mp l4⟩
                go_wp2_with (first | (go_at_call 18; refine (rin_g _ _ _ _ (by first | exact l1 | exact l2 | exact l3 | exact l4)).mono ?_; rintro e w' ⟨rfl, q⟩; replace hF := hF.gr q; replace hG := hG.trans q; clear q a0 a1 a2 a3 a4 a5 a6 a7; have a0 := hF.c0; have a1 := hF.c1; have a2 := hF.c2; have a3 := hF.c3; have a4 := hF.c4; have a5 := hF.c5; have a6 := hF.c6; have a7 := hF.c7) | (go_at_call 13; refine (near_g _ _ _ _ _ _ _ true _ o1).mono ?_; rintro e w' ⟨rfl, q⟩; replace hF := hF.gr q; replace hG := hG.trans q; clear q a0 a1 a2 a3 a4 a5 a6 a7; have a0 := hF.c0; have a1 := hF.c1; have a2 := hF.c2; have a3 := hF.c3; have a4 := hF.c4; have a5 := hF.c5; have a6 := hF.c6; have a7 := hF.c7) | (go_at_call 15; refine (nears_g _ _ _ _ _ _ _ _ _ true _ o2).mono ?_; rintro e w' ⟨rfl, q⟩; replace hF := hF.gr q; replace hG := hG.trans q; clear q a0 a1 a2 a3 a4 a5 a6 a7; have a0 := hF.c0; have a1 := hF.c1; have a2 := hF.c2; have a3 := hF.c3; have a4 := hF.c4; have a5 := hF.c5; have a6 := hF.c6; have a7 := hF.c7))
                go_meet
                case rel => exact ⟨rfl, hG⟩
      case rest =>
        obtain ⟨rfl, gq⟩ := hcut
        go_wp2_with fail
        refine (lives_any _).mono ?_
        rintro e w7 ⟨rfl, q7⟩
        go_wp2
        go_ret
        exact ⟨rfl, gq.trans q7⟩

end Go.Proofs.Ytagabccaipfjeaa
