/- CellCovers: the law's walk. -/
import Derived.Test.YtmoddfikhipagaaRu
import Derived.Test.YtmoddfikhipagaaLnW
set_option linter.unusedSimpArgs false
set_option linter.unusedVariables false
namespace Go.Proofs.Ytmoddfikhipagaa
open Go.RowKit Go.Sort Go.Shelf

theorem sqV_bx (x y s : Int) : ∃ k0 k1 k2 k3, sqV x y s = bx k0 k1 k2 k3 := by
  unfold sqV
  split
  · exact ⟨_, _, _, _, rfl⟩
  · exact ⟨_, _, _, _, rfl⟩

set_option maxRecDepth 20000 in
set_option maxHeartbeats 8000000 in
theorem covers_walk (px py qx qy a b c e cx cy s : Int) (hpx : in32 px) (hpy : in32 py) (hcx : in32 cx) (hcy : in32 cy) (w : World) :
    Calls Try.prog 3 #[.agg #[.int .i32 px, .int .i32 py, .int .i32 qx, .int .i32 qy, .int .i32 a, .int .i32 b, .int .i32 c, .int .i32 e, .int .i32 cx, .int .i32 cy], .int .i64 s] w fun e w' => e = .returned (.bool true) ∧ Below w.heap.size w w' := by
  have O1 := hid0 (of_any px py s hpx hpy)
  have O2 := hid0 (rof_any px py s hpx hpy)
  have Q1 := hid0 (square_any cx cy s hcx hcy)
  have Q2 := hid0 (rsquare_any cx cy s hcx hcy)
  have N1 := hid0 (count_any a b c e s)
  have N2 := hid0 (rcount_any a b c e s)
  have CA := hid0 (cover_any a b c e s)
  have RC := hid0 (rcover_any a b c e s)
  have FC := hid0 (fun w bs bb => firstCover a b c e s w bs bb)
  have LV := hid0 lives_any
  obtain ⟨k0, k1, k2, k3, ek⟩ := sqV_bx cx cy s
  rw [ek] at Q1 Q2
  clear ek
  have hM : ((covL a b c e s).take 401).length ≤ 401 := by rw [List.length_take]; omega
  generalize (covL a b c e s).take 401 = M at *
  generalize sqB cx cy s = sq at *
  generalize cntP a b c e s = cn at *
  generalize (ofC px py s).1 = oX at *
  generalize (ofC px py s).2 = oY at *
  generalize ofE s = oE at *
  have SA : Hid (∀ ao bo ca cb w, Pts w ao M → Pts w bo M → Calls Try.prog 15 #[.slice ao M.length ca, .slice bo M.length cb] w fun e w' => e = .returned (.bool true) ∧ Gr w w') := fun ao bo ca cb w h1 h2 => by
    have := same_any ao bo ca cb M M w (by omega) h1 h2
    rw [decide_eq_true rfl] at this
    exact this
  clear hpx hpy hcx hcy
  have b2 := Bk.new w 28 [.int .i32 px, .int .i32 py, .int .i32 qx, .int .i32 qy, .int .i32 a, .int .i32 b, .int .i32 c, .int .i32 e, .int .i32 cx, .int .i32 cy]
  have g0 : Gr w (w.alloc (.cells #[.int .i32 px, .int .i32 py, .int .i32 qx, .int .i32 qy, .int .i32 a, .int .i32 b, .int .i32 c, .int .i32 e, .int .i32 cx, .int .i32 cy] 28)) := (Gr.refl _).alloc _
  go_enter Try.func3, Try.ntmps3
  go_upto_region 1 with fail
  generalize w.alloc (.cells #[.int .i32 px, .int .i32 py, .int .i32 qx, .int .i32 qy, .int .i32 a, .int .i32 b, .int .i32 c, .int .i32 e, .int .i32 cx, .int .i32 cy] 28) = W1 at *
  have a0 := b2.at 0
  have a1 := b2.at 1
  go_upto_region 2 with fail
  have m5 := Bk.new W1 23 [.int .i32 px, .int .i32 py]
  have g1 := g0.alloc (.cells #[.int .i32 px, .int .i32 py] 23)
  have b2' := b2.alloc (.cells #[.int .i32 px, .int .i32 py] 23)
  clear a0 a1 b2 g0
  obtain ⟨B5, h5⟩ : ∃ B5, B5 = W1.heap.size := ⟨_, rfl⟩
  rw [← h5] at m5 ⊢
  clear h5
  generalize W1.alloc (.cells #[.int .i32 px, .int .i32 py] 23) = W2 at *
  have a4 := b2'.at 4
  have a5 := b2'.at 5
  have a6 := b2'.at 6
  have a7 := b2'.at 7
  go_upto_region 3 with fail
  have m6 := Bk.new W2 25 [.int .i32 a, .int .i32 b, .int .i32 c, .int .i32 e]
  have g2 := g1.alloc (.cells #[.int .i32 a, .int .i32 b, .int .i32 c, .int .i32 e] 25)
  have b2 := b2'.alloc (.cells #[.int .i32 a, .int .i32 b, .int .i32 c, .int .i32 e] 25)
  have m5' := m5.alloc (.cells #[.int .i32 a, .int .i32 b, .int .i32 c, .int .i32 e] 25)
  clear a4 a5 a6 a7 b2' g1 m5
  obtain ⟨B6, h6⟩ : ∃ B6, B6 = W2.heap.size := ⟨_, rfl⟩
  rw [← h6] at m6 ⊢
  clear h6
  generalize W2.alloc (.cells #[.int .i32 a, .int .i32 b, .int .i32 c, .int .i32 e] 25) = W3 at *
  have a8 := b2.at 8
  have a9 := b2.at 9
  go_upto_region 4 with fail
  have m7 := Bk.new W3 26 [.int .i32 cx, .int .i32 cy]
  have g3 := g2.alloc (.cells #[.int .i32 cx, .int .i32 cy] 26)
  have m5 := m5'.alloc (.cells #[.int .i32 cx, .int .i32 cy] 26)
  have m6' := m6.alloc (.cells #[.int .i32 cx, .int .i32 cy] 26)
  clear a8 a9 b2 g2 m5' m6
  obtain ⟨B7, h7⟩ : ∃ B7, B7 = W3.heap.size := ⟨_, rfl⟩
  rw [← h7] at m7 ⊢
  clear h7
  generalize W3.alloc (.cells #[.int .i32 cx, .int .i32 cy] 26) = W4 at *
  obtain ⟨p0, p1⟩ := m5.two
  go_upto_region 5 with (go_at_call 7; refine (O1.out _).mono ?_; rintro e w4 ⟨rfl, gg⟩; clear O1)
  have m8 := Bk.new w4 26 [.int .i32 oX, .int .i32 oY]
  have g4 := (g3.trans gg).alloc (.cells #[.int .i32 oX, .int .i32 oY] 26)
  have n5 := (m5.gr gg).alloc (.cells #[.int .i32 oX, .int .i32 oY] 26)
  have n6 := (m6'.gr gg).alloc (.cells #[.int .i32 oX, .int .i32 oY] 26)
  have n7 := (m7.gr gg).alloc (.cells #[.int .i32 oX, .int .i32 oY] 26)
  clear p0 p1 g3 gg m5 m6' m7
  obtain ⟨B8, h8⟩ : ∃ B8, B8 = w4.heap.size := ⟨_, rfl⟩
  rw [← h8] at m8 ⊢
  clear h8
  generalize w4.alloc (.cells #[.int .i32 oX, .int .i32 oY] 26) = W5 at *
  obtain ⟨p0, p1⟩ := n5.two
  go_upto_region 6 with (go_at_call 8; refine (O2.out _).mono ?_; rintro e w5 ⟨rfl, gg⟩; clear O2)
  have m10 := Bk.new w5 26 [.int .i32 oX, .int .i32 oY]
  have g5 := (g4.trans gg).alloc (.cells #[.int .i32 oX, .int .i32 oY] 26)
  have m6 := (n6.gr gg).alloc (.cells #[.int .i32 oX, .int .i32 oY] 26)
  have m7 := (n7.gr gg).alloc (.cells #[.int .i32 oX, .int .i32 oY] 26)
  have n8 := (m8.gr gg).alloc (.cells #[.int .i32 oX, .int .i32 oY] 26)
  clear p0 p1 g4 gg n5 n6 n7 m8
  obtain ⟨B10, h10⟩ : ∃ B10, B10 = w5.heap.size := ⟨_, rfl⟩
  rw [← h10] at m10 ⊢
  clear h10
  generalize w5.alloc (.cells #[.int .i32 oX, .int .i32 oY] 26) = W6 at *
  obtain ⟨p0, p1⟩ := m7.two
  go_upto_region 7 with (go_at_call 9; refine (Q1.out _).mono ?_; rintro e w6 ⟨rfl, gg⟩; clear Q1)
  have m12 := Bk.new w6 25 [.int .i32 k0, .int .i32 k1, .int .i32 k2, .int .i32 k3]
  have g6 := (g5.trans gg).alloc (.cells #[.int .i32 k0, .int .i32 k1, .int .i32 k2, .int .i32 k3] 25)
  have n6 := (m6.gr gg).alloc (.cells #[.int .i32 k0, .int .i32 k1, .int .i32 k2, .int .i32 k3] 25)
  have n7 := (m7.gr gg).alloc (.cells #[.int .i32 k0, .int .i32 k1, .int .i32 k2, .int .i32 k3] 25)
  have m8 := (n8.gr gg).alloc (.cells #[.int .i32 k0, .int .i32 k1, .int .i32 k2, .int .i32 k3] 25)
  have n10 := (m10.gr gg).alloc (.cells #[.int .i32 k0, .int .i32 k1, .int .i32 k2, .int .i32 k3] 25)
  clear p0 p1 g5 gg m6 m7 n8 m10
  obtain ⟨B12, h12⟩ : ∃ B12, B12 = w6.heap.size := ⟨_, rfl⟩
  rw [← h12] at m12 ⊢
  clear h12
  generalize w6.alloc (.cells #[.int .i32 k0, .int .i32 k1, .int .i32 k2, .int .i32 k3] 25) = W7 at *
  obtain ⟨p0, p1⟩ := n7.two
  go_upto_region 8 with (go_at_call 10; refine (Q2.out _).mono ?_; rintro e w7 ⟨rfl, gg⟩; clear Q2)
  have m14 := Bk.new w7 25 [.int .i32 k0, .int .i32 k1, .int .i32 k2, .int .i32 k3]
  have g7 := (g6.trans gg).alloc (.cells #[.int .i32 k0, .int .i32 k1, .int .i32 k2, .int .i32 k3] 25)
  have m6 := (n6.gr gg).alloc (.cells #[.int .i32 k0, .int .i32 k1, .int .i32 k2, .int .i32 k3] 25)
  have n8 := (m8.gr gg).alloc (.cells #[.int .i32 k0, .int .i32 k1, .int .i32 k2, .int .i32 k3] 25)
  have m10 := (n10.gr gg).alloc (.cells #[.int .i32 k0, .int .i32 k1, .int .i32 k2, .int .i32 k3] 25)
  have n12 := (m12.gr gg).alloc (.cells #[.int .i32 k0, .int .i32 k1, .int .i32 k2, .int .i32 k3] 25)
  clear p0 p1 g6 gg n6 n7 m8 n10 m12
  obtain ⟨B14, h14⟩ : ∃ B14, B14 = w7.heap.size := ⟨_, rfl⟩
  rw [← h14] at m14 ⊢
  clear h14
  generalize w7.alloc (.cells #[.int .i32 k0, .int .i32 k1, .int .i32 k2, .int .i32 k3] 25) = W at *
  have X1 : Hid (∀ n os, Calls Try.prog 11 #[bx a b c e, .int .i64 s] (grow (W.drewN n) os) fun e w' => e = .returned (.int .i64 cn) ∧ ∃ p : GrownBy, w' = grow (W.drewN p.n) p.os) := fun n os => Calls.grown_of (N1.out _)
  have X2 : Hid (∀ n os, Calls Try.prog 12 #[bx a b c e, .int .i64 s] (grow (W.drewN n) os) fun e w' => e = .returned (.int .i64 cn) ∧ ∃ p : GrownBy, w' = grow (W.drewN p.n) p.os) := fun n os => Calls.grown_of (N2.out _)
  clear N1 N2
  have q0 := cell_gr n8.two.1
  have q1 := cell_gr n8.two.2
  have q2 := cell_gr m10.two.1
  have q3 := cell_gr m10.two.2
  have q4 := cell_gr n12.four.1
  have q5 := cell_gr n12.four.2.1
  have q6 := cell_gr n12.four.2.2.1
  have q7 := cell_gr n12.four.2.2.2
  have r4 := cell_gr m14.four.1
  have r5 := cell_gr m14.four.2.1
  have r6 := cell_gr m14.four.2.2.1
  have r7 := cell_gr m14.four.2.2.2
  have t4 := cell_gr m6.four.1
  have t5 := cell_gr m6.four.2.1
  have t6 := cell_gr m6.four.2.2.1
  have t7 := cell_gr m6.four.2.2.2
  refine wp_region_quiet_grown (by kernel_rfl) (by kernel_rfl) ?_
  repeat (go_big_quiet_step (fail))
  go_big_quiet_step (exact X1.out _ _)
  repeat (go_big_quiet_step (fail))
  go_big_quiet_step (exact X2.out _ _)
  repeat (go_big_quiet_step (fail))
  refine wpQuiet_nil ?_
  intro _ hw'
  obtain ⟨⟨nq, osq⟩, hw''⟩ := hw'
  subst hw''
  have gg : Gr W (grow (W.drewN nq) osq) := ⟨nq, osq, rfl⟩
  clear X1 X2 q0 q1 q2 q3 q4 q5 q6 q7 r4 r5 r6 r7 t4 t5 t6 t7 n8 m10 n12 m14
  replace m6 := m6.gr gg
  have g8 := g7.trans gg
  clear gg g7
  generalize grow (W.drewN nq) osq = W9 at *
  clear W
  obtain ⟨p0, p1, p2, p3⟩ := m6.four
  go_upto_region 11 with (go_at_call 13; refine (CA.out _).mono ?_; rintro e w1 ⟨rfl, c1, c2, g1⟩; clear CA)
  obtain ⟨p0', p1', p2', p3'⟩ := (m6.gr g1).four
  clear p0 p1 p2 p3
  go_upto_region 12 with (go_at_call 14; refine (RC.out _).mono ?_; rintro e w2 ⟨v2, rfl, o2, h2⟩; clear RC)
  clear p0' p1' p2' p3'
  obtain ⟨ao2, cap2, rfl, P2, _⟩ := Pts.of_own o2
  replace c1 := c1.below h2
  replace c2 := c2.below h2
  have hb : Below w.heap.size w w2 := (g8.trans g1).below.trans (h2.mono (g8.trans g1).size)
  clear m6 g8
  go_wp2_with (go_at_call 16; refine (FC.out _ _ _ c2 c1).mono ?_; rintro e w3 ⟨v3, rfl, o3, h3⟩)
  obtain ⟨ao3, cap3, rfl, P3, _⟩ := Pts.of_own o3
  refine (SA.out ao3 ao2 cap3 cap2 w3 P3 (P2.mono h3)).mono ?_
  rintro e w4 ⟨rfl, g4⟩
  replace c1 := (c1.below h3).gr g4
  replace c2 := (c2.below h3).gr g4
  replace P2 := (P2.mono h3).mono g4.below
  have hb4 : Below w.heap.size w w4 := (hb.trans (h3.mono hb.size)).trans (g4.below.mono (hb.trans (h3.mono hb.size)).size)
  clear hb o3 P3 h3
  dsimp only
  go_wp2_with (go_at_call 16; refine (FC.out _ _ _ c2 c1).mono ?_; rintro e w5 ⟨v5, rfl, o5, h5⟩)
  obtain ⟨ao5, cap5, rfl, P5, _⟩ := Pts.of_own o5
  refine (SA.out ao5 ao2 cap5 cap2 w5 P5 (P2.mono h5)).mono ?_
  rintro e w6 ⟨rfl, g6⟩
  have hb5 := hb4.trans (h5.mono hb4.size)
  have hb6 := hb5.trans (g6.below.mono hb5.size)
  clear c1 c2 P2 hb4 hb5 o5 P5 h5 FC SA
  dsimp only
  go_wp2_with (go_at_call 17; refine (LV.out _).mono ?_; rintro e w7 ⟨rfl, h7⟩)
  go_ret
  exact ⟨rfl, hb6.trans (h7.mono hb6.size)⟩
end Go.Proofs.Ytmoddfikhipagaa
