/- The reference of ring: Touch, of points of the lattice. -/
import Derived.Test.YtgcofpfjdplopaaGreatR6b
namespace Go.Proofs.YtgcofpfjdplopaaGreat
section
open Go.RowKit Go.Shelf Go.Sort

def touch6 (a b c d : P2) : Bool := (((onP a c d || onP b c d) || onP c a b) || onP d a b) || (decide (sg6 (crs a b c) * sg6 (crs a b d) < 0) && decide (sg6 (crs c d a) * sg6 (crs c d b) < 0))
theorem sg6_cases (x : Int) : sg6 x = 1 ∨ sg6 x = -1 ∨ sg6 x = 0 := by unfold sg6; split; simp; split <;> simp
set_option maxRecDepth 100000 in
set_option maxHeartbeats 16000000 in
theorem touch6_any (a b c d : P2) (ha : lat a) (hb : lat b) (hc : lat c) (hd : lat d) (w : World) :
    Calls Tryz.prog 32 #[pt a.1 a.2, pt b.1 b.2, pt c.1 c.2, pt d.1 d.2] w fun e w' => e = .returned (.bool (touch6 a b c d)) ∧ Gr w w' := by
  have RI : Hid (∀ x y W, (latB x && latB y) = true → Calls Tryz.prog 28 #[pt x y] W fun e w' => e = .returned (.bool true) ∧ Gr W w') := fun x y W h => by rw [← h]; exact rin6_any x y W
  have ON : Hid (∀ px py qx qy rx ry B W, onP (px, py) (qx, qy) (rx, ry) = B → (lat (px, py) ∧ lat (qx, qy) ∧ lat (rx, ry)) → Calls Tryz.prog 31 #[pt px py, pt qx qy, pt rx ry] W fun e w' => e = .returned (.bool B) ∧ Gr W w') := fun px py qx qy rx ry B W h l => by rw [← h]; exact on6_any (px, py) (qx, qy) (rx, ry) l.1 l.2.1 l.2.2 W
  have TT : Hid (∀ px py qx qy rx ry V W, sg6 (crs (px, py) (qx, qy) (rx, ry)) = V → (lat (px, py) ∧ lat (qx, qy) ∧ lat (rx, ry)) → Calls Tryz.prog 72 #[pt px py, pt qx qy, pt rx ry] W fun e w' => e = .returned (.int .i64 V) ∧ Gr W w') := fun px py qx qy rx ry V W h l => by rw [← h]; exact turn6_any (px, py) (qx, qy) (rx, ry) l.1 l.2.1 l.2.2 W
  have hG : Gr w ((((w.alloc (.cells #[.int .i32 a.1, .int .i32 a.2] 28)).alloc (.cells #[.int .i32 b.1, .int .i32 b.2] 28)).alloc (.cells #[.int .i32 c.1, .int .i32 c.2] 28)).alloc (.cells #[.int .i32 d.1, .int .i32 d.2] 28)) := ((((Gr.refl _).alloc _).alloc _).alloc _).alloc _
  have k0 : PtB ((((w.alloc (.cells #[.int .i32 a.1, .int .i32 a.2] 28)).alloc (.cells #[.int .i32 b.1, .int .i32 b.2] 28)).alloc (.cells #[.int .i32 c.1, .int .i32 c.2] 28)).alloc (.cells #[.int .i32 d.1, .int .i32 d.2] 28)) w.heap.size a := (((PtB.new w a).alloc _).alloc _).alloc _
  have k1 : PtB ((((w.alloc (.cells #[.int .i32 a.1, .int .i32 a.2] 28)).alloc (.cells #[.int .i32 b.1, .int .i32 b.2] 28)).alloc (.cells #[.int .i32 c.1, .int .i32 c.2] 28)).alloc (.cells #[.int .i32 d.1, .int .i32 d.2] 28)) (w.heap.size + 1) b := by
    have := ((PtB.new (w.alloc (.cells #[.int .i32 a.1, .int .i32 a.2] 28)) b).alloc (.cells #[.int .i32 c.1, .int .i32 c.2] 28)).alloc (.cells #[.int .i32 d.1, .int .i32 d.2] 28)
    rwa [World.size_alloc] at this
  have k2 : PtB ((((w.alloc (.cells #[.int .i32 a.1, .int .i32 a.2] 28)).alloc (.cells #[.int .i32 b.1, .int .i32 b.2] 28)).alloc (.cells #[.int .i32 c.1, .int .i32 c.2] 28)).alloc (.cells #[.int .i32 d.1, .int .i32 d.2] 28)) (w.heap.size + 1 + 1) c := by
    have := (PtB.new ((w.alloc (.cells #[.int .i32 a.1, .int .i32 a.2] 28)).alloc (.cells #[.int .i32 b.1, .int .i32 b.2] 28)) c).alloc (.cells #[.int .i32 d.1, .int .i32 d.2] 28)
    rwa [World.size_alloc, World.size_alloc] at this
  have k3 : PtB ((((w.alloc (.cells #[.int .i32 a.1, .int .i32 a.2] 28)).alloc (.cells #[.int .i32 b.1, .int .i32 b.2] 28)).alloc (.cells #[.int .i32 c.1, .int .i32 c.2] 28)).alloc (.cells #[.int .i32 d.1, .int .i32 d.2] 28)) (w.heap.size + 1 + 1 + 1) d := by
    have := PtB.new (((w.alloc (.cells #[.int .i32 a.1, .int .i32 a.2] 28)).alloc (.cells #[.int .i32 b.1, .int .i32 b.2] 28)).alloc (.cells #[.int .i32 c.1, .int .i32 c.2] 28)) d
    rwa [World.size_alloc, World.size_alloc, World.size_alloc] at this
  obtain ⟨ax, ay⟩ := a
  obtain ⟨bx_, by_⟩ := b
  obtain ⟨cx, cy⟩ := c
  obtain ⟨dx, dy⟩ := d
  have l1 : Hid ((latB ax && latB ay) = true) := (latP_iff (ax, ay)).2 ha
  have l2 : Hid ((latB bx_ && latB by_) = true) := (latP_iff (bx_, by_)).2 hb
  have l3 : Hid ((latB cx && latB cy) = true) := (latP_iff (cx, cy)).2 hc
  have l4 : Hid ((latB dx && latB dy) = true) := (latP_iff (dx, dy)).2 hd
  have la : Hid (lat (ax, ay)) := ha
  have lb : Hid (lat (bx_, by_)) := hb
  have lc : Hid (lat (cx, cy)) := hc
  have ld : Hid (lat (dx, dy)) := hd
  clear ha hb hc hd
  have hv : Hid (touch6 (ax, ay) (bx_, by_) (cx, cy) (dx, dy) = ((((onP (ax, ay) (cx, cy) (dx, dy) || onP (bx_, by_) (cx, cy) (dx, dy)) || onP (cx, cy) (ax, ay) (bx_, by_)) || onP (dx, dy) (ax, ay) (bx_, by_)) || (decide (sg6 (crs (ax, ay) (bx_, by_) (cx, cy)) * sg6 (crs (ax, ay) (bx_, by_) (dx, dy)) < 0) && decide (sg6 (crs (cx, cy) (dx, dy) (ax, ay)) * sg6 (crs (cx, cy) (dx, dy) (bx_, by_)) < 0)))) := (by exact rfl)
  simp only at k0 k1 k2 k3 hG
  have gr : Gr ((((w.alloc (.cells #[.int .i32 ax, .int .i32 ay] 28)).alloc (.cells #[.int .i32 bx_, .int .i32 by_] 28)).alloc (.cells #[.int .i32 cx, .int .i32 cy] 28)).alloc (.cells #[.int .i32 dx, .int .i32 dy] 28)) ((((w.alloc (.cells #[.int .i32 ax, .int .i32 ay] 28)).alloc (.cells #[.int .i32 bx_, .int .i32 by_] 28)).alloc (.cells #[.int .i32 cx, .int .i32 cy] 28)).alloc (.cells #[.int .i32 dx, .int .i32 dy] 28)) := Gr.refl _
  cases ho1 : onP (ax, ay) (cx, cy) (dx, dy) with
  | true =>
    have hr : Hid (touch6 (ax, ay) (bx_, by_) (cx, cy) (dx, dy) = true) := by unfold Hid; rw [hv.out, ho1]; simp
    replace ho1 : Hid (onP (ax, ay) (cx, cy) (dx, dy) = true) := ho1
    clear hv
    go_enter Tryz.func32, Tryz.ntmps32
    go_wp2_with (first | (go_at_call 28; refine (RI.out _ _ _ (by first | exact l1.out | exact l2.out | exact l3.out | exact l4.out)).mono ?_; rintro e w1 ⟨rfl, g1⟩; replace gr := gr.trans g1; clear g1; have x0 := (k0.gr gr).c0; have y0 := (k0.gr gr).c1; have x1 := (k1.gr gr).c0; have y1 := (k1.gr gr).c1; have x2 := (k2.gr gr).c0; have y2 := (k2.gr gr).c1; have x3 := (k3.gr gr).c0; have y3 := (k3.gr gr).c1) | (go_at_call 31; refine (ON.out _ _ _ _ _ _ _ _ (by first | exact ho1.out | exact ho2.out | exact ho3.out | exact ho4.out) (by first | exact ⟨la.out, lc.out, ld.out⟩ | exact ⟨lb.out, lc.out, ld.out⟩ | exact ⟨lc.out, la.out, lb.out⟩ | exact ⟨ld.out, la.out, lb.out⟩)).mono ?_; rintro e w1 ⟨rfl, g1⟩; replace gr := gr.trans g1; clear g1; have x0 := (k0.gr gr).c0; have y0 := (k0.gr gr).c1; have x1 := (k1.gr gr).c0; have y1 := (k1.gr gr).c1; have x2 := (k2.gr gr).c0; have y2 := (k2.gr gr).c1; have x3 := (k3.gr gr).c0; have y3 := (k3.gr gr).c1))
    go_ret
    exact ⟨by rw [hr.out]; rfl, hG.trans gr⟩
  | false =>
    replace ho1 : Hid (onP (ax, ay) (cx, cy) (dx, dy) = false) := ho1
    cases ho2 : onP (bx_, by_) (cx, cy) (dx, dy) with
    | true =>
      have hr : Hid (touch6 (ax, ay) (bx_, by_) (cx, cy) (dx, dy) = true) := by unfold Hid; rw [hv.out, ho2]; simp
      replace ho2 : Hid (onP (bx_, by_) (cx, cy) (dx, dy) = true) := ho2
      clear hv
      go_enter Tryz.func32, Tryz.ntmps32
      go_wp2_with (first | (go_at_call 28; refine (RI.out _ _ _ (by first | exact l1.out | exact l2.out | exact l3.out | exact l4.out)).mono ?_; rintro e w1 ⟨rfl, g1⟩; replace gr := gr.trans g1; clear g1; have x0 := (k0.gr gr).c0; have y0 := (k0.gr gr).c1; have x1 := (k1.gr gr).c0; have y1 := (k1.gr gr).c1; have x2 := (k2.gr gr).c0; have y2 := (k2.gr gr).c1; have x3 := (k3.gr gr).c0; have y3 := (k3.gr gr).c1) | (go_at_call 31; refine (ON.out _ _ _ _ _ _ _ _ (by first | exact ho1.out | exact ho2.out | exact ho3.out | exact ho4.out) (by first | exact ⟨la.out, lc.out, ld.out⟩ | exact ⟨lb.out, lc.out, ld.out⟩ | exact ⟨lc.out, la.out, lb.out⟩ | exact ⟨ld.out, la.out, lb.out⟩)).mono ?_; rintro e w1 ⟨rfl, g1⟩; replace gr := gr.trans g1; clear g1; have x0 := (k0.gr gr).c0; have y0 := (k0.gr gr).c1; have x1 := (k1.gr gr).c0; have y1 := (k1.gr gr).c1; have x2 := (k2.gr gr).c0; have y2 := (k2.gr gr).c1; have x3 := (k3.gr gr).c0; have y3 := (k3.gr gr).c1))
      go_ret
      exact ⟨by rw [hr.out]; rfl, hG.trans gr⟩
    | false =>
      replace ho2 : Hid (onP (bx_, by_) (cx, cy) (dx, dy) = false) := ho2
      cases ho3 : onP (cx, cy) (ax, ay) (bx_, by_) with
      | true =>
        have hr : Hid (touch6 (ax, ay) (bx_, by_) (cx, cy) (dx, dy) = true) := by unfold Hid; rw [hv.out, ho3]; simp
        replace ho3 : Hid (onP (cx, cy) (ax, ay) (bx_, by_) = true) := ho3
        clear hv
        go_enter Tryz.func32, Tryz.ntmps32
        go_wp2_with (first | (go_at_call 28; refine (RI.out _ _ _ (by first | exact l1.out | exact l2.out | exact l3.out | exact l4.out)).mono ?_; rintro e w1 ⟨rfl, g1⟩; replace gr := gr.trans g1; clear g1; have x0 := (k0.gr gr).c0; have y0 := (k0.gr gr).c1; have x1 := (k1.gr gr).c0; have y1 := (k1.gr gr).c1; have x2 := (k2.gr gr).c0; have y2 := (k2.gr gr).c1; have x3 := (k3.gr gr).c0; have y3 := (k3.gr gr).c1) | (go_at_call 31; refine (ON.out _ _ _ _ _ _ _ _ (by first | exact ho1.out | exact ho2.out | exact ho3.out | exact ho4.out) (by first | exact ⟨la.out, lc.out, ld.out⟩ | exact ⟨lb.out, lc.out, ld.out⟩ | exact ⟨lc.out, la.out, lb.out⟩ | exact ⟨ld.out, la.out, lb.out⟩)).mono ?_; rintro e w1 ⟨rfl, g1⟩; replace gr := gr.trans g1; clear g1; have x0 := (k0.gr gr).c0; have y0 := (k0.gr gr).c1; have x1 := (k1.gr gr).c0; have y1 := (k1.gr gr).c1; have x2 := (k2.gr gr).c0; have y2 := (k2.gr gr).c1; have x3 := (k3.gr gr).c0; have y3 := (k3.gr gr).c1))
        go_ret
        exact ⟨by rw [hr.out]; rfl, hG.trans gr⟩
      | false =>
        replace ho3 : Hid (onP (cx, cy) (ax, ay) (bx_, by_) = false) := ho3
        cases ho4 : onP (dx, dy) (ax, ay) (bx_, by_) with
        | true =>
          have hr : Hid (touch6 (ax, ay) (bx_, by_) (cx, cy) (dx, dy) = true) := by unfold Hid; rw [hv.out, ho4]; simp
          replace ho4 : Hid (onP (dx, dy) (ax, ay) (bx_, by_) = true) := ho4
          clear hv
          go_enter Tryz.func32, Tryz.ntmps32
          go_wp2_with (first | (go_at_call 28; refine (RI.out _ _ _ (by first | exact l1.out | exact l2.out | exact l3.out | exact l4.out)).mono ?_; rintro e w1 ⟨rfl, g1⟩; replace gr := gr.trans g1; clear g1; have x0 := (k0.gr gr).c0; have y0 := (k0.gr gr).c1; have x1 := (k1.gr gr).c0; have y1 := (k1.gr gr).c1; have x2 := (k2.gr gr).c0; have y2 := (k2.gr gr).c1; have x3 := (k3.gr gr).c0; have y3 := (k3.gr gr).c1) | (go_at_call 31; refine (ON.out _ _ _ _ _ _ _ _ (by first | exact ho1.out | exact ho2.out | exact ho3.out | exact ho4.out) (by first | exact ⟨la.out, lc.out, ld.out⟩ | exact ⟨lb.out, lc.out, ld.out⟩ | exact ⟨lc.out, la.out, lb.out⟩ | exact ⟨ld.out, la.out, lb.out⟩)).mono ?_; rintro e w1 ⟨rfl, g1⟩; replace gr := gr.trans g1; clear g1; have x0 := (k0.gr gr).c0; have y0 := (k0.gr gr).c1; have x1 := (k1.gr gr).c0; have y1 := (k1.gr gr).c1; have x2 := (k2.gr gr).c0; have y2 := (k2.gr gr).c1; have x3 := (k3.gr gr).c0; have y3 := (k3.gr gr).c1))
          go_ret
          exact ⟨by rw [hr.out]; rfl, hG.trans gr⟩
        | false =>
          replace ho4 : Hid (onP (dx, dy) (ax, ay) (bx_, by_) = false) := ho4
          obtain ⟨s1, hs1⟩ : ∃ s, sg6 (crs (ax, ay) (bx_, by_) (cx, cy)) = s := ⟨_, rfl⟩
          obtain ⟨s2, hs2⟩ : ∃ s, sg6 (crs (ax, ay) (bx_, by_) (dx, dy)) = s := ⟨_, rfl⟩
          obtain ⟨s3, hs3⟩ : ∃ s, sg6 (crs (cx, cy) (dx, dy) (ax, ay)) = s := ⟨_, rfl⟩
          obtain ⟨s4, hs4⟩ : ∃ s, sg6 (crs (cx, cy) (dx, dy) (bx_, by_)) = s := ⟨_, rfl⟩
          have z12 : wrap64 (s1 * s2) = s1 * s2 := by rw [← hs1, ← hs2]; rcases sg6_cases (crs (ax, ay) (bx_, by_) (cx, cy)) with h | h | h <;> rcases sg6_cases (crs (ax, ay) (bx_, by_) (dx, dy)) with k | k | k <;> rw [h, k] <;> (unfold wrap64; omega)
          have z34 : wrap64 (s3 * s4) = s3 * s4 := by rw [← hs3, ← hs4]; rcases sg6_cases (crs (cx, cy) (dx, dy) (ax, ay)) with h | h | h <;> rcases sg6_cases (crs (cx, cy) (dx, dy) (bx_, by_)) with k | k | k <;> rw [h, k] <;> (unfold wrap64; omega)
          have hv2 : Hid (touch6 (ax, ay) (bx_, by_) (cx, cy) (dx, dy) = (decide (s1 * s2 < 0) && decide (s3 * s4 < 0))) := by unfold Hid; rw [hv.out, ho1.out, ho2.out, ho3.out, ho4.out, hs1, hs2, hs3, hs4]; simp
          replace hs1 : Hid (sg6 (crs (ax, ay) (bx_, by_) (cx, cy)) = s1) := hs1
          replace hs2 : Hid (sg6 (crs (ax, ay) (bx_, by_) (dx, dy)) = s2) := hs2
          replace hs3 : Hid (sg6 (crs (cx, cy) (dx, dy) (ax, ay)) = s3) := hs3
          replace hs4 : Hid (sg6 (crs (cx, cy) (dx, dy) (bx_, by_)) = s4) := hs4
          clear hv
          go_enter Tryz.func32, Tryz.ntmps32
          go_wp2_with (first | (go_at_call 28; refine (RI.out _ _ _ (by first | exact l1.out | exact l2.out | exact l3.out | exact l4.out)).mono ?_; rintro e w1 ⟨rfl, g1⟩; replace gr := gr.trans g1; clear g1; have x0 := (k0.gr gr).c0; have y0 := (k0.gr gr).c1; have x1 := (k1.gr gr).c0; have y1 := (k1.gr gr).c1; have x2 := (k2.gr gr).c0; have y2 := (k2.gr gr).c1; have x3 := (k3.gr gr).c0; have y3 := (k3.gr gr).c1) | (go_at_call 31; refine (ON.out _ _ _ _ _ _ _ _ (by first | exact ho1.out | exact ho2.out | exact ho3.out | exact ho4.out) (by first | exact ⟨la.out, lc.out, ld.out⟩ | exact ⟨lb.out, lc.out, ld.out⟩ | exact ⟨lc.out, la.out, lb.out⟩ | exact ⟨ld.out, la.out, lb.out⟩)).mono ?_; rintro e w1 ⟨rfl, g1⟩; replace gr := gr.trans g1; clear g1; have x0 := (k0.gr gr).c0; have y0 := (k0.gr gr).c1; have x1 := (k1.gr gr).c0; have y1 := (k1.gr gr).c1; have x2 := (k2.gr gr).c0; have y2 := (k2.gr gr).c1; have x3 := (k3.gr gr).c0; have y3 := (k3.gr gr).c1))
          clear RI ON ho1 ho2 ho3 ho4
          have u0 := cell_gr (k0.gr gr).c0
          have v0 := cell_gr (k0.gr gr).c1
          have u1 := cell_gr (k1.gr gr).c0
          have v1 := cell_gr (k1.gr gr).c1
          have u2 := cell_gr (k2.gr gr).c0
          have v2 := cell_gr (k2.gr gr).c1
          have u3 := cell_gr (k3.gr gr).c0
          have v3 := cell_gr (k3.gr gr).c1
          by_cases h12 : s1 * s2 < 0
          · refine wp_region_quiet_grown (by kernel_rfl) (by kernel_rfl) ?_
            repeat (go_big_quiet_step (exact Calls.grown_of (TT.out _ _ _ _ _ _ _ _ (by first | exact hs1.out | exact hs2.out | exact hs3.out | exact hs4.out) (by first | exact ⟨la.out, lb.out, lc.out⟩ | exact ⟨la.out, lb.out, ld.out⟩ | exact ⟨lc.out, ld.out, la.out⟩ | exact ⟨lc.out, ld.out, lb.out⟩))))
            refine wpQuiet_nil ?_
            intro _ hw'
            obtain ⟨⟨dq, osq⟩, hw''⟩ := hw'
            subst hw''
            have gg : Gr w1 (grow (w1.drewN dq) osq) := ⟨dq, osq, rfl⟩
            generalize grow (w1.drewN dq) osq = w9 at *
            go_wp2
            go_ret
            exact ⟨by rw [hv2.out]; simp [h12], hG.trans (gr.trans gg)⟩
          · refine wp_region_quiet_grown (by kernel_rfl) (by kernel_rfl) ?_
            repeat (go_big_quiet_step (exact Calls.grown_of (TT.out _ _ _ _ _ _ _ _ (by first | exact hs1.out | exact hs2.out | exact hs3.out | exact hs4.out) (by first | exact ⟨la.out, lb.out, lc.out⟩ | exact ⟨la.out, lb.out, ld.out⟩ | exact ⟨lc.out, ld.out, la.out⟩ | exact ⟨lc.out, ld.out, lb.out⟩))))
            refine wpQuiet_nil ?_
            intro _ hw'
            obtain ⟨⟨dq, osq⟩, hw''⟩ := hw'
            subst hw''
            have gg : Gr w1 (grow (w1.drewN dq) osq) := ⟨dq, osq, rfl⟩
            generalize grow (w1.drewN dq) osq = w9 at *
            go_wp2
            go_ret
            exact ⟨by rw [hv2.out]; rw [decide_eq_false (by first | exact h12 | exact Int.not_lt.2 h12)]; rfl, hG.trans (gr.trans gg)⟩
end
end Go.Proofs.YtgcofpfjdplopaaGreat
