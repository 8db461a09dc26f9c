/- Contracts of Meet and Touch: on the lattice and off it. -/
import Derived.Test.YtgcofpfjdplopaaGreatSg5
import Derived.Test.YtgcofpfjdplopaaGreatSg7
namespace Go.Proofs.YtgcofpfjdplopaaGreat
section
open Go.RowKit Go.Sort

theorem step_ok {a b c d e : P2} {m : Mt} (la : lat a) (lb : lat b) (le : lat e) (h : okM m) : okM (stepM a b c d m e) := by
  unfold stepM
  cases bothB a b c d e with
  | false => simp; exact h
  | true => simp; exact wid_ok h (foot_ok le la lb)
theorem ends_ok {a b c d : P2} (la : lat a) (lb : lat b) (lc : lat c) (ld : lat d) : okM (endsM a b c d) :=
  step_ok la lb ld (step_ok la lb lc (step_ok la lb lb (step_ok la lb la (Or.inl rfl))))
/-- Meet, of any points. -/
def meetA (a b c d : P2) : Mt := if latP a && latP b && latP c && latP d then meetM a b c d else mt0
set_option maxRecDepth 20000 in
set_option maxHeartbeats 2000000 in
theorem Meet_any (a b c d : P2) (w : World) : Calls Tryz.prog 127 #[ptv a, ptv b, ptv c, ptv d] w fun e w' => e = .returned (mtv (meetA a b c d)) ∧ Gr w w' := by
  have O : Hid (∀ (W : World) (x : Nat), W.cell? ⟨x, 0, none⟩ = some (.int .i32 a.1) → W.cell? ⟨x, 1, none⟩ = some (.int .i32 a.2) → W.cell? ⟨x, 2, none⟩ = some (.int .i32 b.1) → W.cell? ⟨x, 3, none⟩ = some (.int .i32 b.2) → W.cell? ⟨x, 4, none⟩ = some (.int .i32 c.1) → W.cell? ⟨x, 5, none⟩ = some (.int .i32 c.2) → W.cell? ⟨x, 6, none⟩ = some (.int .i32 d.1) → W.cell? ⟨x, 7, none⟩ = some (.int .i32 d.2) → Calls Tryz.prog 134 #[.slice (some ⟨x, 0, none⟩) 4 4] W fun e w' => e = .returned (.bool (latP a && latP b && latP c && latP d)) ∧ Gr W w') := fun W x c0 c1 c2 c3 c4 c5 c6 c7 => ofl4 W a b c d x 4 c0 c1 c2 c3 c4 c5 c6 c7
  have F : Hid ((latP a && latP b && latP c && latP d) = true → ∀ w, Calls Tryz.prog 135 #[endv a b c d] w fun e w' => e = .returned (mtv (endsM a b c d)) ∧ Gr w w') := fun h => by
    rw [Bool.and_eq_true, Bool.and_eq_true, Bool.and_eq_true, latP_iff, latP_iff, latP_iff, latP_iff] at h
    exact ends_any a b c d h.1.1.1 h.1.1.2 h.1.2 h.2
  have I : Hid ((latP a && latP b && latP c && latP d) = true → ∀ w, Calls Tryz.prog 136 #[endv a b c d] w fun e w' => e = .returned (mtv (insideM a b c d)) ∧ Gr w w') := fun h => by
    rw [Bool.and_eq_true, Bool.and_eq_true, Bool.and_eq_true, latP_iff, latP_iff, latP_iff, latP_iff] at h
    exact inside_any a b c d h.1.1.1 h.1.1.2 h.1.2 h.2
  have K : Hid ((latP a && latP b && latP c && latP d) = true → okM (endsM a b c d)) := fun h => by
    rw [Bool.and_eq_true, Bool.and_eq_true, Bool.and_eq_true, latP_iff, latP_iff, latP_iff, latP_iff] at h
    exact ends_ok h.1.1.1 h.1.1.2 h.1.2 h.2
  have E : Hid (meetA a b c d = if latP a && latP b && latP c && latP d then (if endsM a b c d = mt0 then insideM a b c d else endsM a b c d) else mt0) := rfl
  generalize (latP a && latP b && latP c && latP d) = B at *
  generalize endsM a b c d = m at *
  generalize insideM a b c d = m' at *
  obtain ⟨ax, ay⟩ := a
  obtain ⟨bx, by_⟩ := b
  obtain ⟨cx, cy⟩ := c
  obtain ⟨dx, dy⟩ := d
  show Calls Tryz.prog 127 #[pt ax ay, pt bx by_, pt cx cy, pt dx dy] w _
  have hR : M6 (((((w.alloc (.cells #[.int .i32 ax, .int .i32 ay] 28)).alloc (.cells #[.int .i32 bx, .int .i32 by_] 28)).alloc (.cells #[.int .i32 cx, .int .i32 cy] 28)).alloc (.cells #[.int .i32 dx, .int .i32 dy] 28)).alloc (.cells #[.int .u8 0, .bool false, .int .i64 0, .int .i64 0, .int .i64 0, .int .i64 0] 173)) (w.heap.size + 1 + 1 + 1 + 1) (.int .u8 0) (.bool false) (.int .i64 0) (.int .i64 0) (.int .i64 0) (.int .i64 0) := by
    have := M6.new ((((w.alloc (.cells #[.int .i32 ax, .int .i32 ay] 28)).alloc (.cells #[.int .i32 bx, .int .i32 by_] 28)).alloc (.cells #[.int .i32 cx, .int .i32 cy] 28)).alloc (.cells #[.int .i32 dx, .int .i32 dy] 28)) (.int .u8 0) (.bool false) (.int .i64 0) (.int .i64 0) (.int .i64 0) (.int .i64 0)
    simpa using this
  have hG : Gr w (((((w.alloc (.cells #[.int .i32 ax, .int .i32 ay] 28)).alloc (.cells #[.int .i32 bx, .int .i32 by_] 28)).alloc (.cells #[.int .i32 cx, .int .i32 cy] 28)).alloc (.cells #[.int .i32 dx, .int .i32 dy] 28)).alloc (.cells #[.int .u8 0, .bool false, .int .i64 0, .int .i64 0, .int .i64 0, .int .i64 0] 173)) := ((((((Gr.refl _).alloc _).alloc _).alloc _).alloc _).alloc _)
  go_enter Tryz.func127, Tryz.ntmps127
  go_wp2_with fail
  refine (O.out _ _ ?_ ?_ ?_ ?_ ?_ ?_ ?_ ?_).mono ?_
  · go_simp
  · go_simp
  · go_simp
  · go_simp
  · go_simp
  · go_simp
  · go_simp
  · go_simp
  rintro e w1 ⟨rfl, q1⟩
  have hA : E8 ((((((w.alloc (.cells #[.int .i32 ax, .int .i32 ay] 28)).alloc (.cells #[.int .i32 bx, .int .i32 by_] 28)).alloc (.cells #[.int .i32 cx, .int .i32 cy] 28)).alloc (.cells #[.int .i32 dx, .int .i32 dy] 28)).alloc (.cells #[.int .u8 0, .bool false, .int .i64 0, .int .i64 0, .int .i64 0, .int .i64 0] 173)).alloc (.cells #[.int .i32 ax, .int .i32 ay, .int .i32 bx, .int .i32 by_, .int .i32 cx, .int .i32 cy, .int .i32 dx, .int .i32 dy] 178)) (w.heap.size + 1 + 1 + 1 + 1 + 1) (.int .i32 ax) (.int .i32 ay) (.int .i32 bx) (.int .i32 by_) (.int .i32 cx) (.int .i32 cy) (.int .i32 dx) (.int .i32 dy) := by
    have := E8.new (((((w.alloc (.cells #[.int .i32 ax, .int .i32 ay] 28)).alloc (.cells #[.int .i32 bx, .int .i32 by_] 28)).alloc (.cells #[.int .i32 cx, .int .i32 cy] 28)).alloc (.cells #[.int .i32 dx, .int .i32 dy] 28)).alloc (.cells #[.int .u8 0, .bool false, .int .i64 0, .int .i64 0, .int .i64 0, .int .i64 0] 173)) (.int .i32 ax) (.int .i32 ay) (.int .i32 bx) (.int .i32 by_) (.int .i32 cx) (.int .i32 cy) (.int .i32 dx) (.int .i32 dy)
    simpa using this
  have g5 := (Gr.refl (((((w.alloc (.cells #[.int .i32 ax, .int .i32 ay] 28)).alloc (.cells #[.int .i32 bx, .int .i32 by_] 28)).alloc (.cells #[.int .i32 cx, .int .i32 cy] 28)).alloc (.cells #[.int .i32 dx, .int .i32 dy] 28)).alloc (.cells #[.int .u8 0, .bool false, .int .i64 0, .int .i64 0, .int .i64 0, .int .i64 0] 173))).alloc (.cells #[.int .i32 ax, .int .i32 ay, .int .i32 bx, .int .i32 by_, .int .i32 cx, .int .i32 cy, .int .i32 dx, .int .i32 dy] 178)
  replace hR := (hR.gr g5).gr q1
  replace hG := (hG.trans g5).trans q1
  replace hA := hA.gr q1
  clear q1 g5 O
  cases B with
  | false =>
    have r0 := hR.c0
    have r1 := hR.c1
    have r2 := hR.c2
    have r3 := hR.c3
    have r4 := hR.c4
    have r5 := hR.c5
    have rf := hR.f
    go_wp2
    refine bodyPost_ret (v := mtv mt0) (by simp [results, Tryz.results127, go_sem, r0, r1, r2, r3, r4, r5, mt0]) rfl ⟨by rw [E.out]; rfl, ?_⟩
    exact (((((hG.setCell (by simp only []; omega) _).setCell (by simp only []; omega) _).setCell (by simp only []; omega) _).setCell (by simp only []; omega) _).setCell (by simp only []; omega) _).setCell (by simp only []; omega) _
  | true =>
    have F' := hid' (F.out rfl)
    have I' := hid' (I.out rfl)
    have K' := K.out rfl
    have E' : Hid (meetA (ax, ay) (bx, by_) (cx, cy) (dx, dy) = if m = mt0 then m' else m) := E.out
    clear F I K E
    have y0 := hA.c0
    have y1 := hA.c1
    have y2 := hA.c2
    have y3 := hA.c3
    have y4 := hA.c4
    have y5 := hA.c5
    have y6 := hA.c6
    have y7 := hA.c7
    go_wp2_with fail
    refine (F'.out _).mono ?_
    rintro e w2 ⟨rfl, q2⟩
    replace hR := hR.gr q2
    replace hG := hG.trans q2
    replace hA := hA.gr q2
    clear q2 y0 y1 y2 y3 y4 y5 y6 y7 F'
    rcases K' with rfl | ⟨f, rfl, _⟩ | ⟨f, g, rfl, _, _⟩
    · rw [if_pos rfl] at E'
      have y0 := fun o => (hA.gr ((Gr.refl _).alloc o)).c0
      have y1 := fun o => (hA.gr ((Gr.refl _).alloc o)).c1
      have y2 := fun o => (hA.gr ((Gr.refl _).alloc o)).c2
      have y3 := fun o => (hA.gr ((Gr.refl _).alloc o)).c3
      have y4 := fun o => (hA.gr ((Gr.refl _).alloc o)).c4
      have y5 := fun o => (hA.gr ((Gr.refl _).alloc o)).c5
      have y6 := fun o => (hA.gr ((Gr.refl _).alloc o)).c6
      have y7 := fun o => (hA.gr ((Gr.refl _).alloc o)).c7
      unfold mt0
      go_wp2_with fail
      refine (I'.out _).mono ?_
      rintro e w3 ⟨rfl, q3⟩
      have g6 := (Gr.refl w2).alloc (.cells #[.int .u8 0, .bool false, .int .i64 0, .int .i64 0, .int .i64 0, .int .i64 0] 173)
      replace hR := (hR.gr g6).gr q3
      replace hG := (hG.trans g6).trans q3
      clear q3 g6 y0 y1 y2 y3 y4 y5 y6 y7
      have r0 := hR.c0
      have r1 := hR.c1
      have r2 := hR.c2
      have r3 := hR.c3
      have r4 := hR.c4
      have r5 := hR.c5
      have rf := hR.f
      go_wp2
      refine bodyPost_ret (v := mtv m') (by simp [results, Tryz.results127, go_sem, r0, r1, r2, r3, r4, r5]) rfl ⟨by rw [E'.out], ?_⟩
      exact (((((hG.setCell (by simp only []; omega) _).setCell (by simp only []; omega) _).setCell (by simp only []; omega) _).setCell (by simp only []; omega) _).setCell (by simp only []; omega) _).setCell (by simp only []; omega) _
    · rw [if_neg (one_ne f)] at E'
      clear I'
      obtain ⟨fn, fd⟩ := f
      unfold oneM at *
      have r0 := fun o => (hR.gr ((Gr.refl _).alloc o)).c0
      have r1 := fun o => (hR.gr ((Gr.refl _).alloc o)).c1
      have r2 := fun o => (hR.gr ((Gr.refl _).alloc o)).c2
      have r3 := fun o => (hR.gr ((Gr.refl _).alloc o)).c3
      have r4 := fun o => (hR.gr ((Gr.refl _).alloc o)).c4
      have r5 := fun o => (hR.gr ((Gr.refl _).alloc o)).c5
      have rf := fun o => (hR.gr ((Gr.refl _).alloc o)).f
      go_wp2
      refine bodyPost_ret (v := mtv (1, false, (fn, fd), (fn, fd))) (by simp [results, Tryz.results127, go_sem, r0, r1, r2, r3, r4, r5]) rfl ⟨by rw [E'.out], ?_⟩
      exact ((((((hG.alloc _).setCell (by simp only []; omega) _).setCell (by simp only []; omega) _).setCell (by simp only []; omega) _).setCell (by simp only []; omega) _).setCell (by simp only []; omega) _).setCell (by simp only []; omega) _
    · rw [if_neg (two_ne f g)] at E'
      clear I'
      obtain ⟨fn, fd⟩ := f
      obtain ⟨gn, gd⟩ := g
      have r0 := fun o => (hR.gr ((Gr.refl _).alloc o)).c0
      have r1 := fun o => (hR.gr ((Gr.refl _).alloc o)).c1
      have r2 := fun o => (hR.gr ((Gr.refl _).alloc o)).c2
      have r3 := fun o => (hR.gr ((Gr.refl _).alloc o)).c3
      have r4 := fun o => (hR.gr ((Gr.refl _).alloc o)).c4
      have r5 := fun o => (hR.gr ((Gr.refl _).alloc o)).c5
      have rf := fun o => (hR.gr ((Gr.refl _).alloc o)).f
      go_wp2
      refine bodyPost_ret (v := mtv (2, false, (fn, fd), (gn, gd))) (by simp [results, Tryz.results127, go_sem, r0, r1, r2, r3, r4, r5]) rfl ⟨by rw [E'.out], ?_⟩
      exact ((((((hG.alloc _).setCell (by simp only []; omega) _).setCell (by simp only []; omega) _).setCell (by simp only []; omega) _).setCell (by simp only []; omega) _).setCell (by simp only []; omega) _).setCell (by simp only []; omega) _
end
end Go.Proofs.YtgcofpfjdplopaaGreat
