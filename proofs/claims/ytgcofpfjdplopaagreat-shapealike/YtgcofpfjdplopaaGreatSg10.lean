/- Contracts of Touch and NearSeg. -/
import Derived.Test.YtgcofpfjdplopaaGreatSg8
import Derived.Test.YtgcofpfjdplopaaGreatSg9
namespace Go.Proofs.YtgcofpfjdplopaaGreat
section
open Go.RowKit Go.Sort

theorem meet_shape {a b c d : P2} : meetA a b c d = mt0 ∨ (∃ i f g, meetA a b c d = (1, i, f, g)) ∨ (∃ i f g, meetA a b c d = (2, i, f, g)) := by
  unfold meetA
  cases h : (latP a && latP b && latP c && latP d) with
  | false => left; simp
  | true =>
    simp only [if_true]
    rw [Bool.and_eq_true, Bool.and_eq_true, Bool.and_eq_true, latP_iff, latP_iff, latP_iff, latP_iff] at h
    unfold meetM
    rcases ends_ok h.1.1.1 h.1.1.2 h.1.2 h.2 with e | ⟨f, e, _⟩ | ⟨f, g, e, _, _⟩
    · rw [if_pos e]
      unfold insideM
      split
      · right; left; exact ⟨_, _, _, rfl⟩
      · left; rfl
    · rw [e, if_neg (one_ne f)]; right; left; exact ⟨_, _, _, rfl⟩
    · rw [e, if_neg (two_ne f g)]; right; right; exact ⟨_, _, _, rfl⟩
/-- Do they meet? -/
def touchA (a b c d : P2) : Bool := decide (meetA a b c d ≠ mt0)
set_option maxHeartbeats 1000000 in
theorem Touch_any (a b c d : P2) (w : World) : Calls Tryz.prog 123 #[ptv a, ptv b, ptv c, ptv d] w fun e w' => e = .returned (.bool (touchA a b c d)) ∧ Gr w w' := by
  have M : Hid (∀ w, Calls Tryz.prog 127 #[ptv a, ptv b, ptv c, ptv d] w fun e w' => e = .returned (mtv (meetA a b c d)) ∧ Gr w w') := Meet_any a b c d
  have E : Hid (touchA a b c d = decide (meetA a b c d ≠ mt0)) := rfl
  have S := meet_shape (a := a) (b := b) (c := c) (d := d)
  generalize meetA a b c d = m at *
  obtain ⟨ax, ay⟩ := a
  obtain ⟨bx, by_⟩ := b
  obtain ⟨cx, cy⟩ := c
  obtain ⟨dx, dy⟩ := d
  show Calls Tryz.prog 123 #[pt ax ay, pt bx by_, pt cx cy, pt dx dy] w _
  go_enter Tryz.func123, Tryz.ntmps123
  go_wp2_with fail
  refine (M.out _).mono ?_
  rintro e w1 ⟨rfl, q1⟩
  have hG : Gr w w1 := ((((((Gr.refl _).alloc _).alloc _).alloc _).alloc _)).trans q1
  clear q1 M
  rcases S with rfl | ⟨i, ⟨fn, fd⟩, ⟨gn, gd⟩, rfl⟩ | ⟨i, ⟨fn, fd⟩, ⟨gn, gd⟩, rfl⟩
  · unfold mt0 at *
    go_wp2
    go_ret
    exact ⟨by rw [E.out]; simp, hG⟩
  · go_wp2
    go_ret
    exact ⟨by rw [E.out]; simp [mt0], hG⟩
  · go_wp2
    go_ret
    exact ⟨by rw [E.out]; simp [mt0], hG⟩

/-- Are two segments no farther than r apart? -/
def nearS (a b c d : P2) (r : Int) : Bool := decide (0 ≤ r) && (latP a && latP b && latP c && latP d) && (touchA a b c d || endN a b c d r)
set_option maxHeartbeats 1000000 in
theorem NearSeg_any (a b c d : P2) (r : Int) (w : World) : Calls Tryz.prog 206 #[ptv a, ptv b, ptv c, ptv d, .int .i64 r] w fun e w' => e = .returned (.bool (nearS a b c d r)) ∧ Gr w w' := by
  have O : Hid (∀ (W : World) (x : Nat), W.cell? ⟨x, 0, none⟩ = some (.int .i32 a.1) → W.cell? ⟨x, 1, none⟩ = some (.int .i32 a.2) → W.cell? ⟨x, 2, none⟩ = some (.int .i32 b.1) → W.cell? ⟨x, 3, none⟩ = some (.int .i32 b.2) → W.cell? ⟨x, 4, none⟩ = some (.int .i32 c.1) → W.cell? ⟨x, 5, none⟩ = some (.int .i32 c.2) → W.cell? ⟨x, 6, none⟩ = some (.int .i32 d.1) → W.cell? ⟨x, 7, none⟩ = some (.int .i32 d.2) → Calls Tryz.prog 134 #[.slice (some ⟨x, 0, none⟩) 4 4] W fun e w' => e = .returned (.bool (latP a && latP b && latP c && latP d)) ∧ Gr W w') := fun W x c0 c1 c2 c3 c4 c5 c6 c7 => ofl4 W a b c d x 4 c0 c1 c2 c3 c4 c5 c6 c7
  have E : Hid (nearS a b c d r = (decide (0 ≤ r) && (latP a && latP b && latP c && latP d) && (touchA a b c d || endN a b c d r))) := rfl
  have T : Hid (∀ w, Calls Tryz.prog 123 #[ptv a, ptv b, ptv c, ptv d] w fun e w' => e = .returned (.bool (touchA a b c d)) ∧ Gr w w') := Touch_any a b c d
  have F : Hid ((latP a && latP b && latP c && latP d) = true → 0 ≤ r → ∀ w, Calls Tryz.prog 207 #[endv a b c d, .int .i64 r] w fun e w' => e = .returned (.bool (endN a b c d r)) ∧ Gr w w') := fun h hr => by
    rw [Bool.and_eq_true, Bool.and_eq_true, Bool.and_eq_true, latP_iff, latP_iff, latP_iff, latP_iff] at h
    exact endNear_any a b c d r h.1.1.1 h.1.1.2 h.1.2 h.2 hr
  generalize (latP a && latP b && latP c && latP d) = B at *
  generalize touchA a b c d = TB at *
  generalize endN a b c d r = NB at *
  obtain ⟨ax, ay⟩ := a
  obtain ⟨bx, by_⟩ := b
  obtain ⟨cx, cy⟩ := c
  obtain ⟨dx, dy⟩ := d
  show Calls Tryz.prog 206 #[pt ax ay, pt bx by_, pt cx cy, pt dx dy, .int .i64 r] w _
  by_cases hr : r < 0
  · have hd : decide (0 ≤ r) = false := decide_eq_false (by omega)
    go_enter Tryz.func206, Tryz.ntmps206
    go_wp2
    go_ret
    exact ⟨by rw [E.out, hd]; rfl, ((((((Gr.refl _).alloc _).alloc _).alloc _).alloc _).alloc _)⟩
  · have hd : decide (0 ≤ r) = true := decide_eq_true (by omega)
    have F' := hid' (fun h => F.out h (by omega))
    go_enter Tryz.func206, Tryz.ntmps206
    go_wp2_with fail
    refine (O.out _ _ ?_ ?_ ?_ ?_ ?_ ?_ ?_ ?_).mono ?_
    · go_simp
    · go_simp
    · go_simp
    · go_simp
    · go_simp
    · go_simp
    · go_simp
    · go_simp
    rintro e w1 ⟨rfl, q1⟩
    have hA : E8 (((((w.alloc (.cells #[.int .i32 ax, .int .i32 ay] 28)).alloc (.cells #[.int .i32 bx, .int .i32 by_] 28)).alloc (.cells #[.int .i32 cx, .int .i32 cy] 28)).alloc (.cells #[.int .i32 dx, .int .i32 dy] 28)).alloc (.cells #[.int .i32 ax, .int .i32 ay, .int .i32 bx, .int .i32 by_, .int .i32 cx, .int .i32 cy, .int .i32 dx, .int .i32 dy] 178)) (w.heap.size + 1 + 1 + 1 + 1) (.int .i32 ax) (.int .i32 ay) (.int .i32 bx) (.int .i32 by_) (.int .i32 cx) (.int .i32 cy) (.int .i32 dx) (.int .i32 dy) := by
      have := E8.new ((((w.alloc (.cells #[.int .i32 ax, .int .i32 ay] 28)).alloc (.cells #[.int .i32 bx, .int .i32 by_] 28)).alloc (.cells #[.int .i32 cx, .int .i32 cy] 28)).alloc (.cells #[.int .i32 dx, .int .i32 dy] 28)) (.int .i32 ax) (.int .i32 ay) (.int .i32 bx) (.int .i32 by_) (.int .i32 cx) (.int .i32 cy) (.int .i32 dx) (.int .i32 dy)
      simpa using this
    have hG : Gr w w1 := (((((((Gr.refl _).alloc _).alloc _).alloc _).alloc _).alloc _)).trans q1
    replace hA := hA.gr q1
    obtain ⟨c1, f1⟩ := q1.cells
    have n1 := q1.size
    simp only [World.size_alloc] at n1
    have p0 : w1.cell? ⟨w.heap.size, 0, none⟩ = some (.int .i32 ax) := by rw [c1 _ _ (by simp only [World.size_alloc]; omega)]; go_simp
    have p1 : w1.cell? ⟨w.heap.size, 1, none⟩ = some (.int .i32 ay) := by rw [c1 _ _ (by simp only [World.size_alloc]; omega)]; go_simp
    have p2 : w1.cell? ⟨w.heap.size + 1, 0, none⟩ = some (.int .i32 bx) := by rw [c1 _ _ (by simp only [World.size_alloc]; omega)]; go_simp
    have p3 : w1.cell? ⟨w.heap.size + 1, 1, none⟩ = some (.int .i32 by_) := by rw [c1 _ _ (by simp only [World.size_alloc]; omega)]; go_simp
    have p4 : w1.cell? ⟨w.heap.size + 1 + 1, 0, none⟩ = some (.int .i32 cx) := by rw [c1 _ _ (by simp only [World.size_alloc]; omega)]; go_simp
    have p5 : w1.cell? ⟨w.heap.size + 1 + 1, 1, none⟩ = some (.int .i32 cy) := by rw [c1 _ _ (by simp only [World.size_alloc]; omega)]; go_simp
    have p6 : w1.cell? ⟨w.heap.size + 1 + 1 + 1, 0, none⟩ = some (.int .i32 dx) := by rw [c1 _ _ (by simp only [World.size_alloc]; omega)]; go_simp
    have p7 : w1.cell? ⟨w.heap.size + 1 + 1 + 1, 1, none⟩ = some (.int .i32 dy) := by rw [c1 _ _ (by simp only [World.size_alloc]; omega)]; go_simp
    clear c1 f1 q1 O
    cases B with
    | false =>
      go_wp2
      go_ret
      exact ⟨by rw [E.out, hd]; rfl, hG⟩
    | true =>
      go_wp2_with fail
      refine (T.out _).mono ?_
      rintro e w2 ⟨rfl, q2⟩
      replace hG := hG.trans q2
      replace hA := hA.gr q2
      clear q2 p0 p1 p2 p3 p4 p5 p6 p7 T
      cases TB with
      | true =>
        go_wp2
        go_ret
        exact ⟨by rw [E.out, hd]; rfl, hG⟩
      | false =>
        have y0 := hA.c0
        have y1 := hA.c1
        have y2 := hA.c2
        have y3 := hA.c3
        have y4 := hA.c4
        have y5 := hA.c5
        have y6 := hA.c6
        have y7 := hA.c7
        have F2 := hid' (F'.out (by simp))
        go_wp2_with fail
        refine (F2.out _).mono ?_
        rintro e w3 ⟨rfl, q3⟩
        go_wp2
        go_ret
        exact ⟨by rw [E.out, hd]; rfl, hG.trans q3⟩
end
end Go.Proofs.YtgcofpfjdplopaaGreat
