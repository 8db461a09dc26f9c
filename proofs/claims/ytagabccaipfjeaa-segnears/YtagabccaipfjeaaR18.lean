/- The reference's Meet: off the lattice, of one point, of two segments of one line. -/
import Derived.Test.YtagabccaipfjeaaR17
import Derived.Deep.CutBlock
namespace Go.Proofs.Ytagabccaipfjeaa
open Go.RowKit Go.Sort

/-- What Meet has in memory: its four points, its answer's block. -/
structure Mq (w w' : World) (a b c d : P2) : Prop where
  a : TwoIs w' w.heap.size a.1 a.2
  b : TwoIs w' (w.heap.size + 1) b.1 b.2
  c : TwoIs w' (w.heap.size + 1 + 1) c.1 c.2
  d : TwoIs w' (w.heap.size + 1 + 1 + 1) d.1 d.2
  r : M6 w' (w.heap.size + 1 + 1 + 1 + 1) (.int .u8 0) (.bool false) (.int .i64 0) (.int .i64 0) (.int .i64 0) (.int .i64 0)
  g : Below w.heap.size w w'
theorem Mq.mono {w w1 w2 : World} {a b c d : P2} (h : Mq w w1 a b c d) (g : Below w1.heap.size w1 w2) : Mq w w2 a b c d :=
  ⟨⟨below_cell h.a.c0 g, below_cell h.a.c1 g⟩, ⟨below_cell h.b.c0 g, below_cell h.b.c1 g⟩, ⟨below_cell h.c.c0 g, below_cell h.c.c1 g⟩, ⟨below_cell h.d.c0 g, below_cell h.d.c1 g⟩, h.r.mono g h.r.lt, h.g.trans (g.mono h.g.size)⟩
theorem Mq.new (w : World) (ax ay bx by_ cx cy dx dy : Int) : Mq w (((((w.alloc (.cells #[.int .i32 ax, .int .i32 ay] 23)).alloc (.cells #[.int .i32 bx, .int .i32 by_] 23)).alloc (.cells #[.int .i32 cx, .int .i32 cy] 23)).alloc (.cells #[.int .i32 dx, .int .i32 dy] 23)).alloc (.cells #[.int .u8 0, .bool false, .int .i64 0, .int .i64 0, .int .i64 0, .int .i64 0] 30)) (ax, ay) (bx, by_) (cx, cy) (dx, dy) := by
  refine ⟨⟨by go_simp, by go_simp⟩, ⟨by go_simp, by go_simp⟩, ⟨by go_simp, by go_simp⟩, ⟨by go_simp, by go_simp⟩, ?_, ((((((Gr.refl _).alloc _).alloc _).alloc _).alloc _).alloc _).below⟩
  have := M6.new ((((w.alloc (.cells #[.int .i32 ax, .int .i32 ay] 23)).alloc (.cells #[.int .i32 bx, .int .i32 by_] 23)).alloc (.cells #[.int .i32 cx, .int .i32 cy] 23)).alloc (.cells #[.int .i32 dx, .int .i32 dy] 23)) (.int .u8 0) (.bool false) (.int .i64 0) (.int .i64 0) (.int .i64 0) (.int .i64 0)
  simpa using this
theorem ne_eqB {a b : P2} (h : a ≠ b) : Hid ((a.1 == b.1) = false ∨ ((a.1 == b.1) = true ∧ (a.2 == b.2) = false)) := by
  unfold Hid
  by_cases k : a.1 = b.1
  · right; exact ⟨by simp [k], by simp; intro q; exact h (Prod.ext k q)⟩
  · left; simp [k]
set_option maxRecDepth 20000 in
set_option maxHeartbeats 4000000 in
theorem rmeet_offA (a b c d : P2) (w : World) (la : latP a = false) : Calls Try.prog 7 #[ptv a, ptv b, ptv c, ptv d] w fun e w' => e = .returned (mtv mt0) ∧ Below w.heap.size w w' := by
  have IA : Hid (∀ W, Calls Try.prog 18 #[ptv a] W fun e w' => e = .returned (.bool false) ∧ Gr W w') := fun W => by have := rin_any a W; rw [la] at this; exact this
  obtain ⟨ax, ay⟩ := a
  obtain ⟨bx, by_⟩ := b
  obtain ⟨cx, cy⟩ := c
  obtain ⟨dx, dy⟩ := d
  have S : Mq w (((((w.alloc (.cells #[.int .i32 ax, .int .i32 ay] 23)).alloc (.cells #[.int .i32 bx, .int .i32 by_] 23)).alloc (.cells #[.int .i32 cx, .int .i32 cy] 23)).alloc (.cells #[.int .i32 dx, .int .i32 dy] 23)).alloc (.cells #[.int .u8 0, .bool false, .int .i64 0, .int .i64 0, .int .i64 0, .int .i64 0] 30)) (ax, ay) (bx, by_) (cx, cy) (dx, dy) := Mq.new w ax ay bx by_ cx cy dx dy
  show Calls Try.prog 7 #[pt ax ay, pt bx by_, pt cx cy, pt dx dy] w _
  go_enter Try.func7, Try.ntmps7
  go_wp2_with fail
  refine (IA.out _).mono ?_
  generalize (((((w.alloc (.cells #[.int .i32 ax, .int .i32 ay] 23)).alloc (.cells #[.int .i32 bx, .int .i32 by_] 23)).alloc (.cells #[.int .i32 cx, .int .i32 cy] 23)).alloc (.cells #[.int .i32 dx, .int .i32 dy] 23)).alloc (.cells #[.int .u8 0, .bool false, .int .i64 0, .int .i64 0, .int .i64 0, .int .i64 0] 30)) = W at *
  rintro e w1 ⟨rfl, g1⟩
  replace S := S.mono g1.below
  clear g1
  have r0 := S.r.c0
  have r1 := S.r.c1
  have r2 := S.r.c2
  have r3 := S.r.c3
  have r4 := S.r.c4
  have r5 := S.r.c5
  have rf := S.r.f
  have hb := S.g
  go_wp2
  refine bodyPost_ret (v := mtv mt0) (by simp [results, Try.results7, go_sem, r0, r1, r2, r3, r4, r5, mt0]) rfl ⟨rfl, ?_⟩
  exact (((((hb.setCell (by simp only []; omega) _).setCell (by simp only []; omega) _).setCell (by simp only []; omega) _).setCell (by simp only []; omega) _).setCell (by simp only []; omega) _).setCell (by simp only []; omega) _
set_option maxRecDepth 20000 in
set_option maxHeartbeats 4000000 in
theorem rmeet_offB (a b c d : P2) (w : World) (la : lat a) (lb : latP b = false) : Calls Try.prog 7 #[ptv a, ptv b, ptv c, ptv d] w fun e w' => e = .returned (mtv mt0) ∧ Below w.heap.size w w' := by
  have IA : Hid (∀ W, Calls Try.prog 18 #[ptv a] W fun e w' => e = .returned (.bool true) ∧ Gr W w') := fun W => by have := rin_any a W; rw [(latP_iff a).mpr la] at this; exact this
  have IB : Hid (∀ W, Calls Try.prog 18 #[ptv b] W fun e w' => e = .returned (.bool false) ∧ Gr W w') := fun W => by have := rin_any b W; rw [lb] at this; exact this
  obtain ⟨ax, ay⟩ := a
  obtain ⟨bx, by_⟩ := b
  obtain ⟨cx, cy⟩ := c
  obtain ⟨dx, dy⟩ := d
  have S : Mq w (((((w.alloc (.cells #[.int .i32 ax, .int .i32 ay] 23)).alloc (.cells #[.int .i32 bx, .int .i32 by_] 23)).alloc (.cells #[.int .i32 cx, .int .i32 cy] 23)).alloc (.cells #[.int .i32 dx, .int .i32 dy] 23)).alloc (.cells #[.int .u8 0, .bool false, .int .i64 0, .int .i64 0, .int .i64 0, .int .i64 0] 30)) (ax, ay) (bx, by_) (cx, cy) (dx, dy) := Mq.new w ax ay bx by_ cx cy dx dy
  show Calls Try.prog 7 #[pt ax ay, pt bx by_, pt cx cy, pt dx dy] w _
  go_enter Try.func7, Try.ntmps7
  go_wp2_with fail
  refine (IA.out _).mono ?_
  generalize (((((w.alloc (.cells #[.int .i32 ax, .int .i32 ay] 23)).alloc (.cells #[.int .i32 bx, .int .i32 by_] 23)).alloc (.cells #[.int .i32 cx, .int .i32 cy] 23)).alloc (.cells #[.int .i32 dx, .int .i32 dy] 23)).alloc (.cells #[.int .u8 0, .bool false, .int .i64 0, .int .i64 0, .int .i64 0, .int .i64 0] 30)) = W at *
  rintro e w1 ⟨rfl, g1⟩
  replace S := S.mono g1.below
  clear g1
  have b0 := S.b.c0
  have b1 := S.b.c1
  go_wp2_with fail
  refine (IB.out _).mono ?_
  rintro e w2 ⟨rfl, g2⟩
  replace S := S.mono g2.below
  clear g2
  clear b0 b1
  have r0 := S.r.c0
  have r1 := S.r.c1
  have r2 := S.r.c2
  have r3 := S.r.c3
  have r4 := S.r.c4
  have r5 := S.r.c5
  have rf := S.r.f
  have hb := S.g
  go_wp2
  refine bodyPost_ret (v := mtv mt0) (by simp [results, Try.results7, go_sem, r0, r1, r2, r3, r4, r5, mt0]) rfl ⟨rfl, ?_⟩
  exact (((((hb.setCell (by simp only []; omega) _).setCell (by simp only []; omega) _).setCell (by simp only []; omega) _).setCell (by simp only []; omega) _).setCell (by simp only []; omega) _).setCell (by simp only []; omega) _
set_option maxRecDepth 20000 in
set_option maxHeartbeats 4000000 in
theorem rmeet_offC (a b c d : P2) (w : World) (la : lat a) (lb : lat b) (lc : latP c = false) : Calls Try.prog 7 #[ptv a, ptv b, ptv c, ptv d] w fun e w' => e = .returned (mtv mt0) ∧ Below w.heap.size w w' := by
  have IA : Hid (∀ W, Calls Try.prog 18 #[ptv a] W fun e w' => e = .returned (.bool true) ∧ Gr W w') := fun W => by have := rin_any a W; rw [(latP_iff a).mpr la] at this; exact this
  have IB : Hid (∀ W, Calls Try.prog 18 #[ptv b] W fun e w' => e = .returned (.bool true) ∧ Gr W w') := fun W => by have := rin_any b W; rw [(latP_iff b).mpr lb] at this; exact this
  have IC : Hid (∀ W, Calls Try.prog 18 #[ptv c] W fun e w' => e = .returned (.bool false) ∧ Gr W w') := fun W => by have := rin_any c W; rw [lc] at this; exact this
  obtain ⟨ax, ay⟩ := a
  obtain ⟨bx, by_⟩ := b
  obtain ⟨cx, cy⟩ := c
  obtain ⟨dx, dy⟩ := d
  have S : Mq w (((((w.alloc (.cells #[.int .i32 ax, .int .i32 ay] 23)).alloc (.cells #[.int .i32 bx, .int .i32 by_] 23)).alloc (.cells #[.int .i32 cx, .int .i32 cy] 23)).alloc (.cells #[.int .i32 dx, .int .i32 dy] 23)).alloc (.cells #[.int .u8 0, .bool false, .int .i64 0, .int .i64 0, .int .i64 0, .int .i64 0] 30)) (ax, ay) (bx, by_) (cx, cy) (dx, dy) := Mq.new w ax ay bx by_ cx cy dx dy
  show Calls Try.prog 7 #[pt ax ay, pt bx by_, pt cx cy, pt dx dy] w _
  go_enter Try.func7, Try.ntmps7
  go_wp2_with fail
  refine (IA.out _).mono ?_
  generalize (((((w.alloc (.cells #[.int .i32 ax, .int .i32 ay] 23)).alloc (.cells #[.int .i32 bx, .int .i32 by_] 23)).alloc (.cells #[.int .i32 cx, .int .i32 cy] 23)).alloc (.cells #[.int .i32 dx, .int .i32 dy] 23)).alloc (.cells #[.int .u8 0, .bool false, .int .i64 0, .int .i64 0, .int .i64 0, .int .i64 0] 30)) = W at *
  rintro e w1 ⟨rfl, g1⟩
  replace S := S.mono g1.below
  clear g1
  have b0 := S.b.c0
  have b1 := S.b.c1
  go_wp2_with fail
  refine (IB.out _).mono ?_
  rintro e w2 ⟨rfl, g2⟩
  replace S := S.mono g2.below
  clear g2
  clear b0 b1
  have c0 := S.c.c0
  have c1 := S.c.c1
  go_wp2_with fail
  refine (IC.out _).mono ?_
  rintro e w3 ⟨rfl, g3⟩
  replace S := S.mono g3.below
  clear g3
  clear c0 c1
  have r0 := S.r.c0
  have r1 := S.r.c1
  have r2 := S.r.c2
  have r3 := S.r.c3
  have r4 := S.r.c4
  have r5 := S.r.c5
  have rf := S.r.f
  have hb := S.g
  go_wp2
  refine bodyPost_ret (v := mtv mt0) (by simp [results, Try.results7, go_sem, r0, r1, r2, r3, r4, r5, mt0]) rfl ⟨rfl, ?_⟩
  exact (((((hb.setCell (by simp only []; omega) _).setCell (by simp only []; omega) _).setCell (by simp only []; omega) _).setCell (by simp only []; omega) _).setCell (by simp only []; omega) _).setCell (by simp only []; omega) _
set_option maxRecDepth 20000 in
set_option maxHeartbeats 4000000 in
theorem rmeet_offD (a b c d : P2) (w : World) (la : lat a) (lb : lat b) (lc : lat c) (ld : latP d = false) : Calls Try.prog 7 #[ptv a, ptv b, ptv c, ptv d] w fun e w' => e = .returned (mtv mt0) ∧ Below w.heap.size w w' := by
  have IA : Hid (∀ W, Calls Try.prog 18 #[ptv a] W fun e w' => e = .returned (.bool true) ∧ Gr W w') := fun W => by have := rin_any a W; rw [(latP_iff a).mpr la] at this; exact this
  have IB : Hid (∀ W, Calls Try.prog 18 #[ptv b] W fun e w' => e = .returned (.bool true) ∧ Gr W w') := fun W => by have := rin_any b W; rw [(latP_iff b).mpr lb] at this; exact this
  have IC : Hid (∀ W, Calls Try.prog 18 #[ptv c] W fun e w' => e = .returned (.bool true) ∧ Gr W w') := fun W => by have := rin_any c W; rw [(latP_iff c).mpr lc] at this; exact this
  have ID : Hid (∀ W, Calls Try.prog 18 #[ptv d] W fun e w' => e = .returned (.bool false) ∧ Gr W w') := fun W => by have := rin_any d W; rw [ld] at this; exact this
  obtain ⟨ax, ay⟩ := a
  obtain ⟨bx, by_⟩ := b
  obtain ⟨cx, cy⟩ := c
  obtain ⟨dx, dy⟩ := d
  have S : Mq w (((((w.alloc (.cells #[.int .i32 ax, .int .i32 ay] 23)).alloc (.cells #[.int .i32 bx, .int .i32 by_] 23)).alloc (.cells #[.int .i32 cx, .int .i32 cy] 23)).alloc (.cells #[.int .i32 dx, .int .i32 dy] 23)).alloc (.cells #[.int .u8 0, .bool false, .int .i64 0, .int .i64 0, .int .i64 0, .int .i64 0] 30)) (ax, ay) (bx, by_) (cx, cy) (dx, dy) := Mq.new w ax ay bx by_ cx cy dx dy
  show Calls Try.prog 7 #[pt ax ay, pt bx by_, pt cx cy, pt dx dy] w _
  go_enter Try.func7, Try.ntmps7
  go_wp2_with fail
  refine (IA.out _).mono ?_
  generalize (((((w.alloc (.cells #[.int .i32 ax, .int .i32 ay] 23)).alloc (.cells #[.int .i32 bx, .int .i32 by_] 23)).alloc (.cells #[.int .i32 cx, .int .i32 cy] 23)).alloc (.cells #[.int .i32 dx, .int .i32 dy] 23)).alloc (.cells #[.int .u8 0, .bool false, .int .i64 0, .int .i64 0, .int .i64 0, .int .i64 0] 30)) = W at *
  rintro e w1 ⟨rfl, g1⟩
  replace S := S.mono g1.below
  clear g1
  have b0 := S.b.c0
  have b1 := S.b.c1
  go_wp2_with fail
  refine (IB.out _).mono ?_
  rintro e w2 ⟨rfl, g2⟩
  replace S := S.mono g2.below
  clear g2
  clear b0 b1
  have c0 := S.c.c0
  have c1 := S.c.c1
  go_wp2_with fail
  refine (IC.out _).mono ?_
  rintro e w3 ⟨rfl, g3⟩
  replace S := S.mono g3.below
  clear g3
  clear c0 c1
  have d0 := S.d.c0
  have d1 := S.d.c1
  go_wp2_with fail
  refine (ID.out _).mono ?_
  rintro e w4 ⟨rfl, g4⟩
  replace S := S.mono g4.below
  clear g4
  clear d0 d1
  have r0 := S.r.c0
  have r1 := S.r.c1
  have r2 := S.r.c2
  have r3 := S.r.c3
  have r4 := S.r.c4
  have r5 := S.r.c5
  have rf := S.r.f
  have hb := S.g
  go_wp2
  refine bodyPost_ret (v := mtv mt0) (by simp [results, Try.results7, go_sem, r0, r1, r2, r3, r4, r5, mt0]) rfl ⟨rfl, ?_⟩
  exact (((((hb.setCell (by simp only []; omega) _).setCell (by simp only []; omega) _).setCell (by simp only []; omega) _).setCell (by simp only []; omega) _).setCell (by simp only []; omega) _).setCell (by simp only []; omega) _
set_option maxRecDepth 20000 in
set_option maxHeartbeats 4000000 in
theorem rmeet_pt (a c d : P2) (w : World) (la : lat a) (lc : lat c) (ld : lat d) : Calls Try.prog 7 #[ptv a, ptv a, ptv c, ptv d] w fun e w' => e = .returned (mtv (if onP a c d then oneM (0, 1) else mt0)) ∧ Below w.heap.size w w' := by
  have IA : Hid (∀ W, Calls Try.prog 18 #[ptv a] W fun e w' => e = .returned (.bool true) ∧ Gr W w') := fun W => by have := rin_any a W; rw [(latP_iff a).mpr la] at this; exact this
  have IC : Hid (∀ W, Calls Try.prog 18 #[ptv c] W fun e w' => e = .returned (.bool true) ∧ Gr W w') := fun W => by have := rin_any c W; rw [(latP_iff c).mpr lc] at this; exact this
  have ID : Hid (∀ W, Calls Try.prog 18 #[ptv d] W fun e w' => e = .returned (.bool true) ∧ Gr W w') := fun W => by have := rin_any d W; rw [(latP_iff d).mpr ld] at this; exact this
  have O := hid' (fun W => ron_any a c d W la.ins lc.ins ld.ins)
  generalize onP a c d = B at *
  obtain ⟨ax, ay⟩ := a
  obtain ⟨cx, cy⟩ := c
  obtain ⟨dx, dy⟩ := d
  have S : Mq w (((((w.alloc (.cells #[.int .i32 ax, .int .i32 ay] 23)).alloc (.cells #[.int .i32 ax, .int .i32 ay] 23)).alloc (.cells #[.int .i32 cx, .int .i32 cy] 23)).alloc (.cells #[.int .i32 dx, .int .i32 dy] 23)).alloc (.cells #[.int .u8 0, .bool false, .int .i64 0, .int .i64 0, .int .i64 0, .int .i64 0] 30)) (ax, ay) (ax, ay) (cx, cy) (dx, dy) := Mq.new w ax ay ax ay cx cy dx dy
  show Calls Try.prog 7 #[pt ax ay, pt ax ay, pt cx cy, pt dx dy] w _
  go_enter Try.func7, Try.ntmps7
  go_wp2_with fail
  refine (IA.out _).mono ?_
  generalize (((((w.alloc (.cells #[.int .i32 ax, .int .i32 ay] 23)).alloc (.cells #[.int .i32 ax, .int .i32 ay] 23)).alloc (.cells #[.int .i32 cx, .int .i32 cy] 23)).alloc (.cells #[.int .i32 dx, .int .i32 dy] 23)).alloc (.cells #[.int .u8 0, .bool false, .int .i64 0, .int .i64 0, .int .i64 0, .int .i64 0] 30)) = W at *
  rintro e w1 ⟨rfl, g1⟩
  replace S := S.mono g1.below
  clear g1
  have b0 := S.b.c0
  have b1 := S.b.c1
  go_wp2_with fail
  refine (IA.out _).mono ?_
  rintro e w2 ⟨rfl, g2⟩
  replace S := S.mono g2.below
  clear g2
  clear b0 b1
  have c0 := S.c.c0
  have c1 := S.c.c1
  go_wp2_with fail
  refine (IC.out _).mono ?_
  rintro e w3 ⟨rfl, g3⟩
  replace S := S.mono g3.below
  clear g3
  clear c0 c1
  have d0 := S.d.c0
  have d1 := S.d.c1
  go_wp2_with fail
  refine (ID.out _).mono ?_
  rintro e w4 ⟨rfl, g4⟩
  replace S := S.mono g4.below
  clear g4
  clear d0 d1
  have a0 := S.a.c0
  have a1 := S.a.c1
  have b0 := S.b.c0
  have b1 := S.b.c1
  have q0 := S.c.c0
  have q1 := S.c.c1
  have q2 := S.d.c0
  have q3 := S.d.c1
  go_wp2_with fail
  refine (O.out _).mono ?_
  rintro e w5 ⟨rfl, g5⟩
  replace S := S.mono g5
  clear g5 q0 q1 q2 q3 a0 a1 b0 b1 O
  cases B
  · have r0 := S.r.c0
    have r1 := S.r.c1
    have r2 := S.r.c2
    have r3 := S.r.c3
    have r4 := S.r.c4
    have r5 := S.r.c5
    have rf := S.r.f
    have hb := S.g
    go_wp2
    refine bodyPost_ret (v := mtv mt0) (by simp [results, Try.results7, go_sem, r0, r1, r2, r3, r4, r5, mt0]) rfl ⟨rfl, ?_⟩
    exact (((((hb.setCell (by simp only []; omega) _).setCell (by simp only []; omega) _).setCell (by simp only []; omega) _).setCell (by simp only []; omega) _).setCell (by simp only []; omega) _).setCell (by simp only []; omega) _
  · have r0 := S.r.c0
    have r1 := S.r.c1
    have r2 := S.r.c2
    have r3 := S.r.c3
    have r4 := S.r.c4
    have r5 := S.r.c5
    have rf := S.r.f
    have hb := S.g
    go_wp2
    refine bodyPost_ret (v := mtv (oneM (0, 1))) (by simp [results, Try.results7, go_sem, r0, r1, r2, r3, r4, r5, oneM]) rfl ⟨rfl, ?_⟩
    exact (((((hb.setCell (by simp only []; omega) _).setCell (by simp only []; omega) _).setCell (by simp only []; omega) _).setCell (by simp only []; omega) _).setCell (by simp only []; omega) _).setCell (by simp only []; omega) _
set_option maxRecDepth 20000 in
set_option maxHeartbeats 4000000 in
theorem rmeet_line (a b c d : P2) (w : World) (la : lat a) (lb : lat b) (lc : lat c) (ld : lat d) (hab : a ≠ b) (h1 : crs a b c = 0) (h2 : crs a b d = 0) : Calls Try.prog 7 #[ptv a, ptv b, ptv c, ptv d] w fun e w' => e = .returned (mtv (refLine (absI (alD a b)) (min (alN (alP a b c) (alD a b)) (alN (alP a b d) (alD a b))) (max (alN (alP a b c) (alD a b)) (alN (alP a b d) (alD a b))))) ∧ Below w.heap.size w w' := by
  have IA : Hid (∀ W, Calls Try.prog 18 #[ptv a] W fun e w' => e = .returned (.bool true) ∧ Gr W w') := fun W => by have := rin_any a W; rw [(latP_iff a).mpr la] at this; exact this
  have IB : Hid (∀ W, Calls Try.prog 18 #[ptv b] W fun e w' => e = .returned (.bool true) ∧ Gr W w') := fun W => by have := rin_any b W; rw [(latP_iff b).mpr lb] at this; exact this
  have IC : Hid (∀ W, Calls Try.prog 18 #[ptv c] W fun e w' => e = .returned (.bool true) ∧ Gr W w') := fun W => by have := rin_any c W; rw [(latP_iff c).mpr lc] at this; exact this
  have ID : Hid (∀ W, Calls Try.prog 18 #[ptv d] W fun e w' => e = .returned (.bool true) ∧ Gr W w') := fun W => by have := rin_any d W; rw [(latP_iff d).mpr ld] at this; exact this
  have TC : Hid (∀ W, Calls Try.prog 21 #[ptv a, ptv b, ptv c] W fun e w' => e = .returned (.int .i64 0) ∧ Below W.heap.size W w') := fun W => by have := rturn_any a b c W la.ins lb.ins lc.ins; rw [h1] at this; exact this
  have TD : Hid (∀ W, Calls Try.prog 21 #[ptv a, ptv b, ptv d] W fun e w' => e = .returned (.int .i64 0) ∧ Below W.heap.size W w') := fun W => by have := rturn_any a b d W la.ins lb.ins ld.ins; rw [h2] at this; exact this
  have OL := hid' (fun W => oneLine_any a b c d _ _ _ W la.ins lb.ins lc.ins ld.ins rfl rfl rfl (alD_pos hab))
  generalize refLine (absI (alD a b)) (min (alN (alP a b c) (alD a b)) (alN (alP a b d) (alD a b))) (max (alN (alP a b c) (alD a b)) (alN (alP a b d) (alD a b))) = res at *
  have hne := ne_eqB hab
  clear hab h1 h2 la lb lc ld
  obtain ⟨k, i, ⟨pa, qa⟩, ⟨pb, qb⟩⟩ := res
  obtain ⟨ax, ay⟩ := a
  obtain ⟨bx, by_⟩ := b
  obtain ⟨cx, cy⟩ := c
  obtain ⟨dx, dy⟩ := d
  simp only at hne
  have S : Mq w (((((w.alloc (.cells #[.int .i32 ax, .int .i32 ay] 23)).alloc (.cells #[.int .i32 bx, .int .i32 by_] 23)).alloc (.cells #[.int .i32 cx, .int .i32 cy] 23)).alloc (.cells #[.int .i32 dx, .int .i32 dy] 23)).alloc (.cells #[.int .u8 0, .bool false, .int .i64 0, .int .i64 0, .int .i64 0, .int .i64 0] 30)) (ax, ay) (bx, by_) (cx, cy) (dx, dy) := Mq.new w ax ay bx by_ cx cy dx dy
  show Calls Try.prog 7 #[pt ax ay, pt bx by_, pt cx cy, pt dx dy] w _
  go_enter Try.func7, Try.ntmps7
  go_wp2_with fail
  refine (IA.out _).mono ?_
  generalize (((((w.alloc (.cells #[.int .i32 ax, .int .i32 ay] 23)).alloc (.cells #[.int .i32 bx, .int .i32 by_] 23)).alloc (.cells #[.int .i32 cx, .int .i32 cy] 23)).alloc (.cells #[.int .i32 dx, .int .i32 dy] 23)).alloc (.cells #[.int .u8 0, .bool false, .int .i64 0, .int .i64 0, .int .i64 0, .int .i64 0] 30)) = W at *
  rintro e w1 ⟨rfl, g1⟩
  replace S := S.mono g1.below
  clear g1
  have b0 := S.b.c0
  have b1 := S.b.c1
  go_wp2_with fail
  refine (IB.out _).mono ?_
  rintro e w2 ⟨rfl, g2⟩
  replace S := S.mono g2.below
  clear g2
  clear b0 b1
  have c0 := S.c.c0
  have c1 := S.c.c1
  go_wp2_with fail
  refine (IC.out _).mono ?_
  rintro e w3 ⟨rfl, g3⟩
  replace S := S.mono g3.below
  clear g3
  clear c0 c1
  have d0 := S.d.c0
  have d1 := S.d.c1
  go_wp2_with fail
  refine (ID.out _).mono ?_
  rintro e w4 ⟨rfl, g4⟩
  replace S := S.mono g4.below
  clear g4
  clear d0 d1
  have a0 := S.a.c0
  have a1 := S.a.c1
  have b0 := S.b.c0
  have b1 := S.b.c1
  go_upto_region 3 with fail
  go_cut [40] (fun s w' => s = .bool false ∧ w' = w4)
  case first =>
    rcases hne.out with k | ⟨k, k'⟩
    · clear hne
      go_wp2
      go_meet
      case rel => exact ⟨rfl, rfl⟩
    · clear hne
      go_wp2
      go_meet
      case rel => exact ⟨rfl, rfl⟩
  case rest =>
  obtain ⟨rfl, rfl⟩ := hcut
  clear a0 a1 b0 b1
  clear hne
  have a0 := S.a.c0
  have a1 := S.a.c1
  have b0 := S.b.c0
  have b1 := S.b.c1
  have c0 := S.c.c0
  have c1 := S.c.c1
  go_wp2_with fail
  refine (TC.out _).mono ?_
  rintro e w5 ⟨rfl, g5⟩
  replace S := S.mono g5
  clear g5
  clear a0 a1 b0 b1 c0 c1
  have a0 := S.a.c0
  have a1 := S.a.c1
  have b0 := S.b.c0
  have b1 := S.b.c1
  have d0 := S.d.c0
  have d1 := S.d.c1
  go_wp2_with fail
  refine (TD.out _).mono ?_
  rintro e w6 ⟨rfl, g6⟩
  replace S := S.mono g6
  clear g6
  clear a0 a1 b0 b1 d0 d1
  have a0 := S.a.c0
  have a1 := S.a.c1
  have b0 := S.b.c0
  have b1 := S.b.c1
  have c0 := S.c.c0
  have c1 := S.c.c1
  have d0 := S.d.c0
  have d1 := S.d.c1
  go_wp2_with fail
  refine (OL.out _).mono ?_
  rintro e w7 ⟨rfl, g7⟩
  replace S := S.mono g7
  clear g7
  clear a0 a1 b0 b1 c0 c1 d0 d1
  have r0 := S.r.c0
  have r1 := S.r.c1
  have r2 := S.r.c2
  have r3 := S.r.c3
  have r4 := S.r.c4
  have r5 := S.r.c5
  have rf := S.r.f
  have hb := S.g
  go_wp2
  refine bodyPost_ret (v := mtv (k, i, (pa, qa), (pb, qb))) (by simp [results, Try.results7, go_sem, r0, r1, r2, r3, r4, r5]) rfl ⟨rfl, ?_⟩
  exact (((((hb.setCell (by simp only []; omega) _).setCell (by simp only []; omega) _).setCell (by simp only []; omega) _).setCell (by simp only []; omega) _).setCell (by simp only []; omega) _).setCell (by simp only []; omega) _
end Go.Proofs.Ytagabccaipfjeaa
