/- Contract of the reference's NearSeg: of any points and radius. -/
import Derived.Test.YtagabccaipfjeaaR27
namespace Go.Proofs.Ytagabccaipfjeaa
open Go.RowKit Go.Sort

structure Jq (w w' : World) (a b c d : P2) : Prop where
  a : TwoIs w' w.heap.size a.1 a.2
  b : TwoIs w' (w.heap.size + 1) b.1 b.2
  c : TwoIs w' (w.heap.size + 1 + 1) c.1 c.2
  d : TwoIs w' (w.heap.size + 1 + 1 + 1) d.1 d.2
  g : Below w.heap.size w w'
theorem Jq.mono {w w1 w2 : World} {a b c d : P2} (h : Jq w w1 a b c d) (g : Below w1.heap.size w1 w2) : Jq w w2 a b c d :=
  ⟨⟨below_cell h.a.c0 g, below_cell h.a.c1 g⟩, ⟨below_cell h.b.c0 g, below_cell h.b.c1 g⟩, ⟨below_cell h.c.c0 g, below_cell h.c.c1 g⟩, ⟨below_cell h.d.c0 g, below_cell h.d.c1 g⟩, h.g.trans (g.mono h.g.size)⟩
theorem Jq.new (w : World) (ax ay bx by_ cx cy dx dy : Int) : Jq w ((((w.alloc (.cells #[.int .i32 ax, .int .i32 ay] 23)).alloc (.cells #[.int .i32 bx, .int .i32 by_] 23)).alloc (.cells #[.int .i32 cx, .int .i32 cy] 23)).alloc (.cells #[.int .i32 dx, .int .i32 dy] 23)) (ax, ay) (bx, by_) (cx, cy) (dx, dy) :=
  ⟨⟨by go_simp, by go_simp⟩, ⟨by go_simp, by go_simp⟩, ⟨by go_simp, by go_simp⟩, ⟨by go_simp, by go_simp⟩, (((((Gr.refl _).alloc _).alloc _).alloc _).alloc _).below⟩
set_option maxRecDepth 20000 in
set_option maxHeartbeats 4000000 in
theorem rnears_neg (a b c d : P2) (r : Int) (w : World) (h : r < 0) : Calls Try.prog 16 #[ptv a, ptv b, ptv c, ptv d, .int .i64 r] w fun e w' => e = .returned (.bool false) ∧ Below w.heap.size w w' := by
  obtain ⟨ax, ay⟩ := a
  obtain ⟨bx, by_⟩ := b
  obtain ⟨cx, cy⟩ := c
  obtain ⟨dx, dy⟩ := d
  show Calls Try.prog 16 #[pt ax ay, pt bx by_, pt cx cy, pt dx dy, .int .i64 r] w _
  go_enter Try.func16, Try.ntmps16
  go_wp2
  go_ret
  exact ⟨rfl, (((((Gr.refl _).alloc _).alloc _).alloc _).alloc _).below⟩
set_option maxRecDepth 20000 in
set_option maxHeartbeats 4000000 in
theorem rnears_offA (a b c d : P2) (r : Int) (w : World) (h : 0 ≤ r) (la : latP a = false) : Calls Try.prog 16 #[ptv a, ptv b, ptv c, ptv d, .int .i64 r] w fun e w' => e = .returned (.bool false) ∧ Below w.heap.size w w' := by
  have IA : Hid (∀ W, Calls Try.prog 18 #[ptv a] W fun e w' => e = .returned (.bool false) ∧ Gr W w') := fun W => by have := rin_any a W; rw [la] at this; exact this
  obtain ⟨ax, ay⟩ := a
  obtain ⟨bx, by_⟩ := b
  obtain ⟨cx, cy⟩ := c
  obtain ⟨dx, dy⟩ := d
  have S : Jq w ((((w.alloc (.cells #[.int .i32 ax, .int .i32 ay] 23)).alloc (.cells #[.int .i32 bx, .int .i32 by_] 23)).alloc (.cells #[.int .i32 cx, .int .i32 cy] 23)).alloc (.cells #[.int .i32 dx, .int .i32 dy] 23)) (ax, ay) (bx, by_) (cx, cy) (dx, dy) := Jq.new w ax ay bx by_ cx cy dx dy
  show Calls Try.prog 16 #[pt ax ay, pt bx by_, pt cx cy, pt dx dy, .int .i64 r] w _
  go_enter Try.func16, Try.ntmps16
  go_wp2_with fail
  refine (IA.out _).mono ?_
  generalize ((((w.alloc (.cells #[.int .i32 ax, .int .i32 ay] 23)).alloc (.cells #[.int .i32 bx, .int .i32 by_] 23)).alloc (.cells #[.int .i32 cx, .int .i32 cy] 23)).alloc (.cells #[.int .i32 dx, .int .i32 dy] 23)) = W at *
  rintro e w1 ⟨rfl, g1⟩
  replace S := S.mono g1.below
  clear g1
  dsimp only
  have hb := S.g
  go_wp2
  go_ret
  exact ⟨rfl, hb⟩
set_option maxRecDepth 20000 in
set_option maxHeartbeats 4000000 in
theorem rnears_offB (a b c d : P2) (r : Int) (w : World) (h : 0 ≤ r) (la : lat a) (lb : latP b = false) : Calls Try.prog 16 #[ptv a, ptv b, ptv c, ptv d, .int .i64 r] w fun e w' => e = .returned (.bool false) ∧ Below w.heap.size w w' := by
  have IA : Hid (∀ W, Calls Try.prog 18 #[ptv a] W fun e w' => e = .returned (.bool true) ∧ Gr W w') := fun W => by have := rin_any a W; rw [(latP_iff a).mpr la] at this; exact this
  have IB : Hid (∀ W, Calls Try.prog 18 #[ptv b] W fun e w' => e = .returned (.bool false) ∧ Gr W w') := fun W => by have := rin_any b W; rw [lb] at this; exact this
  obtain ⟨ax, ay⟩ := a
  obtain ⟨bx, by_⟩ := b
  obtain ⟨cx, cy⟩ := c
  obtain ⟨dx, dy⟩ := d
  have S : Jq w ((((w.alloc (.cells #[.int .i32 ax, .int .i32 ay] 23)).alloc (.cells #[.int .i32 bx, .int .i32 by_] 23)).alloc (.cells #[.int .i32 cx, .int .i32 cy] 23)).alloc (.cells #[.int .i32 dx, .int .i32 dy] 23)) (ax, ay) (bx, by_) (cx, cy) (dx, dy) := Jq.new w ax ay bx by_ cx cy dx dy
  show Calls Try.prog 16 #[pt ax ay, pt bx by_, pt cx cy, pt dx dy, .int .i64 r] w _
  go_enter Try.func16, Try.ntmps16
  go_wp2_with fail
  refine (IA.out _).mono ?_
  generalize ((((w.alloc (.cells #[.int .i32 ax, .int .i32 ay] 23)).alloc (.cells #[.int .i32 bx, .int .i32 by_] 23)).alloc (.cells #[.int .i32 cx, .int .i32 cy] 23)).alloc (.cells #[.int .i32 dx, .int .i32 dy] 23)) = W at *
  rintro e w1 ⟨rfl, g1⟩
  replace S := S.mono g1.below
  clear g1
  dsimp only
  have b0 := S.b.c0
  have b1 := S.b.c1
  go_wp2_with fail
  refine (IB.out _).mono ?_
  rintro e w2 ⟨rfl, g2⟩
  replace S := S.mono g2.below
  clear g2
  dsimp only
  clear b0 b1
  have hb := S.g
  go_wp2
  go_ret
  exact ⟨rfl, hb⟩
set_option maxRecDepth 20000 in
set_option maxHeartbeats 4000000 in
theorem rnears_offC (a b c d : P2) (r : Int) (w : World) (h : 0 ≤ r) (la : lat a) (lb : lat b) (lc : latP c = false) : Calls Try.prog 16 #[ptv a, ptv b, ptv c, ptv d, .int .i64 r] w fun e w' => e = .returned (.bool false) ∧ Below w.heap.size w w' := by
  have IA : Hid (∀ W, Calls Try.prog 18 #[ptv a] W fun e w' => e = .returned (.bool true) ∧ Gr W w') := fun W => by have := rin_any a W; rw [(latP_iff a).mpr la] at this; exact this
  have IB : Hid (∀ W, Calls Try.prog 18 #[ptv b] W fun e w' => e = .returned (.bool true) ∧ Gr W w') := fun W => by have := rin_any b W; rw [(latP_iff b).mpr lb] at this; exact this
  have IC : Hid (∀ W, Calls Try.prog 18 #[ptv c] W fun e w' => e = .returned (.bool false) ∧ Gr W w') := fun W => by have := rin_any c W; rw [lc] at this; exact this
  obtain ⟨ax, ay⟩ := a
  obtain ⟨bx, by_⟩ := b
  obtain ⟨cx, cy⟩ := c
  obtain ⟨dx, dy⟩ := d
  have S : Jq w ((((w.alloc (.cells #[.int .i32 ax, .int .i32 ay] 23)).alloc (.cells #[.int .i32 bx, .int .i32 by_] 23)).alloc (.cells #[.int .i32 cx, .int .i32 cy] 23)).alloc (.cells #[.int .i32 dx, .int .i32 dy] 23)) (ax, ay) (bx, by_) (cx, cy) (dx, dy) := Jq.new w ax ay bx by_ cx cy dx dy
  show Calls Try.prog 16 #[pt ax ay, pt bx by_, pt cx cy, pt dx dy, .int .i64 r] w _
  go_enter Try.func16, Try.ntmps16
  go_wp2_with fail
  refine (IA.out _).mono ?_
  generalize ((((w.alloc (.cells #[.int .i32 ax, .int .i32 ay] 23)).alloc (.cells #[.int .i32 bx, .int .i32 by_] 23)).alloc (.cells #[.int .i32 cx, .int .i32 cy] 23)).alloc (.cells #[.int .i32 dx, .int .i32 dy] 23)) = W at *
  rintro e w1 ⟨rfl, g1⟩
  replace S := S.mono g1.below
  clear g1
  dsimp only
  have b0 := S.b.c0
  have b1 := S.b.c1
  go_wp2_with fail
  refine (IB.out _).mono ?_
  rintro e w2 ⟨rfl, g2⟩
  replace S := S.mono g2.below
  clear g2
  dsimp only
  clear b0 b1
  have c0 := S.c.c0
  have c1 := S.c.c1
  go_wp2_with fail
  refine (IC.out _).mono ?_
  rintro e w3 ⟨rfl, g3⟩
  replace S := S.mono g3.below
  clear g3
  dsimp only
  clear c0 c1
  have hb := S.g
  go_wp2
  go_ret
  exact ⟨rfl, hb⟩
set_option maxRecDepth 20000 in
set_option maxHeartbeats 4000000 in
theorem rnears_offD (a b c d : P2) (r : Int) (w : World) (h : 0 ≤ r) (la : lat a) (lb : lat b) (lc : lat c) (ld : latP d = false) : Calls Try.prog 16 #[ptv a, ptv b, ptv c, ptv d, .int .i64 r] w fun e w' => e = .returned (.bool false) ∧ Below w.heap.size w w' := by
  have IA : Hid (∀ W, Calls Try.prog 18 #[ptv a] W fun e w' => e = .returned (.bool true) ∧ Gr W w') := fun W => by have := rin_any a W; rw [(latP_iff a).mpr la] at this; exact this
  have IB : Hid (∀ W, Calls Try.prog 18 #[ptv b] W fun e w' => e = .returned (.bool true) ∧ Gr W w') := fun W => by have := rin_any b W; rw [(latP_iff b).mpr lb] at this; exact this
  have IC : Hid (∀ W, Calls Try.prog 18 #[ptv c] W fun e w' => e = .returned (.bool true) ∧ Gr W w') := fun W => by have := rin_any c W; rw [(latP_iff c).mpr lc] at this; exact this
  have ID : Hid (∀ W, Calls Try.prog 18 #[ptv d] W fun e w' => e = .returned (.bool false) ∧ Gr W w') := fun W => by have := rin_any d W; rw [ld] at this; exact this
  obtain ⟨ax, ay⟩ := a
  obtain ⟨bx, by_⟩ := b
  obtain ⟨cx, cy⟩ := c
  obtain ⟨dx, dy⟩ := d
  have S : Jq w ((((w.alloc (.cells #[.int .i32 ax, .int .i32 ay] 23)).alloc (.cells #[.int .i32 bx, .int .i32 by_] 23)).alloc (.cells #[.int .i32 cx, .int .i32 cy] 23)).alloc (.cells #[.int .i32 dx, .int .i32 dy] 23)) (ax, ay) (bx, by_) (cx, cy) (dx, dy) := Jq.new w ax ay bx by_ cx cy dx dy
  show Calls Try.prog 16 #[pt ax ay, pt bx by_, pt cx cy, pt dx dy, .int .i64 r] w _
  go_enter Try.func16, Try.ntmps16
  go_wp2_with fail
  refine (IA.out _).mono ?_
  generalize ((((w.alloc (.cells #[.int .i32 ax, .int .i32 ay] 23)).alloc (.cells #[.int .i32 bx, .int .i32 by_] 23)).alloc (.cells #[.int .i32 cx, .int .i32 cy] 23)).alloc (.cells #[.int .i32 dx, .int .i32 dy] 23)) = W at *
  rintro e w1 ⟨rfl, g1⟩
  replace S := S.mono g1.below
  clear g1
  dsimp only
  have b0 := S.b.c0
  have b1 := S.b.c1
  go_wp2_with fail
  refine (IB.out _).mono ?_
  rintro e w2 ⟨rfl, g2⟩
  replace S := S.mono g2.below
  clear g2
  dsimp only
  clear b0 b1
  have c0 := S.c.c0
  have c1 := S.c.c1
  go_wp2_with fail
  refine (IC.out _).mono ?_
  rintro e w3 ⟨rfl, g3⟩
  replace S := S.mono g3.below
  clear g3
  dsimp only
  clear c0 c1
  have d0 := S.d.c0
  have d1 := S.d.c1
  go_wp2_with fail
  refine (ID.out _).mono ?_
  rintro e w4 ⟨rfl, g4⟩
  replace S := S.mono g4.below
  clear g4
  dsimp only
  clear d0 d1
  have hb := S.g
  go_wp2
  go_ret
  exact ⟨rfl, hb⟩
theorem nearA_on {p a b : P2} {r : Int} (h : 0 ≤ r) (lp : lat p) (la : lat a) (lb : lat b) : nearA p a b r = nearB p a b r := by
  unfold nearA
  rw [decide_eq_true h, (latP_iff p).mpr lp, (latP_iff a).mpr la, (latP_iff b).mpr lb]
  rfl
theorem endN_eq (a b c d : P2) (r : Int) : endN a b c d r = (nearB a c d r || nearB b c d r || nearB c a b r || nearB d a b r) := by
  have e1 : nj a b c d r 1 = nearB b c d r := near_swap b c d r
  have e3 : nj a b c d r 3 = nearB d a b r := near_swap d a b r
  unfold endN
  rw [e1, e3]
  rfl
set_option maxRecDepth 20000 in
set_option maxHeartbeats 4000000 in
theorem rnears_on (a b c d : P2) (r : Int) (w : World) (h : 0 ≤ r) (h' : r ≤ 9223372036854775807) (la : lat a) (lb : lat b) (lc : lat c) (ld : lat d) : Calls Try.prog 16 #[ptv a, ptv b, ptv c, ptv d, .int .i64 r] w fun e w' => e = .returned (.bool (touchA a b c d || endN a b c d r)) ∧ Below w.heap.size w w' := by
  have IA : Hid (∀ W, Calls Try.prog 18 #[ptv a] W fun e w' => e = .returned (.bool true) ∧ Gr W w') := fun W => by have := rin_any a W; rw [(latP_iff a).mpr la] at this; exact this
  have IB : Hid (∀ W, Calls Try.prog 18 #[ptv b] W fun e w' => e = .returned (.bool true) ∧ Gr W w') := fun W => by have := rin_any b W; rw [(latP_iff b).mpr lb] at this; exact this
  have IC : Hid (∀ W, Calls Try.prog 18 #[ptv c] W fun e w' => e = .returned (.bool true) ∧ Gr W w') := fun W => by have := rin_any c W; rw [(latP_iff c).mpr lc] at this; exact this
  have ID : Hid (∀ W, Calls Try.prog 18 #[ptv d] W fun e w' => e = .returned (.bool true) ∧ Gr W w') := fun W => by have := rin_any d W; rw [(latP_iff d).mpr ld] at this; exact this
  have N1 : Hid (∀ W, Calls Try.prog 14 #[ptv a, ptv c, ptv d, .int .i64 r] W fun e w' => e = .returned (.bool (nearB a c d r)) ∧ Below W.heap.size W w') := fun W => by have := rnear_any a c d r W h'; rw [nearA_on h la lc ld] at this; exact this
  have N2 : Hid (∀ W, Calls Try.prog 14 #[ptv b, ptv c, ptv d, .int .i64 r] W fun e w' => e = .returned (.bool (nearB b c d r)) ∧ Below W.heap.size W w') := fun W => by have := rnear_any b c d r W h'; rw [nearA_on h lb lc ld] at this; exact this
  have N3 : Hid (∀ W, Calls Try.prog 14 #[ptv c, ptv a, ptv b, .int .i64 r] W fun e w' => e = .returned (.bool (nearB c a b r)) ∧ Below W.heap.size W w') := fun W => by have := rnear_any c a b r W h'; rw [nearA_on h lc la lb] at this; exact this
  have N4 : Hid (∀ W, Calls Try.prog 14 #[ptv d, ptv a, ptv b, .int .i64 r] W fun e w' => e = .returned (.bool (nearB d a b r)) ∧ Below W.heap.size W w') := fun W => by have := rnear_any d a b r W h'; rw [nearA_on h ld la lb] at this; exact this
  have MM := hid' (fun W => rmeet_any a b c d W)
  have kb : ((meetA a b c d).1 != 0) = touchA a b c d := by
    rw [Bool.eq_iff_iff, bne_iff_ne]; exact kind_ne
  rw [endN_eq]
  generalize meetA a b c d = mm at *
  generalize touchA a b c d = TB at *
  generalize nearB a c d r = B1 at *
  generalize nearB b c d r = B2 at *
  generalize nearB c a b r = B3 at *
  generalize nearB d a b r = B4 at *
  obtain ⟨mk, mi, ⟨f1, f2⟩, ⟨g1, g2⟩⟩ := mm
  simp only at kb
  clear la lb lc ld h'
  obtain ⟨ax, ay⟩ := a
  obtain ⟨bx, by_⟩ := b
  obtain ⟨cx, cy⟩ := c
  obtain ⟨dx, dy⟩ := d
  have S : Jq w ((((w.alloc (.cells #[.int .i32 ax, .int .i32 ay] 23)).alloc (.cells #[.int .i32 bx, .int .i32 by_] 23)).alloc (.cells #[.int .i32 cx, .int .i32 cy] 23)).alloc (.cells #[.int .i32 dx, .int .i32 dy] 23)) (ax, ay) (bx, by_) (cx, cy) (dx, dy) := Jq.new w ax ay bx by_ cx cy dx dy
  show Calls Try.prog 16 #[pt ax ay, pt bx by_, pt cx cy, pt dx dy, .int .i64 r] w _
  go_enter Try.func16, Try.ntmps16
  go_wp2_with fail
  refine (IA.out _).mono ?_
  generalize ((((w.alloc (.cells #[.int .i32 ax, .int .i32 ay] 23)).alloc (.cells #[.int .i32 bx, .int .i32 by_] 23)).alloc (.cells #[.int .i32 cx, .int .i32 cy] 23)).alloc (.cells #[.int .i32 dx, .int .i32 dy] 23)) = W at *
  rintro e w1 ⟨rfl, g1⟩
  replace S := S.mono g1.below
  clear g1
  dsimp only
  have b0 := S.b.c0
  have b1 := S.b.c1
  go_wp2_with fail
  refine (IB.out _).mono ?_
  rintro e w2 ⟨rfl, g2⟩
  replace S := S.mono g2.below
  clear g2
  dsimp only
  clear b0 b1
  have c0 := S.c.c0
  have c1 := S.c.c1
  go_wp2_with fail
  refine (IC.out _).mono ?_
  rintro e w3 ⟨rfl, g3⟩
  replace S := S.mono g3.below
  clear g3
  dsimp only
  clear c0 c1
  have d0 := S.d.c0
  have d1 := S.d.c1
  go_wp2_with fail
  refine (ID.out _).mono ?_
  rintro e w4 ⟨rfl, g4⟩
  replace S := S.mono g4.below
  clear g4
  dsimp only
  clear d0 d1
  have a0 := S.a.c0
  have a1 := S.a.c1
  have b0 := S.b.c0
  have b1 := S.b.c1
  have c0 := S.c.c0
  have c1 := S.c.c1
  have d0 := S.d.c0
  have d1 := S.d.c1
  go_wp2_with fail
  refine (MM.out _).mono ?_
  rintro e w5 ⟨rfl, q5⟩
  dsimp only
  have q6 : Below w5.heap.size w5 (w5.alloc (.cells #[.int .u8 mk, .bool mi, .int .i64 f1, .int .i64 f2, .int .i64 g1, .int .i64 g2] 30)) := ((Gr.refl w5).alloc _).below
  replace S := (S.mono q5).mono q6
  have h7 := M6.new w5 (.int .u8 mk) (.bool mi) (.int .i64 f1) (.int .i64 f2) (.int .i64 g1) (.int .i64 g2)
  clear q5 q6 MM a0 a1 b0 b1 c0 c1 d0 d1
  go_upto_region 4 with fail
  generalize w5.alloc (.cells #[.int .u8 mk, .bool mi, .int .i64 f1, .int .i64 f2, .int .i64 g1, .int .i64 g2] 30) = W at *
  generalize w5.heap.size = X at *
  have m0 := h7.c0
  clear h7
  cases TB with
  | true =>
    have hk : (mk == 0) = false := by simpa using kb
    clear kb N1 N2 N3 N4
    have hb := S.g
    go_wp2
    go_ret
    exact ⟨rfl, hb⟩
  | false =>
    have hk : mk = 0 := by simpa using kb
    subst hk
    clear kb
    have a0 := S.a.c0
    have a1 := S.a.c1
    have c0 := S.c.c0
    have c1 := S.c.c1
    have d0 := S.d.c0
    have d1 := S.d.c1
    go_wp2_with fail
    refine (N1.out _).mono ?_
    rintro e w6 ⟨rfl, g6⟩
    replace S := S.mono g6
    clear g6 m0
    dsimp only
    clear a0 a1 c0 c1 d0 d1
    cases B1 with
    | true =>
      have hb := S.g
      go_wp2
      go_ret
      exact ⟨rfl, hb⟩
    | false =>
    have b0 := S.b.c0
    have b1 := S.b.c1
    have c0 := S.c.c0
    have c1 := S.c.c1
    have d0 := S.d.c0
    have d1 := S.d.c1
    go_wp2_with fail
    refine (N2.out _).mono ?_
    rintro e w7 ⟨rfl, g7⟩
    replace S := S.mono g7
    clear g7
    dsimp only
    clear b0 b1 c0 c1 d0 d1
    cases B2 with
    | true =>
      have hb := S.g
      go_wp2
      go_ret
      exact ⟨rfl, hb⟩
    | false =>
    have c0 := S.c.c0
    have c1 := S.c.c1
    have a0 := S.a.c0
    have a1 := S.a.c1
    have b0 := S.b.c0
    have b1 := S.b.c1
    go_wp2_with fail
    refine (N3.out _).mono ?_
    rintro e w8 ⟨rfl, g8⟩
    replace S := S.mono g8
    clear g8
    dsimp only
    clear c0 c1 a0 a1 b0 b1
    cases B3 with
    | true =>
      have hb := S.g
      go_wp2
      go_ret
      exact ⟨rfl, hb⟩
    | false =>
    have d0 := S.d.c0
    have d1 := S.d.c1
    have a0 := S.a.c0
    have a1 := S.a.c1
    have b0 := S.b.c0
    have b1 := S.b.c1
    go_wp2_with fail
    refine (N4.out _).mono ?_
    rintro e w9 ⟨rfl, g9⟩
    replace S := S.mono g9
    clear g9
    dsimp only
    clear d0 d1 a0 a1 b0 b1
    cases B4 with
    | true =>
      have hb := S.g
      go_wp2
      go_ret
      exact ⟨rfl, hb⟩
    | false =>
    have hb := S.g
    go_wp2
    go_ret
    exact ⟨rfl, hb⟩
theorem rnears_any (a b c d : P2) (r : Int) (w : World) (hr : r ≤ 9223372036854775807) : Calls Try.prog 16 #[ptv a, ptv b, ptv c, ptv d, .int .i64 r] w fun e w' => e = .returned (.bool (nearS a b c d r)) ∧ Below w.heap.size w w' := by
  unfold nearS
  by_cases h : 0 ≤ r
  · rw [decide_eq_true h]
    cases hA : latP a with
    | false => simpa using rnears_offA a b c d r w h hA
    | true =>
    have la := (latP_iff a).mp hA
    cases hB : latP b with
    | false => simpa using rnears_offB a b c d r w h la hB
    | true =>
    have lb := (latP_iff b).mp hB
    cases hC : latP c with
    | false => simpa using rnears_offC a b c d r w h la lb hC
    | true =>
    have lc := (latP_iff c).mp hC
    cases hD : latP d with
    | false => simpa using rnears_offD a b c d r w h la lb lc hD
    | true =>
    have ld := (latP_iff d).mp hD
    exact rnears_on a b c d r w h hr la lb lc ld
  · rw [decide_eq_false h]
    exact rnears_neg a b c d r w (by omega)
end Go.Proofs.Ytagabccaipfjeaa
