/- Contract of the reference's Near: of any points and radius. -/
import Derived.Test.YtagabccaipfjeaaR26
namespace Go.Proofs.Ytagabccaipfjeaa
open Go.RowKit Go.Sort

structure Hq (w w' : World) (p a b : P2) : Prop where
  p : TwoIs w' w.heap.size p.1 p.2
  a : TwoIs w' (w.heap.size + 1) a.1 a.2
  b : TwoIs w' (w.heap.size + 1 + 1) b.1 b.2
  g : Below w.heap.size w w'
theorem Hq.mono {w w1 w2 : World} {p a b : P2} (h : Hq w w1 p a b) (g : Below w1.heap.size w1 w2) : Hq w w2 p a b :=
  ⟨⟨below_cell h.p.c0 g, below_cell h.p.c1 g⟩, ⟨below_cell h.a.c0 g, below_cell h.a.c1 g⟩, ⟨below_cell h.b.c0 g, below_cell h.b.c1 g⟩, h.g.trans (g.mono h.g.size)⟩
theorem Hq.new (w : World) (px py ax ay bx by_ : Int) : Hq w (((w.alloc (.cells #[.int .i32 px, .int .i32 py] 23)).alloc (.cells #[.int .i32 ax, .int .i32 ay] 23)).alloc (.cells #[.int .i32 bx, .int .i32 by_] 23)) (px, py) (ax, ay) (bx, by_) :=
  ⟨⟨by go_simp, by go_simp⟩, ⟨by go_simp, by go_simp⟩, ⟨by go_simp, by go_simp⟩, ((((Gr.refl _).alloc _).alloc _).alloc _).below⟩
set_option maxRecDepth 20000 in
set_option maxHeartbeats 4000000 in
theorem rnear_neg (p a b : P2) (r : Int) (w : World) (h : r < 0) : Calls Try.prog 14 #[ptv p, ptv a, ptv b, .int .i64 r] w fun e w' => e = .returned (.bool false) ∧ Below w.heap.size w w' := by
  obtain ⟨px, py⟩ := p
  obtain ⟨ax, ay⟩ := a
  obtain ⟨bx, by_⟩ := b
  show Calls Try.prog 14 #[pt px py, pt ax ay, pt bx by_, .int .i64 r] w _
  go_enter Try.func14, Try.ntmps14
  go_wp2
  go_ret
  exact ⟨rfl, ((((Gr.refl _).alloc _).alloc _).alloc _).below⟩
set_option maxRecDepth 20000 in
set_option maxHeartbeats 4000000 in
theorem rnear_offP (p a b : P2) (r : Int) (w : World) (h : 0 ≤ r) (lp : latP p = false) : Calls Try.prog 14 #[ptv p, ptv a, ptv b, .int .i64 r] w fun e w' => e = .returned (.bool false) ∧ Below w.heap.size w w' := by
  have IP : Hid (∀ W, Calls Try.prog 18 #[ptv p] W fun e w' => e = .returned (.bool false) ∧ Gr W w') := fun W => by have := rin_any p W; rw [lp] at this; exact this
  obtain ⟨px, py⟩ := p
  obtain ⟨ax, ay⟩ := a
  obtain ⟨bx, by_⟩ := b
  have S : Hq w (((w.alloc (.cells #[.int .i32 px, .int .i32 py] 23)).alloc (.cells #[.int .i32 ax, .int .i32 ay] 23)).alloc (.cells #[.int .i32 bx, .int .i32 by_] 23)) (px, py) (ax, ay) (bx, by_) := Hq.new w px py ax ay bx by_
  show Calls Try.prog 14 #[pt px py, pt ax ay, pt bx by_, .int .i64 r] w _
  go_enter Try.func14, Try.ntmps14
  go_wp2_with fail
  refine (IP.out _).mono ?_
  generalize (((w.alloc (.cells #[.int .i32 px, .int .i32 py] 23)).alloc (.cells #[.int .i32 ax, .int .i32 ay] 23)).alloc (.cells #[.int .i32 bx, .int .i32 by_] 23)) = W at *
  rintro e w1 ⟨rfl, g1⟩
  replace S := S.mono g1.below
  clear g1
  dsimp only
  have hb := S.g
  go_wp2
  go_ret
  exact ⟨rfl, hb⟩
set_option maxRecDepth 20000 in
set_option maxHeartbeats 4000000 in
theorem rnear_offA (p a b : P2) (r : Int) (w : World) (h : 0 ≤ r) (lp : lat p) (la : latP a = false) : Calls Try.prog 14 #[ptv p, ptv a, ptv b, .int .i64 r] w fun e w' => e = .returned (.bool false) ∧ Below w.heap.size w w' := by
  have IP : Hid (∀ W, Calls Try.prog 18 #[ptv p] W fun e w' => e = .returned (.bool true) ∧ Gr W w') := fun W => by have := rin_any p W; rw [(latP_iff p).mpr lp] at this; exact this
  have IA : Hid (∀ W, Calls Try.prog 18 #[ptv a] W fun e w' => e = .returned (.bool false) ∧ Gr W w') := fun W => by have := rin_any a W; rw [la] at this; exact this
  obtain ⟨px, py⟩ := p
  obtain ⟨ax, ay⟩ := a
  obtain ⟨bx, by_⟩ := b
  have S : Hq w (((w.alloc (.cells #[.int .i32 px, .int .i32 py] 23)).alloc (.cells #[.int .i32 ax, .int .i32 ay] 23)).alloc (.cells #[.int .i32 bx, .int .i32 by_] 23)) (px, py) (ax, ay) (bx, by_) := Hq.new w px py ax ay bx by_
  show Calls Try.prog 14 #[pt px py, pt ax ay, pt bx by_, .int .i64 r] w _
  go_enter Try.func14, Try.ntmps14
  go_wp2_with fail
  refine (IP.out _).mono ?_
  generalize (((w.alloc (.cells #[.int .i32 px, .int .i32 py] 23)).alloc (.cells #[.int .i32 ax, .int .i32 ay] 23)).alloc (.cells #[.int .i32 bx, .int .i32 by_] 23)) = W at *
  rintro e w1 ⟨rfl, g1⟩
  replace S := S.mono g1.below
  clear g1
  dsimp only
  have a0 := S.a.c0
  have a1 := S.a.c1
  go_wp2_with fail
  refine (IA.out _).mono ?_
  rintro e w2 ⟨rfl, g2⟩
  replace S := S.mono g2.below
  clear g2
  dsimp only
  clear a0 a1
  have hb := S.g
  go_wp2
  go_ret
  exact ⟨rfl, hb⟩
set_option maxRecDepth 20000 in
set_option maxHeartbeats 4000000 in
theorem rnear_offB (p a b : P2) (r : Int) (w : World) (h : 0 ≤ r) (lp : lat p) (la : lat a) (lb : latP b = false) : Calls Try.prog 14 #[ptv p, ptv a, ptv b, .int .i64 r] w fun e w' => e = .returned (.bool false) ∧ Below w.heap.size w w' := by
  have IP : Hid (∀ W, Calls Try.prog 18 #[ptv p] W fun e w' => e = .returned (.bool true) ∧ Gr W w') := fun W => by have := rin_any p W; rw [(latP_iff p).mpr lp] at this; exact this
  have IA : Hid (∀ W, Calls Try.prog 18 #[ptv a] W fun e w' => e = .returned (.bool true) ∧ Gr W w') := fun W => by have := rin_any a W; rw [(latP_iff a).mpr la] at this; exact this
  have IB : Hid (∀ W, Calls Try.prog 18 #[ptv b] W fun e w' => e = .returned (.bool false) ∧ Gr W w') := fun W => by have := rin_any b W; rw [lb] at this; exact this
  obtain ⟨px, py⟩ := p
  obtain ⟨ax, ay⟩ := a
  obtain ⟨bx, by_⟩ := b
  have S : Hq w (((w.alloc (.cells #[.int .i32 px, .int .i32 py] 23)).alloc (.cells #[.int .i32 ax, .int .i32 ay] 23)).alloc (.cells #[.int .i32 bx, .int .i32 by_] 23)) (px, py) (ax, ay) (bx, by_) := Hq.new w px py ax ay bx by_
  show Calls Try.prog 14 #[pt px py, pt ax ay, pt bx by_, .int .i64 r] w _
  go_enter Try.func14, Try.ntmps14
  go_wp2_with fail
  refine (IP.out _).mono ?_
  generalize (((w.alloc (.cells #[.int .i32 px, .int .i32 py] 23)).alloc (.cells #[.int .i32 ax, .int .i32 ay] 23)).alloc (.cells #[.int .i32 bx, .int .i32 by_] 23)) = W at *
  rintro e w1 ⟨rfl, g1⟩
  replace S := S.mono g1.below
  clear g1
  dsimp only
  have a0 := S.a.c0
  have a1 := S.a.c1
  go_wp2_with fail
  refine (IA.out _).mono ?_
  rintro e w2 ⟨rfl, g2⟩
  replace S := S.mono g2.below
  clear g2
  dsimp only
  clear a0 a1
  have b0 := S.b.c0
  have b1 := S.b.c1
  go_wp2_with fail
  refine (IB.out _).mono ?_
  rintro e w3 ⟨rfl, g3⟩
  replace S := S.mono g3.below
  clear g3
  dsimp only
  clear b0 b1
  have hb := S.g
  go_wp2
  go_ret
  exact ⟨rfl, hb⟩
set_option maxRecDepth 20000 in
set_option maxHeartbeats 4000000 in
theorem rnear_on (p a b : P2) (r : Int) (w : World) (h : 0 ≤ r) (h' : r ≤ 9223372036854775807) (lp : lat p) (la : lat a) (lb : lat b) : Calls Try.prog 14 #[ptv p, ptv a, ptv b, .int .i64 r] w fun e w' => e = .returned (.bool (nearB p a b r)) ∧ Below w.heap.size w w' := by
  have IP : Hid (∀ W, Calls Try.prog 18 #[ptv p] W fun e w' => e = .returned (.bool true) ∧ Gr W w') := fun W => by have := rin_any p W; rw [(latP_iff p).mpr lp] at this; exact this
  have IA : Hid (∀ W, Calls Try.prog 18 #[ptv a] W fun e w' => e = .returned (.bool true) ∧ Gr W w') := fun W => by have := rin_any a W; rw [(latP_iff a).mpr la] at this; exact this
  have IB : Hid (∀ W, Calls Try.prog 18 #[ptv b] W fun e w' => e = .returned (.bool true) ∧ Gr W w') := fun W => by have := rin_any b W; rw [(latP_iff b).mpr lb] at this; exact this
  have FT := hid' (fun W => foot_rt p a b W lp.ins la.ins lb.ins)
  have AT := hid' (fun v W h => at_rt a b v (rft p a b).1 (rft p a b).2 W la.ins lb.ins h)
  have KR : Hid (∀ W, Calls Try.prog 26 #[.int .i64 (r)] W fun e w' => ∃ z, e = .returned z ∧ Rt w' z r 1 2 ∧ Below W.heap.size W w') := fun W => whole_rt r W (by omega) h'
  have Kpx : Hid (∀ W, Calls Try.prog 26 #[.int .i64 (IntKind.i64.wrap p.1)] W fun e w' => ∃ z, e = .returned z ∧ Rt w' z p.1 1 2 ∧ Below W.heap.size W w') := fun W => by
    have i := lp.ins.1
    unfold in32 at i
    rw [show IntKind.i64.wrap p.1 = p.1 by rw [IntKind.wrap_i64]; omega]
    exact whole_rt p.1 W (by omega) (by omega)
  have Kpy : Hid (∀ W, Calls Try.prog 26 #[.int .i64 (IntKind.i64.wrap p.2)] W fun e w' => ∃ z, e = .returned z ∧ Rt w' z p.2 1 2 ∧ Below W.heap.size W w') := fun W => by
    have i := lp.ins.2
    unfold in32 at i
    rw [show IntKind.i64.wrap p.2 = p.2 by rw [IntKind.wrap_i64]; omega]
    exact whole_rt p.2 W (by omega) (by omega)
  have E : Hid (nearB p a b r = decide (rdX p a b * rdX p a b * ((rft p a b).2 * (rft p a b).2) + rdY p a b * rdY p a b * ((rft p a b).2 * (rft p a b).2) ≤ r * r * ((rft p a b).2 * (rft p a b).2 * ((rft p a b).2 * (rft p a b).2)))) := (near_rd lp la h).symm
  have hx : Hid (p.1 * (rft p a b).2 + -(a.1 * (rft p a b).2 + (rft p a b).1 * (b.1 - a.1)) = rdX p a b) := by unfold Hid rdX; grind
  have hy : Hid (p.2 * (rft p a b).2 + -(a.2 * (rft p a b).2 + (rft p a b).1 * (b.2 - a.2)) = rdY p a b) := by unfold Hid rdY; grind
  generalize nearB p a b r = B at *
  generalize rdX p a b = X at *
  generalize rdY p a b = Y at *
  generalize (rft p a b).1 = tn at *
  generalize (rft p a b).2 = td at *
  clear lp la lb h'
  obtain ⟨px, py⟩ := p
  obtain ⟨ax, ay⟩ := a
  obtain ⟨bx, by_⟩ := b
  simp only at hx hy Kpx Kpy AT
  generalize ax * td + tn * (bx - ax) = xi at *
  generalize ay * td + tn * (by_ - ay) = yi at *
  have S : Hq w (((w.alloc (.cells #[.int .i32 px, .int .i32 py] 23)).alloc (.cells #[.int .i32 ax, .int .i32 ay] 23)).alloc (.cells #[.int .i32 bx, .int .i32 by_] 23)) (px, py) (ax, ay) (bx, by_) := Hq.new w px py ax ay bx by_
  show Calls Try.prog 14 #[pt px py, pt ax ay, pt bx by_, .int .i64 r] w _
  go_enter Try.func14, Try.ntmps14
  go_wp2_with fail
  refine (IP.out _).mono ?_
  generalize (((w.alloc (.cells #[.int .i32 px, .int .i32 py] 23)).alloc (.cells #[.int .i32 ax, .int .i32 ay] 23)).alloc (.cells #[.int .i32 bx, .int .i32 by_] 23)) = W at *
  rintro e w1 ⟨rfl, g1⟩
  replace S := S.mono g1.below
  clear g1
  dsimp only
  have a0 := S.a.c0
  have a1 := S.a.c1
  go_wp2_with fail
  refine (IA.out _).mono ?_
  rintro e w2 ⟨rfl, g2⟩
  replace S := S.mono g2.below
  clear g2
  dsimp only
  clear a0 a1
  have b0 := S.b.c0
  have b1 := S.b.c1
  go_wp2_with fail
  refine (IB.out _).mono ?_
  rintro e w3 ⟨rfl, g3⟩
  replace S := S.mono g3.below
  clear g3
  dsimp only
  clear b0 b1
  go_upto_region 3 with fail
  exact near_t2 w _ B w.heap.size (w.heap.size + 1) (w.heap.size + 1 + 1) px py ax ay bx by_ tn td xi yi r X Y S.g S.p S.a S.b FT AT Kpx Kpy KR hx hy E _ rfl _ (by assumption)
theorem rnear_any (p a b : P2) (r : Int) (w : World) (hr : r ≤ 9223372036854775807) : Calls Try.prog 14 #[ptv p, ptv a, ptv b, .int .i64 r] w fun e w' => e = .returned (.bool (nearA p a b r)) ∧ Below w.heap.size w w' := by
  unfold nearA
  by_cases h : 0 ≤ r
  · rw [decide_eq_true h]
    cases hP : latP p with
    | false => simpa using rnear_offP p a b r w h hP
    | true =>
    have lp := (latP_iff p).mp hP
    cases hA : latP a with
    | false => simpa using rnear_offA p a b r w h lp hA
    | true =>
    have la := (latP_iff a).mp hA
    cases hB : latP b with
    | false => simpa using rnear_offB p a b r w h lp la hB
    | true =>
    have lb := (latP_iff b).mp hB
    simpa using rnear_on p a b r w h hr lp la lb
  · rw [decide_eq_false h]
    simpa using rnear_neg p a b r w (by omega)
end Go.Proofs.Ytagabccaipfjeaa
