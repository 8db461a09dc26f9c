/- Contracts of the reference's cross product and turn. -/
import Derived.Test.YtagabccaipfjeaaR11
import Derived.Test.YtagabccaipfjeaaLv
namespace Go.Proofs.Ytagabccaipfjeaa
open Go.RowKit Go.Sort

theorem Rt.to {w : World} {x : Value} {n d n' d' : Int} {L : Nat} (h : Rt w x n d L) (e1 : n = n') (e2 : d = d') : Rt w x n' d' L := by subst e1; subst e2; exact h
theorem Rt.shape {w : World} {x : Value} {n d : Int} {L : Nat} (h : Rt w x n d L) : ∃ r o l c R O M C, x = .agg #[.bool r, .slice o l c, .bool R, .slice O M C] ∧ Hid (Rt w (.agg #[.bool r, .slice o l c, .bool R, .slice O M C]) n d L) := by
  have h' := h
  obtain ⟨r, o, l, c, R, O, M, C, e, _⟩ := h
  subst e
  exact ⟨r, o, l, c, R, O, M, C, rfl, h'⟩
theorem Rt.setQ {w : World} {x : Value} {n d : Int} {L : Nat} (h : Rt w x n d L) {b : Nat} {x0 x1 x2 x3 : Value} (hb : Q4 w b x0 x1 x2 x3) (y0 y1 y2 y3 : Value) : Rt ((((w.setCell ⟨b, 0, none⟩ y0).setCell ⟨b, 1, none⟩ y1).setCell ⟨b, 2, none⟩ y2).setCell ⟨b, 3, none⟩ y3) x n d L := by
  obtain ⟨r, o, l, c, R, O, M, C, e, h1, h2⟩ := h
  exact ⟨r, o, l, c, R, O, M, C, e, h1.setQ hb _ _ _ _, h2.setQ hb _ _ _ _⟩
def i64 (n : Int) : Prop := -9223372036854775808 ≤ n ∧ n ≤ 9223372036854775807

set_option maxRecDepth 20000 in
set_option maxHeartbeats 2000000 in
theorem cross_rt (ax ay bx by_ : Int) (w : World) (h1 : i64 ax) (h2 : i64 ay) (h3 : i64 bx) (h4 : i64 by_) :
    Calls Try.prog 23 #[.int .i64 ax, .int .i64 ay, .int .i64 bx, .int .i64 by_] w fun e w' => ∃ z, e = .returned z ∧ Rt w' z (ax * by_ - ay * bx) 1 9 ∧ Below w.heap.size w w' := by
  have K1 := hid' (fun W => whole_rt ax W h1.1 h1.2)
  have K2 := hid' (fun W => whole_rt by_ W h4.1 h4.2)
  have K3 := hid' (fun W => whole_rt ay W h2.1 h2.2)
  have K4 := hid' (fun W => whole_rt bx W h3.1 h3.2)
  have q0 : Q4 (w.alloc (.cells #[.bool false, .slice none 0 0, .bool false, .slice none 0 0] 53)) w.heap.size (.bool false) (.slice none 0 0) (.bool false) (.slice none 0 0) := Q4.new w _ _ _ _
  have hF : Below w.heap.size w (w.alloc (.cells #[.bool false, .slice none 0 0, .bool false, .slice none 0 0] 53)) := ((Gr.refl _).alloc _).below
  have E1 : Hid (ax * by_ * (1 * 1) + -(ay * bx) * (1 * 1) = ax * by_ - ay * bx) := by unfold Hid; grind
  clear h1 h2 h3 h4
  go_enter Try.func23, Try.ntmps23
  go_wp2_with fail
  refine (K1.out _).mono ?_
  rintro e w1 ⟨z, rfl, hz, g1⟩
  obtain ⟨r1, o1, l1, c1, R1, O1, M1, C1, rfl, z1⟩ := hz.shape
  replace q0 := q0.mono g1 q0.lt
  replace hF := hF.trans (g1.mono hF.size)
  clear hz g1 K1
  go_wp2_with fail
  refine (K2.out _).mono ?_
  rintro e w2 ⟨z, rfl, hz, g2⟩
  obtain ⟨r2, o2, l2, c2, R2, O2, M2, C2, rfl, z2⟩ := hz.shape
  replace q0 := q0.mono g2 q0.lt
  replace hF := hF.trans (g2.mono hF.size)
  replace z1 := hid' (z1.out.mono g2)
  clear hz g2 K2
  go_wp2_with fail
  refine (rmul_rt _ _ ax 1 by_ 1 2 2 _ z1.out z2.out (by omega) (by omega)).mono ?_
  rintro e w3 ⟨z, rfl, hz, g3⟩
  obtain ⟨r3, o3, l3, c3, R3, O3, M3, C3, rfl, z3⟩ := hz.shape
  replace q0 := q0.mono g3 q0.lt
  replace hF := hF.trans (g3.mono hF.size)
  clear hz g3 z1 z2
  go_wp2_with fail
  refine (K3.out _).mono ?_
  rintro e w4 ⟨z, rfl, hz, g4⟩
  obtain ⟨r4, o4, l4, c4, R4, O4, M4, C4, rfl, z4⟩ := hz.shape
  replace q0 := q0.mono g4 q0.lt
  replace hF := hF.trans (g4.mono hF.size)
  replace z3 := hid' (z3.out.mono g4)
  clear hz g4 K3
  go_wp2_with fail
  refine (K4.out _).mono ?_
  rintro e w5 ⟨z, rfl, hz, g5⟩
  obtain ⟨r5, o5, l5, c5, R5, O5, M5, C5, rfl, z5⟩ := hz.shape
  replace q0 := q0.mono g5 q0.lt
  replace hF := hF.trans (g5.mono hF.size)
  replace z3 := hid' (z3.out.mono g5)
  replace z4 := hid' (z4.out.mono g5)
  clear hz g5 K4
  go_wp2_with fail
  refine (rmul_rt _ _ ay 1 bx 1 2 2 _ z4.out z5.out (by omega) (by omega)).mono ?_
  rintro e w6 ⟨z, rfl, hz, g6⟩
  obtain ⟨r6, o6, l6, c6, R6, O6, M6, C6, rfl, z6⟩ := hz.shape
  replace q0 := q0.mono g6 q0.lt
  replace hF := hF.trans (g6.mono hF.size)
  replace z3 := hid' (z3.out.mono g6)
  clear hz g6 z4 z5
  go_wp2_with fail
  refine (rsub_rt _ _ (ax * by_) (1 * 1) (ay * bx) (1 * 1) 4 4 _ z3.out z6.out (by omega)).mono ?_
  rintro e w7 ⟨z, rfl, hz, g7⟩
  obtain ⟨r7, o7, l7, c7, R7, O7, M7, C7, rfl, z7⟩ := hz.shape
  replace q0 := q0.mono g7 q0.lt
  replace hF := hF.trans (g7.mono hF.size)
  clear hz g7 z3 z6
  have d0 := q0.c0
  have d1 := q0.c1
  have d2 := q0.c2
  have d3 := q0.c3
  have df := q0.f
  go_wp2
  refine bodyPost_ret (v := .agg #[.bool r7, .slice o7 l7 c7, .bool R7, .slice O7 M7 C7]) (by simp [results, Try.results23, go_sem, d0, d1, d2, d3]) rfl ⟨_, rfl, ?_, ?_⟩
  · exact (z7.out.setQ q0 _ _ _ _).to E1.out rfl
  · exact (((hF.setCell (by simp only []; omega) _).setCell (by simp only []; omega) _).setCell (by simp only []; omega) _).setCell (by simp only []; omega) _

theorem dif64 {x y : Int} (h : in32 x) (k : in32 y) : i64 (x - y) := by unfold in32 at *; unfold i64; omega
set_option maxRecDepth 20000 in
set_option maxHeartbeats 2000000 in
theorem rturn_any (a b p : P2) (w : World) (ha : ins a) (hb : ins b) (hp : ins p) :
    Calls Try.prog 21 #[ptv a, ptv b, ptv p] w fun e w' => e = .returned (.int .i64 (cmpI (crs a b p) 0)) ∧ Below w.heap.size w w' := by
  obtain ⟨ax, ay⟩ := a
  obtain ⟨bx, by_⟩ := b
  obtain ⟨px, py⟩ := p
  obtain ⟨i1, i2⟩ := ha
  obtain ⟨i3, i4⟩ := hb
  obtain ⟨i5, i6⟩ := hp
  simp only at i1 i2 i3 i4 i5 i6
  have C := hid' (fun W => cross_rt (bx - ax) (by_ - ay) (px - ax) (py - ay) W (dif64 i3 i1) (dif64 i4 i2) (dif64 i5 i1) (dif64 i6 i2))
  have E : Hid (crs (ax, ay) (bx, by_) (px, py) = (bx - ax) * (py - ay) - (by_ - ay) * (px - ax)) := rfl
  have e1 := w64_in i1
  have e2 := w64_in i2
  have e3 := w64_in i3
  have e4 := w64_in i4
  have e5 := w64_in i5
  have e6 := w64_in i6
  have f1 := w64_dif i3 i1
  have f2 := w64_dif i4 i2
  have f3 := w64_dif i5 i1
  have f4 := w64_dif i6 i2
  clear i1 i2 i3 i4 i5 i6
  generalize crs (ax, ay) (bx, by_) (px, py) = X at *
  show Calls Try.prog 21 #[pt ax ay, pt bx by_, pt px py] w _
  have hF : Below w.heap.size w (((w.alloc (.cells #[.int .i32 ax, .int .i32 ay] 23)).alloc (.cells #[.int .i32 bx, .int .i32 by_] 23)).alloc (.cells #[.int .i32 px, .int .i32 py] 23)) := ((((Gr.refl _).alloc _).alloc _).alloc _).below
  go_enter Try.func21, Try.ntmps21
  go_wp2_with fail
  refine (C.out _).mono ?_
  rintro e w1 ⟨z, rfl, hz, g1⟩
  obtain ⟨r1, o1, l1, c1, R1, O1, M1, C1, rfl, z1⟩ := hz.shape
  replace hF := hF.trans (g1.mono hF.size)
  clear hz g1 C
  have S := rsign_rt _ _ _ _ _ (z1.out.mono ((Gr.refl w1).alloc (.cells #[.bool r1, .slice o1 l1 c1, .bool R1, .slice O1 M1 C1] 53)).below)
  rw [← E.out] at S
  go_wp2_with fail
  refine S.mono ?_
  rintro e w2 ⟨rfl, g2⟩
  go_wp2
  go_ret
  have b1 : Below w.heap.size w (w1.alloc (.cells #[.bool r1, .slice o1 l1 c1, .bool R1, .slice O1 M1 C1] 53)) := hF.trans (((Gr.refl w1).alloc _).below.mono hF.size)
  exact ⟨rfl, b1.trans (g2.mono b1.size)⟩
end Go.Proofs.Ytagabccaipfjeaa
