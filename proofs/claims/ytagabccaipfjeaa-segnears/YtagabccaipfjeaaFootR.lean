/- Contract of the reference's foot. Contract of the reference's Foot. -/
import Derived.Test.YtagabccaipfjeaaR21
import Derived.Test.YtagabccaipfjeaaNearP
namespace Go.Proofs.Ytagabccaipfjeaa
section
open Go.RowKit Go.Sort

abbrev T16 (a0 a1 a2 a3 a4 a5 a6 a7 a8 a9 a10 a11 a12 a13 a14 a15 : Addr) (v0 v1 v2 v3 v4 v5 v6 v7 v8 v9 v10 v11 v12 v13 v14 v15 : Value) (K : Nat) (W w : World) : Prop := w.cell? a0 = some v0 ∧ w.cell? a1 = some v1 ∧ w.cell? a2 = some v2 ∧ w.cell? a3 = some v3 ∧ w.cell? a4 = some v4 ∧ w.cell? a5 = some v5 ∧ w.cell? a6 = some v6 ∧ w.cell? a7 = some v7 ∧ w.cell? a8 = some v8 ∧ w.cell? a9 = some v9 ∧ w.cell? a10 = some v10 ∧ w.cell? a11 = some v11 ∧ w.cell? a12 = some v12 ∧ w.cell? a13 = some v13 ∧ w.cell? a14 = some v14 ∧ w.cell? a15 = some v15 ∧ Below K W w
theorem T16.call {a0 a1 a2 a3 a4 a5 a6 a7 a8 a9 a10 a11 a12 a13 a14 a15 : Addr} {v0 v1 v2 v3 v4 v5 v6 v7 v8 v9 v10 v11 v12 v13 v14 v15 : Value} {K : Nat} {W w : World} {w' : World} (h : T16 a0 a1 a2 a3 a4 a5 a6 a7 a8 a9 a10 a11 a12 a13 a14 a15 v0 v1 v2 v3 v4 v5 v6 v7 v8 v9 v10 v11 v12 v13 v14 v15 K W w) (hK : K ≤ W.heap.size) (g : Below w.heap.size w w') : T16 a0 a1 a2 a3 a4 a5 a6 a7 a8 a9 a10 a11 a12 a13 a14 a15 v0 v1 v2 v3 v4 v5 v6 v7 v8 v9 v10 v11 v12 v13 v14 v15 K W w' :=
  ⟨below_cell h.1 g, below_cell h.2.1 g, below_cell h.2.2.1 g, below_cell h.2.2.2.1 g, below_cell h.2.2.2.2.1 g, below_cell h.2.2.2.2.2.1 g, below_cell h.2.2.2.2.2.2.1 g, below_cell h.2.2.2.2.2.2.2.1 g, below_cell h.2.2.2.2.2.2.2.2.1 g, below_cell h.2.2.2.2.2.2.2.2.2.1 g, below_cell h.2.2.2.2.2.2.2.2.2.2.1 g, below_cell h.2.2.2.2.2.2.2.2.2.2.2.1 g, below_cell h.2.2.2.2.2.2.2.2.2.2.2.2.1 g, below_cell h.2.2.2.2.2.2.2.2.2.2.2.2.2.1 g, below_cell h.2.2.2.2.2.2.2.2.2.2.2.2.2.2.1 g, below_cell h.2.2.2.2.2.2.2.2.2.2.2.2.2.2.2.1 g, h.2.2.2.2.2.2.2.2.2.2.2.2.2.2.2.2.trans (g.mono (Nat.le_trans hK h.2.2.2.2.2.2.2.2.2.2.2.2.2.2.2.2.size))⟩
theorem T16.al {a0 a1 a2 a3 a4 a5 a6 a7 a8 a9 a10 a11 a12 a13 a14 a15 : Addr} {v0 v1 v2 v3 v4 v5 v6 v7 v8 v9 v10 v11 v12 v13 v14 v15 : Value} {K : Nat} {W w : World} (h : T16 a0 a1 a2 a3 a4 a5 a6 a7 a8 a9 a10 a11 a12 a13 a14 a15 v0 v1 v2 v3 v4 v5 v6 v7 v8 v9 v10 v11 v12 v13 v14 v15 K W w) (hK : K ≤ W.heap.size) (o : Obj) : T16 a0 a1 a2 a3 a4 a5 a6 a7 a8 a9 a10 a11 a12 a13 a14 a15 v0 v1 v2 v3 v4 v5 v6 v7 v8 v9 v10 v11 v12 v13 v14 v15 K W (w.alloc o) := T16.call h hK ((Gr.refl _).alloc _).below
theorem T16.dr {a0 a1 a2 a3 a4 a5 a6 a7 a8 a9 a10 a11 a12 a13 a14 a15 : Addr} {v0 v1 v2 v3 v4 v5 v6 v7 v8 v9 v10 v11 v12 v13 v14 v15 : Value} {K : Nat} {W w : World} (h : T16 a0 a1 a2 a3 a4 a5 a6 a7 a8 a9 a10 a11 a12 a13 a14 a15 v0 v1 v2 v3 v4 v5 v6 v7 v8 v9 v10 v11 v12 v13 v14 v15 K W w) : T16 a0 a1 a2 a3 a4 a5 a6 a7 a8 a9 a10 a11 a12 a13 a14 a15 v0 v1 v2 v3 v4 v5 v6 v7 v8 v9 v10 v11 v12 v13 v14 v15 K W w.drew := ⟨h.1, h.2.1, h.2.2.1, h.2.2.2.1, h.2.2.2.2.1, h.2.2.2.2.2.1, h.2.2.2.2.2.2.1, h.2.2.2.2.2.2.2.1, h.2.2.2.2.2.2.2.2.1, h.2.2.2.2.2.2.2.2.2.1, h.2.2.2.2.2.2.2.2.2.2.1, h.2.2.2.2.2.2.2.2.2.2.2.1, h.2.2.2.2.2.2.2.2.2.2.2.2.1, h.2.2.2.2.2.2.2.2.2.2.2.2.2.1, h.2.2.2.2.2.2.2.2.2.2.2.2.2.2.1, h.2.2.2.2.2.2.2.2.2.2.2.2.2.2.2.1, h.2.2.2.2.2.2.2.2.2.2.2.2.2.2.2.2.drew⟩
theorem T16.set {a0 a1 a2 a3 a4 a5 a6 a7 a8 a9 a10 a11 a12 a13 a14 a15 : Addr} {v0 v1 v2 v3 v4 v5 v6 v7 v8 v9 v10 v11 v12 v13 v14 v15 : Value} {K : Nat} {W w : World} (h : T16 a0 a1 a2 a3 a4 a5 a6 a7 a8 a9 a10 a11 a12 a13 a14 a15 v0 v1 v2 v3 v4 v5 v6 v7 v8 v9 v10 v11 v12 v13 v14 v15 K W w) {p : Addr} (hp : K ≤ p.block) (q : a0.block < K ∧ a1.block < K ∧ a2.block < K ∧ a3.block < K ∧ a4.block < K ∧ a5.block < K ∧ a6.block < K ∧ a7.block < K ∧ a8.block < K ∧ a9.block < K ∧ a10.block < K ∧ a11.block < K ∧ a12.block < K ∧ a13.block < K ∧ a14.block < K ∧ a15.block < K) (z : Value) : T16 a0 a1 a2 a3 a4 a5 a6 a7 a8 a9 a10 a11 a12 a13 a14 a15 v0 v1 v2 v3 v4 v5 v6 v7 v8 v9 v10 v11 v12 v13 v14 v15 K W (w.setCell p z) :=
  have f : ∀ a : Addr, a.block < K → (w.setCell p z).cell? a = w.cell? a := fun a ha => World.cell?_setCell_far w p a z (by omega)
  ⟨(f _ q.1).trans h.1, (f _ q.2.1).trans h.2.1, (f _ q.2.2.1).trans h.2.2.1, (f _ q.2.2.2.1).trans h.2.2.2.1, (f _ q.2.2.2.2.1).trans h.2.2.2.2.1, (f _ q.2.2.2.2.2.1).trans h.2.2.2.2.2.1, (f _ q.2.2.2.2.2.2.1).trans h.2.2.2.2.2.2.1, (f _ q.2.2.2.2.2.2.2.1).trans h.2.2.2.2.2.2.2.1, (f _ q.2.2.2.2.2.2.2.2.1).trans h.2.2.2.2.2.2.2.2.1, (f _ q.2.2.2.2.2.2.2.2.2.1).trans h.2.2.2.2.2.2.2.2.2.1, (f _ q.2.2.2.2.2.2.2.2.2.2.1).trans h.2.2.2.2.2.2.2.2.2.2.1, (f _ q.2.2.2.2.2.2.2.2.2.2.2.1).trans h.2.2.2.2.2.2.2.2.2.2.2.1, (f _ q.2.2.2.2.2.2.2.2.2.2.2.2.1).trans h.2.2.2.2.2.2.2.2.2.2.2.2.1, (f _ q.2.2.2.2.2.2.2.2.2.2.2.2.2.1).trans h.2.2.2.2.2.2.2.2.2.2.2.2.2.1, (f _ q.2.2.2.2.2.2.2.2.2.2.2.2.2.2.1).trans h.2.2.2.2.2.2.2.2.2.2.2.2.2.2.1, (f _ q.2.2.2.2.2.2.2.2.2.2.2.2.2.2.2).trans h.2.2.2.2.2.2.2.2.2.2.2.2.2.2.2.1, h.2.2.2.2.2.2.2.2.2.2.2.2.2.2.2.2.setCell hp z⟩
set_option maxRecDepth 20000 in
set_option maxHeartbeats 4000000 in
theorem foot_a {u0 u1 u2 u3 u4 u5 u7 u8 u9 u10 u12 u13 u14 u15 u16 u17 u18 u19 u20 u21 u22 u23 u24 u25 u26 u27 u28 u29 u30 u31 u32 u33 u34 u35 u36 u37 u38 u39 u40 u41 u42 u43 u44 u45 u46 u47 u48 u49 u50 u51 u52 u53 u54 u55 u56 u57 u58 u59 u60 u61 u62 u63 u64 u65 u66 u67 u68 u69 u70 u71 u72 : Value} (w wq : World) (R : Nat) (fn fd : Int) (X11 : Nat) (T D : Int) (hR : w.heap.size ≤ R) (kR : Q4 wq R (.bool false) (.slice none 0 0) (.bool false) (.slice none 0 0)) (hB : Below w.heap.size w wq) (V : VL wq X11 T D 18) (E1 : Hid (T < 0 → fn = 0 ∧ fd = 1)) (E2 : Hid (0 ≤ T → D < T → fn = 1 ∧ fd = 1)) (E3 : Hid (0 ≤ T → T ≤ D → fn = T ∧ fd = D)) (Q : Exit → Act → World → Prop) (hQ : Q = bodyPost Try.prog Try.f34 (fun e w' => ∃ z, e = .returned z ∧ Rt w' z fn fd 18 ∧ Below w.heap.size w w')) :
    Code.wp Try.prog (codeTail 7 (codeOf Try.f34)) Q { tmps := #[u0, u1, u2, u3, u4, u5, .pointer (some ⟨R, 0, none⟩), u7, u8, u9, u10, .pointer (some ⟨X11, 0, none⟩), u12, u13, u14, u15, u16, u17, u18, u19, u20, u21, u22, u23, u24, u25, u26, u27, u28, u29, u30, u31, u32, u33, u34, u35, u36, u37, u38, u39, u40, u41, u42, u43, u44, u45, u46, u47, u48, u49, u50, u51, u52, u53, u54, u55, u56, u57, u58, u59, u60, u61, u62, u63, u64, u65, u66, u67, u68, u69, u70, u71, u72], defers := [] } wq := by
  dsimp only [codeHead, codeTail, codeOf, Try.f34, Option.getD]
  subst hQ
  have W1 := hid' (fun W => whole_rt 1 W (by omega) (by omega))
  have W0 := hid' (fun W => whole_rt 0 W (by omega) (by omega))
  obtain ⟨r3, o3, l3, c3, R3, O3, M3, C3, k11, z3⟩ := V
  replace z3 := hid' z3
  have x0 := k11.c0
  have x1 := k11.c1
  have x2 := k11.c2
  have x3 := k11.c3
  go_wp2_with fail
  refine (rsign_rt _ T D 18 _ z3.out).mono ?_
  rintro e w1 ⟨rfl, g1⟩
  dsimp only
  replace kR := kR.mono g1 kR.lt
  replace hB := hB.trans (g1.mono hB.size)
  replace k11 := k11.mono g1 k11.lt
  replace z3 := hid' (z3.out.mono g1)
  clear g1 x0 x1 x2 x3
  have q1 := @cmp_lt0 T 0
  generalize cmpI T 0 = C1 at *
  by_cases p1 : T < 0
  · have hc := q1.out.mpr p1
    have e := hid' (E1.out p1)
    clear q1 E1 E2 E3 k11 z3 W1
    go_wp2_with fail
    refine (W0.out _).mono ?_
    rintro e w2 ⟨z, rfl, hz, g2⟩
    obtain ⟨r5, o5, l5, c5, R5, O5, M5, C5, rfl, z5⟩ := hz.shape
    dsimp only
    replace kR := kR.mono g2 kR.lt
    replace hB := hB.trans (g2.mono hB.size)
    clear g2 hz W0
    have d0 := kR.c0
    have d1 := kR.c1
    have d2 := kR.c2
    have d3 := kR.c3
    have df := kR.f
    go_wp2
    refine bodyPost_ret (v := .agg #[.bool r5, .slice o5 l5 c5, .bool R5, .slice O5 M5 C5]) (by simp [results, Try.results34, go_sem, d0, d1, d2, d3]) rfl ⟨_, rfl, ?_, ?_⟩
    · exact ((z5.out.le (by omega : 2 ≤ 18)).setQ kR _ _ _ _).to e.out.1.symm e.out.2.symm
    · exact (((hB.setCell (by simp only []; omega) _).setCell (by simp only []; omega) _).setCell (by simp only []; omega) _).setCell (by simp only []; omega) _
  have hc1 : 0 ≤ C1 := Int.not_lt.mp (fun g => p1 (q1.out.mp g))
  clear q1 E1
  go_upto_region 10 with fail
  have hS0 : Hid (SQ X11 (.bool r3) (.slice o3 l3 c3) (.bool R3) (.slice O3 M3 C3) w1.drew) := ⟨k11.c0, k11.c1, k11.c2, k11.c3⟩
  have zd := hid' (z3.out.mono (Below.refl _ _).drew)
  have kRd : Q4 w1.drew R (.bool false) (.slice none 0 0) (.bool false) (.slice none 0 0) := kR
  have hBd : Below w.heap.size w w1.drew := hB.drew
  have k11d : Q4 w1.drew X11 (.bool r3) (.slice o3 l3 c3) (.bool R3) (.slice O3 M3 C3) := k11
  clear k11 z3 kR hB
  go_region_held3 (SQ X11 (.bool r3) (.slice o3 l3 c3) (.bool R3) (.slice O3 M3 C3))
    (repeat (first | with_reducible exact hS3.out | with_reducible exact hS2.out | with_reducible exact hS0.out))
    (first
      | (go_at_call 27; refine (rcmp_rt _ _ T D 1 1 18 2 _ zd.out zw.out (by omega)).mono ?_; rintro e y3 ⟨rfl, g3⟩; have hS3 : Hid (SQ X11 (.bool r3) (.slice o3 l3 c3) (.bool R3) (.slice O3 M3 C3) y3) := SQ.call hS2.out g3; replace zd := hid' (zd.out.mono g3); replace k11d := k11d.mono g3 k11d.lt; replace kRd := kRd.mono g3 kRd.lt; replace hBd := hBd.trans (g3.mono hBd.size))
      | (go_at_call 26; refine (W1.out _).mono ?_; rintro e y2 ⟨z, rfl, hz, g2⟩; obtain ⟨r2, o2, l2, c2, R2, O2, M2, C2, rfl, zw⟩ := hz.shape; clear hz; replace zd := hid' (zd.out.mono g2); have hS2 : Hid (SQ X11 (.bool r3) (.slice o3 l3 c3) (.bool R3) (.slice O3 M3 C3) y2) := SQ.call hS0.out g2; replace k11d := k11d.mono g2 k11d.lt; replace kRd := kRd.mono g2 kRd.lt; replace hBd := hBd.trans (g2.mono hBd.size)))
  have kR := kRd
  have hB := hBd
  have k11 := k11d
  clear kRd hBd k11d hS0 hS2 hS3
  have q2 := @cmp_gt0 T D
  generalize cmpI T D = C2' at *
  by_cases p2 : D < T
  · have hc := q2.out.mpr p2
    have e := hid' (E2.out (by omega) p2)
    clear q2 E2 E3 k11 zd
    go_wp2_with fail
    refine (W1.out _).mono ?_
    rintro e w2 ⟨z, rfl, hz, g2⟩
    obtain ⟨r5, o5, l5, c5, R5, O5, M5, C5, rfl, z5⟩ := hz.shape
    dsimp only
    replace kR := kR.mono g2 kR.lt
    replace hB := hB.trans (g2.mono hB.size)
    clear g2 hz W0
    have d0 := kR.c0
    have d1 := kR.c1
    have d2 := kR.c2
    have d3 := kR.c3
    have df := kR.f
    go_wp2
    refine bodyPost_ret (v := .agg #[.bool r5, .slice o5 l5 c5, .bool R5, .slice O5 M5 C5]) (by simp [results, Try.results34, go_sem, d0, d1, d2, d3]) rfl ⟨_, rfl, ?_, ?_⟩
    · exact ((z5.out.le (by omega : 2 ≤ 18)).setQ kR _ _ _ _).to e.out.1.symm e.out.2.symm
    · exact (((hB.setCell (by simp only []; omega) _).setCell (by simp only []; omega) _).setCell (by simp only []; omega) _).setCell (by simp only []; omega) _
  have hc2 : C2' ≤ 0 := Int.not_lt.mp (fun g => p2 (q2.out.mp g))
  have e := hid' (E3.out (by omega) (by omega))
  have x0 := k11.c0
  have x1 := k11.c1
  have x2 := k11.c2
  have x3 := k11.c3
  clear q2 E2 E3 W0 W1 k11
  have d0 := kR.c0
  have d1 := kR.c1
  have d2 := kR.c2
  have d3 := kR.c3
  have df := kR.f
  go_wp2
  refine bodyPost_ret (v := .agg #[.bool r3, .slice o3 l3 c3, .bool R3, .slice O3 M3 C3]) (by simp [results, Try.results34, go_sem, d0, d1, d2, d3]) rfl ⟨_, rfl, ?_, ?_⟩
  · exact (zd.out.setQ kR _ _ _ _).to e.out.1.symm e.out.2.symm
  · exact (((hB.setCell (by simp only []; omega) _).setCell (by simp only []; omega) _).setCell (by simp only []; omega) _).setCell (by simp only []; omega) _
set_option maxRecDepth 20000 in
set_option maxHeartbeats 4000000 in
theorem foot_b {u0 u1 u2 u3 u4 u5 u11 u12 u13 u14 u15 u16 u17 u18 u19 u20 u21 u22 u23 u24 u25 u26 u27 u28 u29 u30 u31 u32 u33 u34 u35 u36 u37 u38 u39 u40 u41 u42 u43 u44 u45 u46 u47 u48 u49 u50 u51 u52 u53 u54 u55 u56 u57 u58 u59 u60 u61 u62 u63 u64 u65 u66 u67 u68 u69 u70 u71 u72 : Value} (w wq : World) (R : Nat) (fn fd : Int) (X7 X8 X9 X10 : Nat) (ux uy ox oy T D : Int) (hR : w.heap.size ≤ R) (kR : Q4 wq R (.bool false) (.slice none 0 0) (.bool false) (.slice none 0 0)) (hB : Below w.heap.size w wq) (V7 : VL wq X7 ux 1 2) (V8 : VL wq X8 uy 1 2) (V9 : VL wq X9 ox 1 2) (V10 : VL wq X10 oy 1 2) (hT : Hid (ux * ox + uy * oy = T)) (hD : Hid (ux * ux + uy * uy = D)) (h0 : 0 < D) (E1 : Hid (T < 0 → fn = 0 ∧ fd = 1)) (E2 : Hid (0 ≤ T → D < T → fn = 1 ∧ fd = 1)) (E3 : Hid (0 ≤ T → T ≤ D → fn = T ∧ fd = D)) (Q : Exit → Act → World → Prop) (hQ : Q = bodyPost Try.prog Try.f34 (fun e w' => ∃ z, e = .returned z ∧ Rt w' z fn fd 18 ∧ Below w.heap.size w w')) (K : Act → World → Prop) (hK : ∀ a w, Code.wp Try.prog (codeTail 7 (codeOf Try.f34)) Q a w → K a w) :
    Code.wp Try.prog (codeHead 6 (codeOf Try.f34)) (Exit.then K Q) { tmps := #[u0, u1, u2, u3, u4, u5, .pointer (some ⟨R, 0, none⟩), .pointer (some ⟨X7, 0, none⟩), .pointer (some ⟨X8, 0, none⟩), .pointer (some ⟨X9, 0, none⟩), .pointer (some ⟨X10, 0, none⟩), u11, u12, u13, u14, u15, u16, u17, u18, u19, u20, u21, u22, u23, u24, u25, u26, u27, u28, u29, u30, u31, u32, u33, u34, u35, u36, u37, u38, u39, u40, u41, u42, u43, u44, u45, u46, u47, u48, u49, u50, u51, u52, u53, u54, u55, u56, u57, u58, u59, u60, u61, u62, u63, u64, u65, u66, u67, u68, u69, u70, u71, u72], defers := [] } wq := by
  dsimp only [codeHead, codeTail, codeOf, Try.f34, Option.getD] at hK ⊢
  subst hQ
  obtain ⟨r7, o7, l7, c7, R7, O7, M7, C7, k7, zb7⟩ := V7
  replace zb7 := hid' zb7
  obtain ⟨r8, o8, l8, c8, R8, O8, M8, C8, k8, zb8⟩ := V8
  replace zb8 := hid' zb8
  obtain ⟨r9, o9, l9, c9, R9, O9, M9, C9, k9, zb9⟩ := V9
  replace zb9 := hid' zb9
  obtain ⟨r10, o10, l10, c10, R10, O10, M10, C10, k10, zb10⟩ := V10
  replace zb10 := hid' zb10
  have hL : wq.heap.size ≤ wq.heap.size := Nat.le_refl _
  have hlt : Hid (Addr.block ⟨X7, 0, none⟩ < wq.heap.size ∧ Addr.block ⟨X7, 1, none⟩ < wq.heap.size ∧ Addr.block ⟨X7, 2, none⟩ < wq.heap.size ∧ Addr.block ⟨X7, 3, none⟩ < wq.heap.size ∧ Addr.block ⟨X8, 0, none⟩ < wq.heap.size ∧ Addr.block ⟨X8, 1, none⟩ < wq.heap.size ∧ Addr.block ⟨X8, 2, none⟩ < wq.heap.size ∧ Addr.block ⟨X8, 3, none⟩ < wq.heap.size ∧ Addr.block ⟨X9, 0, none⟩ < wq.heap.size ∧ Addr.block ⟨X9, 1, none⟩ < wq.heap.size ∧ Addr.block ⟨X9, 2, none⟩ < wq.heap.size ∧ Addr.block ⟨X9, 3, none⟩ < wq.heap.size ∧ Addr.block ⟨X10, 0, none⟩ < wq.heap.size ∧ Addr.block ⟨X10, 1, none⟩ < wq.heap.size ∧ Addr.block ⟨X10, 2, none⟩ < wq.heap.size ∧ Addr.block ⟨X10, 3, none⟩ < wq.heap.size) := ⟨k7.lt, k7.lt, k7.lt, k7.lt, k8.lt, k8.lt, k8.lt, k8.lt, k9.lt, k9.lt, k9.lt, k9.lt, k10.lt, k10.lt, k10.lt, k10.lt⟩
  have BW : Hid (Below wq.heap.size wq wq) := Below.refl _ _
  have B0 : Hid (Below wq.heap.size wq wq.drew) := (Below.refl _ _).drew
  have hSW : Hid (T16 ⟨X7, 0, none⟩ ⟨X7, 1, none⟩ ⟨X7, 2, none⟩ ⟨X7, 3, none⟩ ⟨X8, 0, none⟩ ⟨X8, 1, none⟩ ⟨X8, 2, none⟩ ⟨X8, 3, none⟩ ⟨X9, 0, none⟩ ⟨X9, 1, none⟩ ⟨X9, 2, none⟩ ⟨X9, 3, none⟩ ⟨X10, 0, none⟩ ⟨X10, 1, none⟩ ⟨X10, 2, none⟩ ⟨X10, 3, none⟩ (.bool r7) (.slice o7 l7 c7) (.bool R7) (.slice O7 M7 C7) (.bool r8) (.slice o8 l8 c8) (.bool R8) (.slice O8 M8 C8) (.bool r9) (.slice o9 l9 c9) (.bool R9) (.slice O9 M9 C9) (.bool r10) (.slice o10 l10 c10) (.bool R10) (.slice O10 M10 C10) wq.heap.size wq wq) := ⟨k7.c0, k7.c1, k7.c2, k7.c3, k8.c0, k8.c1, k8.c2, k8.c3, k9.c0, k9.c1, k9.c2, k9.c3, k10.c0, k10.c1, k10.c2, k10.c3, Below.refl _ _⟩
  have hS0 : Hid (T16 ⟨X7, 0, none⟩ ⟨X7, 1, none⟩ ⟨X7, 2, none⟩ ⟨X7, 3, none⟩ ⟨X8, 0, none⟩ ⟨X8, 1, none⟩ ⟨X8, 2, none⟩ ⟨X8, 3, none⟩ ⟨X9, 0, none⟩ ⟨X9, 1, none⟩ ⟨X9, 2, none⟩ ⟨X9, 3, none⟩ ⟨X10, 0, none⟩ ⟨X10, 1, none⟩ ⟨X10, 2, none⟩ ⟨X10, 3, none⟩ (.bool r7) (.slice o7 l7 c7) (.bool R7) (.slice O7 M7 C7) (.bool r8) (.slice o8 l8 c8) (.bool R8) (.slice O8 M8 C8) (.bool r9) (.slice o9 l9 c9) (.bool R9) (.slice O9 M9 C9) (.bool r10) (.slice o10 l10 c10) (.bool R10) (.slice O10 M10 C10) wq.heap.size wq wq.drew) := T16.dr hSW.out
  have FIN : Hid (∀ W', Below wq.heap.size wq W' → Q4 W' R (.bool false) (.slice none 0 0) (.bool false) (.slice none 0 0) ∧ Below w.heap.size w W') := fun W' g => ⟨kR.mono g kR.lt, hB.trans (g.mono hB.size)⟩
  clear kR hB k7 k8 k9 k10
  go_region_held3 (T16 ⟨X7, 0, none⟩ ⟨X7, 1, none⟩ ⟨X7, 2, none⟩ ⟨X7, 3, none⟩ ⟨X8, 0, none⟩ ⟨X8, 1, none⟩ ⟨X8, 2, none⟩ ⟨X8, 3, none⟩ ⟨X9, 0, none⟩ ⟨X9, 1, none⟩ ⟨X9, 2, none⟩ ⟨X9, 3, none⟩ ⟨X10, 0, none⟩ ⟨X10, 1, none⟩ ⟨X10, 2, none⟩ ⟨X10, 3, none⟩ (.bool r7) (.slice o7 l7 c7) (.bool R7) (.slice O7 M7 C7) (.bool r8) (.slice o8 l8 c8) (.bool R8) (.slice O8 M8 C8) (.bool r9) (.slice o9 l9 c9) (.bool R9) (.slice O9 M9 C9) (.bool r10) (.slice o10 l10 c10) (.bool R10) (.slice O10 M10 C10) wq.heap.size wq)
    (repeat (first | with_reducible exact hS7.out | with_reducible exact hS6.out | with_reducible exact hS5.out | with_reducible exact hS4.out | with_reducible exact hS3.out | with_reducible exact hS2.out | with_reducible exact hS1.out | with_reducible exact hS0.out | with_reducible exact hSW.out | (with_reducible refine T16.set ?_ (by simp only []; omega) hlt.out _) | (with_reducible refine T16.al ?_ hL _) | (with_reducible refine T16.dr ?_)))
    (first
        | (have _n := z6; go_at_call 25; refine (rquo_rt _ _ T 1 D 1 9 9 _ (by first | with_reducible exact z3.out | with_reducible exact z3.out.al _) (by first | with_reducible exact z6.out | with_reducible exact z6.out.al _) (by omega)).mono ?_; rintro e y7 ⟨zz, rfl, hz, g7⟩; obtain ⟨r7q, o7q, l7q, c7q, R7q, O7q, M7q, C7q, rfl, z7⟩ := hz.shape; clear hz; replace z7 : Hid (Rt y7 (.agg #[.bool r7q, .slice o7q l7q c7q, .bool R7q, .slice O7q M7q C7q]) T D 18) := hid' (z7.out.to (by rw [quo_sg]; unfold sgN; rw [if_neg (by omega)]) (by rw [quo_sd]; unfold sgN; rw [if_neg (by omega)])); have B7 : Hid (Below wq.heap.size wq y7) := hid' (Below.trans (by (repeat (first | with_reducible exact B7.out | with_reducible exact B6.out | with_reducible exact B5.out | with_reducible exact B4.out | with_reducible exact B3.out | with_reducible exact B2.out | with_reducible exact B1.out | with_reducible exact B0.out | with_reducible exact BW.out | (with_reducible refine bl_drew ?_) | (with_reducible refine bl_alloc ?_ _)))) (g7.mono (Below.size (by (repeat (first | with_reducible exact B7.out | with_reducible exact B6.out | with_reducible exact B5.out | with_reducible exact B4.out | with_reducible exact B3.out | with_reducible exact B2.out | with_reducible exact B1.out | with_reducible exact B0.out | with_reducible exact BW.out | (with_reducible refine bl_drew ?_) | (with_reducible refine bl_alloc ?_ _))))))); have s7 := B7.out.size; have hS7 : Hid (T16 ⟨X7, 0, none⟩ ⟨X7, 1, none⟩ ⟨X7, 2, none⟩ ⟨X7, 3, none⟩ ⟨X8, 0, none⟩ ⟨X8, 1, none⟩ ⟨X8, 2, none⟩ ⟨X8, 3, none⟩ ⟨X9, 0, none⟩ ⟨X9, 1, none⟩ ⟨X9, 2, none⟩ ⟨X9, 3, none⟩ ⟨X10, 0, none⟩ ⟨X10, 1, none⟩ ⟨X10, 2, none⟩ ⟨X10, 3, none⟩ (.bool r7) (.slice o7 l7 c7) (.bool R7) (.slice O7 M7 C7) (.bool r8) (.slice o8 l8 c8) (.bool R8) (.slice O8 M8 C8) (.bool r9) (.slice o9 l9 c9) (.bool R9) (.slice O9 M9 C9) (.bool r10) (.slice o10 l10 c10) (.bool R10) (.slice O10 M10 C10) wq.heap.size wq y7) := ⟨below_cell hSW.out.1 B7.out, below_cell hSW.out.2.1 B7.out, below_cell hSW.out.2.2.1 B7.out, below_cell hSW.out.2.2.2.1 B7.out, below_cell hSW.out.2.2.2.2.1 B7.out, below_cell hSW.out.2.2.2.2.2.1 B7.out, below_cell hSW.out.2.2.2.2.2.2.1 B7.out, below_cell hSW.out.2.2.2.2.2.2.2.1 B7.out, below_cell hSW.out.2.2.2.2.2.2.2.2.1 B7.out, below_cell hSW.out.2.2.2.2.2.2.2.2.2.1 B7.out, below_cell hSW.out.2.2.2.2.2.2.2.2.2.2.1 B7.out, below_cell hSW.out.2.2.2.2.2.2.2.2.2.2.2.1 B7.out, below_cell hSW.out.2.2.2.2.2.2.2.2.2.2.2.2.1 B7.out, below_cell hSW.out.2.2.2.2.2.2.2.2.2.2.2.2.2.1 B7.out, below_cell hSW.out.2.2.2.2.2.2.2.2.2.2.2.2.2.2.1 B7.out, below_cell hSW.out.2.2.2.2.2.2.2.2.2.2.2.2.2.2.2.1 B7.out, B7.out⟩; first | (have m7 := m6.mono g7 m6.lt; have e7_0 := m7.c0; have e7_1 := m7.c1; have e7_2 := m7.c2; have e7_3 := m7.c3; have e7_f := m7.f) | (have m7 : Q4 y7 y6.heap.size (.bool false) (.slice none 0 0) (.bool false) (.slice none 0 0) := (by with_reducible exact Q4.nx g7); have e7_0 := m7.c0; have e7_1 := m7.c1; have e7_2 := m7.c2; have e7_3 := m7.c3; have e7_f := m7.f) | skip)
        | (have _n := z5; go_at_call 38; refine (radd_rt _ _ (ux * ux) 1 (uy * uy) 1 4 4 _ (by first | with_reducible exact z4.out | with_reducible exact z4.out.al _) (by first | with_reducible exact z5.out | with_reducible exact z5.out.al _) (by omega)).mono ?_; rintro e y6 ⟨zz, rfl, hz, g6⟩; obtain ⟨r6q, o6q, l6q, c6q, R6q, O6q, M6q, C6q, rfl, z6⟩ := hz.shape; clear hz; replace z6 : Hid (Rt y6 (.agg #[.bool r6q, .slice o6q l6q c6q, .bool R6q, .slice O6q M6q C6q]) D 1 9) := hid' (z6.out.to (by rw [Int.mul_one, Int.mul_one]; exact hD.out) (Int.one_mul 1)); have B6 : Hid (Below wq.heap.size wq y6) := hid' (Below.trans (by (repeat (first | with_reducible exact B7.out | with_reducible exact B6.out | with_reducible exact B5.out | with_reducible exact B4.out | with_reducible exact B3.out | with_reducible exact B2.out | with_reducible exact B1.out | with_reducible exact B0.out | with_reducible exact BW.out | (with_reducible refine bl_drew ?_) | (with_reducible refine bl_alloc ?_ _)))) (g6.mono (Below.size (by (repeat (first | with_reducible exact B7.out | with_reducible exact B6.out | with_reducible exact B5.out | with_reducible exact B4.out | with_reducible exact B3.out | with_reducible exact B2.out | with_reducible exact B1.out | with_reducible exact B0.out | with_reducible exact BW.out | (with_reducible refine bl_drew ?_) | (with_reducible refine bl_alloc ?_ _))))))); have s6 := B6.out.size; have hS6 : Hid (T16 ⟨X7, 0, none⟩ ⟨X7, 1, none⟩ ⟨X7, 2, none⟩ ⟨X7, 3, none⟩ ⟨X8, 0, none⟩ ⟨X8, 1, none⟩ ⟨X8, 2, none⟩ ⟨X8, 3, none⟩ ⟨X9, 0, none⟩ ⟨X9, 1, none⟩ ⟨X9, 2, none⟩ ⟨X9, 3, none⟩ ⟨X10, 0, none⟩ ⟨X10, 1, none⟩ ⟨X10, 2, none⟩ ⟨X10, 3, none⟩ (.bool r7) (.slice o7 l7 c7) (.bool R7) (.slice O7 M7 C7) (.bool r8) (.slice o8 l8 c8) (.bool R8) (.slice O8 M8 C8) (.bool r9) (.slice o9 l9 c9) (.bool R9) (.slice O9 M9 C9) (.bool r10) (.slice o10 l10 c10) (.bool R10) (.slice O10 M10 C10) wq.heap.size wq y6) := ⟨below_cell hSW.out.1 B6.out, below_cell hSW.out.2.1 B6.out, below_cell hSW.out.2.2.1 B6.out, below_cell hSW.out.2.2.2.1 B6.out, below_cell hSW.out.2.2.2.2.1 B6.out, below_cell hSW.out.2.2.2.2.2.1 B6.out, below_cell hSW.out.2.2.2.2.2.2.1 B6.out, below_cell hSW.out.2.2.2.2.2.2.2.1 B6.out, below_cell hSW.out.2.2.2.2.2.2.2.2.1 B6.out, below_cell hSW.out.2.2.2.2.2.2.2.2.2.1 B6.out, below_cell hSW.out.2.2.2.2.2.2.2.2.2.2.1 B6.out, below_cell hSW.out.2.2.2.2.2.2.2.2.2.2.2.1 B6.out, below_cell hSW.out.2.2.2.2.2.2.2.2.2.2.2.2.1 B6.out, below_cell hSW.out.2.2.2.2.2.2.2.2.2.2.2.2.2.1 B6.out, below_cell hSW.out.2.2.2.2.2.2.2.2.2.2.2.2.2.2.1 B6.out, below_cell hSW.out.2.2.2.2.2.2.2.2.2.2.2.2.2.2.2.1 B6.out, B6.out⟩; have zn3 : Rt y6 (.agg #[.bool r3q, .slice o3q l3q c3q, .bool R3q, .slice O3q M3q C3q]) T 1 9 := Rt.mono (by first | with_reducible exact z3.out | with_reducible exact z3.out.al _) g6; replace z3 := hid' zn3; clear zn3; first | (have m6 := m5.mono g6 m5.lt; have e6_0 := m6.c0; have e6_1 := m6.c1; have e6_2 := m6.c2; have e6_3 := m6.c3; have e6_f := m6.f) | (have m6 : Q4 y6 y5.heap.size (.bool false) (.slice none 0 0) (.bool false) (.slice none 0 0) := (by with_reducible exact Q4.nx g6); have e6_0 := m6.c0; have e6_1 := m6.c1; have e6_2 := m6.c2; have e6_3 := m6.c3; have e6_f := m6.f) | skip)
        | (have _n := z4; go_at_call 39; refine (rmul_rt _ _ uy 1 uy 1 2 2 _ (zb8.out.mono (by (repeat (first | with_reducible exact B7.out | with_reducible exact B6.out | with_reducible exact B5.out | with_reducible exact B4.out | with_reducible exact B3.out | with_reducible exact B2.out | with_reducible exact B1.out | with_reducible exact B0.out | with_reducible exact BW.out | (with_reducible refine bl_drew ?_) | (with_reducible refine bl_alloc ?_ _))))) (zb8.out.mono (by (repeat (first | with_reducible exact B7.out | with_reducible exact B6.out | with_reducible exact B5.out | with_reducible exact B4.out | with_reducible exact B3.out | with_reducible exact B2.out | with_reducible exact B1.out | with_reducible exact B0.out | with_reducible exact BW.out | (with_reducible refine bl_drew ?_) | (with_reducible refine bl_alloc ?_ _))))) (by omega) (by omega)).mono ?_; rintro e y5 ⟨zz, rfl, hz, g5⟩; obtain ⟨r5q, o5q, l5q, c5q, R5q, O5q, M5q, C5q, rfl, z5⟩ := hz.shape; clear hz; replace z5 : Hid (Rt y5 (.agg #[.bool r5q, .slice o5q l5q c5q, .bool R5q, .slice O5q M5q C5q]) (uy * uy) 1 4) := hid' (z5.out.to rfl (Int.one_mul 1)); have B5 : Hid (Below wq.heap.size wq y5) := hid' (Below.trans (by (repeat (first | with_reducible exact B7.out | with_reducible exact B6.out | with_reducible exact B5.out | with_reducible exact B4.out | with_reducible exact B3.out | with_reducible exact B2.out | with_reducible exact B1.out | with_reducible exact B0.out | with_reducible exact BW.out | (with_reducible refine bl_drew ?_) | (with_reducible refine bl_alloc ?_ _)))) (g5.mono (Below.size (by (repeat (first | with_reducible exact B7.out | with_reducible exact B6.out | with_reducible exact B5.out | with_reducible exact B4.out | with_reducible exact B3.out | with_reducible exact B2.out | with_reducible exact B1.out | with_reducible exact B0.out | with_reducible exact BW.out | (with_reducible refine bl_drew ?_) | (with_reducible refine bl_alloc ?_ _))))))); have s5 := B5.out.size; have hS5 : Hid (T16 ⟨X7, 0, none⟩ ⟨X7, 1, none⟩ ⟨X7, 2, none⟩ ⟨X7, 3, none⟩ ⟨X8, 0, none⟩ ⟨X8, 1, none⟩ ⟨X8, 2, none⟩ ⟨X8, 3, none⟩ ⟨X9, 0, none⟩ ⟨X9, 1, none⟩ ⟨X9, 2, none⟩ ⟨X9, 3, none⟩ ⟨X10, 0, none⟩ ⟨X10, 1, none⟩ ⟨X10, 2, none⟩ ⟨X10, 3, none⟩ (.bool r7) (.slice o7 l7 c7) (.bool R7) (.slice O7 M7 C7) (.bool r8) (.slice o8 l8 c8) (.bool R8) (.slice O8 M8 C8) (.bool r9) (.slice o9 l9 c9) (.bool R9) (.slice O9 M9 C9) (.bool r10) (.slice o10 l10 c10) (.bool R10) (.slice O10 M10 C10) wq.heap.size wq y5) := ⟨below_cell hSW.out.1 B5.out, below_cell hSW.out.2.1 B5.out, below_cell hSW.out.2.2.1 B5.out, below_cell hSW.out.2.2.2.1 B5.out, below_cell hSW.out.2.2.2.2.1 B5.out, below_cell hSW.out.2.2.2.2.2.1 B5.out, below_cell hSW.out.2.2.2.2.2.2.1 B5.out, below_cell hSW.out.2.2.2.2.2.2.2.1 B5.out, below_cell hSW.out.2.2.2.2.2.2.2.2.1 B5.out, below_cell hSW.out.2.2.2.2.2.2.2.2.2.1 B5.out, below_cell hSW.out.2.2.2.2.2.2.2.2.2.2.1 B5.out, below_cell hSW.out.2.2.2.2.2.2.2.2.2.2.2.1 B5.out, below_cell hSW.out.2.2.2.2.2.2.2.2.2.2.2.2.1 B5.out, below_cell hSW.out.2.2.2.2.2.2.2.2.2.2.2.2.2.1 B5.out, below_cell hSW.out.2.2.2.2.2.2.2.2.2.2.2.2.2.2.1 B5.out, below_cell hSW.out.2.2.2.2.2.2.2.2.2.2.2.2.2.2.2.1 B5.out, B5.out⟩; have zn3 : Rt y5 (.agg #[.bool r3q, .slice o3q l3q c3q, .bool R3q, .slice O3q M3q C3q]) T 1 9 := Rt.mono (by first | with_reducible exact z3.out | with_reducible exact z3.out.al _) g5; replace z3 := hid' zn3; clear zn3; have zn4 : Rt y5 (.agg #[.bool r4q, .slice o4q l4q c4q, .bool R4q, .slice O4q M4q C4q]) (ux * ux) 1 4 := Rt.mono (by first | with_reducible exact z4.out | with_reducible exact z4.out.al _) g5; replace z4 := hid' zn4; clear zn4; first | (have m5 := m4.mono g5 m4.lt; have e5_0 := m5.c0; have e5_1 := m5.c1; have e5_2 := m5.c2; have e5_3 := m5.c3; have e5_f := m5.f) | (have m5 : Q4 y5 y4.heap.size (.bool false) (.slice none 0 0) (.bool false) (.slice none 0 0) := (by with_reducible exact Q4.nx g5); have e5_0 := m5.c0; have e5_1 := m5.c1; have e5_2 := m5.c2; have e5_3 := m5.c3; have e5_f := m5.f) | skip)
        | (have _n := z3; go_at_call 39; refine (rmul_rt _ _ ux 1 ux 1 2 2 _ (zb7.out.mono (by (repeat (first | with_reducible exact B7.out | with_reducible exact B6.out | with_reducible exact B5.out | with_reducible exact B4.out | with_reducible exact B3.out | with_reducible exact B2.out | with_reducible exact B1.out | with_reducible exact B0.out | with_reducible exact BW.out | (with_reducible refine bl_drew ?_) | (with_reducible refine bl_alloc ?_ _))))) (zb7.out.mono (by (repeat (first | with_reducible exact B7.out | with_reducible exact B6.out | with_reducible exact B5.out | with_reducible exact B4.out | with_reducible exact B3.out | with_reducible exact B2.out | with_reducible exact B1.out | with_reducible exact B0.out | with_reducible exact BW.out | (with_reducible refine bl_drew ?_) | (with_reducible refine bl_alloc ?_ _))))) (by omega) (by omega)).mono ?_; rintro e y4 ⟨zz, rfl, hz, g4⟩; obtain ⟨r4q, o4q, l4q, c4q, R4q, O4q, M4q, C4q, rfl, z4⟩ := hz.shape; clear hz; replace z4 : Hid (Rt y4 (.agg #[.bool r4q, .slice o4q l4q c4q, .bool R4q, .slice O4q M4q C4q]) (ux * ux) 1 4) := hid' (z4.out.to rfl (Int.one_mul 1)); have B4 : Hid (Below wq.heap.size wq y4) := hid' (Below.trans (by (repeat (first | with_reducible exact B7.out | with_reducible exact B6.out | with_reducible exact B5.out | with_reducible exact B4.out | with_reducible exact B3.out | with_reducible exact B2.out | with_reducible exact B1.out | with_reducible exact B0.out | with_reducible exact BW.out | (with_reducible refine bl_drew ?_) | (with_reducible refine bl_alloc ?_ _)))) (g4.mono (Below.size (by (repeat (first | with_reducible exact B7.out | with_reducible exact B6.out | with_reducible exact B5.out | with_reducible exact B4.out | with_reducible exact B3.out | with_reducible exact B2.out | with_reducible exact B1.out | with_reducible exact B0.out | with_reducible exact BW.out | (with_reducible refine bl_drew ?_) | (with_reducible refine bl_alloc ?_ _))))))); have s4 := B4.out.size; have hS4 : Hid (T16 ⟨X7, 0, none⟩ ⟨X7, 1, none⟩ ⟨X7, 2, none⟩ ⟨X7, 3, none⟩ ⟨X8, 0, none⟩ ⟨X8, 1, none⟩ ⟨X8, 2, none⟩ ⟨X8, 3, none⟩ ⟨X9, 0, none⟩ ⟨X9, 1, none⟩ ⟨X9, 2, none⟩ ⟨X9, 3, none⟩ ⟨X10, 0, none⟩ ⟨X10, 1, none⟩ ⟨X10, 2, none⟩ ⟨X10, 3, none⟩ (.bool r7) (.slice o7 l7 c7) (.bool R7) (.slice O7 M7 C7) (.bool r8) (.slice o8 l8 c8) (.bool R8) (.slice O8 M8 C8) (.bool r9) (.slice o9 l9 c9) (.bool R9) (.slice O9 M9 C9) (.bool r10) (.slice o10 l10 c10) (.bool R10) (.slice O10 M10 C10) wq.heap.size wq y4) := ⟨below_cell hSW.out.1 B4.out, below_cell hSW.out.2.1 B4.out, below_cell hSW.out.2.2.1 B4.out, below_cell hSW.out.2.2.2.1 B4.out, below_cell hSW.out.2.2.2.2.1 B4.out, below_cell hSW.out.2.2.2.2.2.1 B4.out, below_cell hSW.out.2.2.2.2.2.2.1 B4.out, below_cell hSW.out.2.2.2.2.2.2.2.1 B4.out, below_cell hSW.out.2.2.2.2.2.2.2.2.1 B4.out, below_cell hSW.out.2.2.2.2.2.2.2.2.2.1 B4.out, below_cell hSW.out.2.2.2.2.2.2.2.2.2.2.1 B4.out, below_cell hSW.out.2.2.2.2.2.2.2.2.2.2.2.1 B4.out, below_cell hSW.out.2.2.2.2.2.2.2.2.2.2.2.2.1 B4.out, below_cell hSW.out.2.2.2.2.2.2.2.2.2.2.2.2.2.1 B4.out, below_cell hSW.out.2.2.2.2.2.2.2.2.2.2.2.2.2.2.1 B4.out, below_cell hSW.out.2.2.2.2.2.2.2.2.2.2.2.2.2.2.2.1 B4.out, B4.out⟩; have zn3 : Rt y4 (.agg #[.bool r3q, .slice o3q l3q c3q, .bool R3q, .slice O3q M3q C3q]) T 1 9 := Rt.mono (by first | with_reducible exact z3.out | with_reducible exact z3.out.al _) g4; replace z3 := hid' zn3; clear zn3; first | (have m4 := m3.mono g4 m3.lt; have e4_0 := m4.c0; have e4_1 := m4.c1; have e4_2 := m4.c2; have e4_3 := m4.c3; have e4_f := m4.f) | (have m4 : Q4 y4 y3.heap.size (.bool false) (.slice none 0 0) (.bool false) (.slice none 0 0) := (by with_reducible exact Q4.nx g4); have e4_0 := m4.c0; have e4_1 := m4.c1; have e4_2 := m4.c2; have e4_3 := m4.c3; have e4_f := m4.f) | skip)
        | (have _n := z2; go_at_call 38; refine (radd_rt _ _ (ux * ox) 1 (uy * oy) 1 4 4 _ (by first | with_reducible exact z1.out | with_reducible exact z1.out.al _) (by first | with_reducible exact z2.out | with_reducible exact z2.out.al _) (by omega)).mono ?_; rintro e y3 ⟨zz, rfl, hz, g3⟩; obtain ⟨r3q, o3q, l3q, c3q, R3q, O3q, M3q, C3q, rfl, z3⟩ := hz.shape; clear hz; replace z3 : Hid (Rt y3 (.agg #[.bool r3q, .slice o3q l3q c3q, .bool R3q, .slice O3q M3q C3q]) T 1 9) := hid' (z3.out.to (by rw [Int.mul_one, Int.mul_one]; exact hT.out) (Int.one_mul 1)); have B3 : Hid (Below wq.heap.size wq y3) := hid' (Below.trans (by (repeat (first | with_reducible exact B7.out | with_reducible exact B6.out | with_reducible exact B5.out | with_reducible exact B4.out | with_reducible exact B3.out | with_reducible exact B2.out | with_reducible exact B1.out | with_reducible exact B0.out | with_reducible exact BW.out | (with_reducible refine bl_drew ?_) | (with_reducible refine bl_alloc ?_ _)))) (g3.mono (Below.size (by (repeat (first | with_reducible exact B7.out | with_reducible exact B6.out | with_reducible exact B5.out | with_reducible exact B4.out | with_reducible exact B3.out | with_reducible exact B2.out | with_reducible exact B1.out | with_reducible exact B0.out | with_reducible exact BW.out | (with_reducible refine bl_drew ?_) | (with_reducible refine bl_alloc ?_ _))))))); have s3 := B3.out.size; have hS3 : Hid (T16 ⟨X7, 0, none⟩ ⟨X7, 1, none⟩ ⟨X7, 2, none⟩ ⟨X7, 3, none⟩ ⟨X8, 0, none⟩ ⟨X8, 1, none⟩ ⟨X8, 2, none⟩ ⟨X8, 3, none⟩ ⟨X9, 0, none⟩ ⟨X9, 1, none⟩ ⟨X9, 2, none⟩ ⟨X9, 3, none⟩ ⟨X10, 0, none⟩ ⟨X10, 1, none⟩ ⟨X10, 2, none⟩ ⟨X10, 3, none⟩ (.bool r7) (.slice o7 l7 c7) (.bool R7) (.slice O7 M7 C7) (.bool r8) (.slice o8 l8 c8) (.bool R8) (.slice O8 M8 C8) (.bool r9) (.slice o9 l9 c9) (.bool R9) (.slice O9 M9 C9) (.bool r10) (.slice o10 l10 c10) (.bool R10) (.slice O10 M10 C10) wq.heap.size wq y3) := ⟨below_cell hSW.out.1 B3.out, below_cell hSW.out.2.1 B3.out, below_cell hSW.out.2.2.1 B3.out, below_cell hSW.out.2.2.2.1 B3.out, below_cell hSW.out.2.2.2.2.1 B3.out, below_cell hSW.out.2.2.2.2.2.1 B3.out, below_cell hSW.out.2.2.2.2.2.2.1 B3.out, below_cell hSW.out.2.2.2.2.2.2.2.1 B3.out, below_cell hSW.out.2.2.2.2.2.2.2.2.1 B3.out, below_cell hSW.out.2.2.2.2.2.2.2.2.2.1 B3.out, below_cell hSW.out.2.2.2.2.2.2.2.2.2.2.1 B3.out, below_cell hSW.out.2.2.2.2.2.2.2.2.2.2.2.1 B3.out, below_cell hSW.out.2.2.2.2.2.2.2.2.2.2.2.2.1 B3.out, below_cell hSW.out.2.2.2.2.2.2.2.2.2.2.2.2.2.1 B3.out, below_cell hSW.out.2.2.2.2.2.2.2.2.2.2.2.2.2.2.1 B3.out, below_cell hSW.out.2.2.2.2.2.2.2.2.2.2.2.2.2.2.2.1 B3.out, B3.out⟩; first | (have m3 := m2.mono g3 m2.lt; have e3_0 := m3.c0; have e3_1 := m3.c1; have e3_2 := m3.c2; have e3_3 := m3.c3; have e3_f := m3.f) | (have m3 : Q4 y3 y2.heap.size (.bool false) (.slice none 0 0) (.bool false) (.slice none 0 0) := (by with_reducible exact Q4.nx g3); have e3_0 := m3.c0; have e3_1 := m3.c1; have e3_2 := m3.c2; have e3_3 := m3.c3; have e3_f := m3.f) | skip)
        | (have _n := z1; go_at_call 39; refine (rmul_rt _ _ uy 1 oy 1 2 2 _ (zb8.out.mono (by (repeat (first | with_reducible exact B7.out | with_reducible exact B6.out | with_reducible exact B5.out | with_reducible exact B4.out | with_reducible exact B3.out | with_reducible exact B2.out | with_reducible exact B1.out | with_reducible exact B0.out | with_reducible exact BW.out | (with_reducible refine bl_drew ?_) | (with_reducible refine bl_alloc ?_ _))))) (zb10.out.mono (by (repeat (first | with_reducible exact B7.out | with_reducible exact B6.out | with_reducible exact B5.out | with_reducible exact B4.out | with_reducible exact B3.out | with_reducible exact B2.out | with_reducible exact B1.out | with_reducible exact B0.out | with_reducible exact BW.out | (with_reducible refine bl_drew ?_) | (with_reducible refine bl_alloc ?_ _))))) (by omega) (by omega)).mono ?_; rintro e y2 ⟨zz, rfl, hz, g2⟩; obtain ⟨r2q, o2q, l2q, c2q, R2q, O2q, M2q, C2q, rfl, z2⟩ := hz.shape; clear hz; replace z2 : Hid (Rt y2 (.agg #[.bool r2q, .slice o2q l2q c2q, .bool R2q, .slice O2q M2q C2q]) (uy * oy) 1 4) := hid' (z2.out.to rfl (Int.one_mul 1)); have B2 : Hid (Below wq.heap.size wq y2) := hid' (Below.trans (by (repeat (first | with_reducible exact B7.out | with_reducible exact B6.out | with_reducible exact B5.out | with_reducible exact B4.out | with_reducible exact B3.out | with_reducible exact B2.out | with_reducible exact B1.out | with_reducible exact B0.out | with_reducible exact BW.out | (with_reducible refine bl_drew ?_) | (with_reducible refine bl_alloc ?_ _)))) (g2.mono (Below.size (by (repeat (first | with_reducible exact B7.out | with_reducible exact B6.out | with_reducible exact B5.out | with_reducible exact B4.out | with_reducible exact B3.out | with_reducible exact B2.out | with_reducible exact B1.out | with_reducible exact B0.out | with_reducible exact BW.out | (with_reducible refine bl_drew ?_) | (with_reducible refine bl_alloc ?_ _))))))); have s2 := B2.out.size; have hS2 : Hid (T16 ⟨X7, 0, none⟩ ⟨X7, 1, none⟩ ⟨X7, 2, none⟩ ⟨X7, 3, none⟩ ⟨X8, 0, none⟩ ⟨X8, 1, none⟩ ⟨X8, 2, none⟩ ⟨X8, 3, none⟩ ⟨X9, 0, none⟩ ⟨X9, 1, none⟩ ⟨X9, 2, none⟩ ⟨X9, 3, none⟩ ⟨X10, 0, none⟩ ⟨X10, 1, none⟩ ⟨X10, 2, none⟩ ⟨X10, 3, none⟩ (.bool r7) (.slice o7 l7 c7) (.bool R7) (.slice O7 M7 C7) (.bool r8) (.slice o8 l8 c8) (.bool R8) (.slice O8 M8 C8) (.bool r9) (.slice o9 l9 c9) (.bool R9) (.slice O9 M9 C9) (.bool r10) (.slice o10 l10 c10) (.bool R10) (.slice O10 M10 C10) wq.heap.size wq y2) := ⟨below_cell hSW.out.1 B2.out, below_cell hSW.out.2.1 B2.out, below_cell hSW.out.2.2.1 B2.out, below_cell hSW.out.2.2.2.1 B2.out, below_cell hSW.out.2.2.2.2.1 B2.out, below_cell hSW.out.2.2.2.2.2.1 B2.out, below_cell hSW.out.2.2.2.2.2.2.1 B2.out, below_cell hSW.out.2.2.2.2.2.2.2.1 B2.out, below_cell hSW.out.2.2.2.2.2.2.2.2.1 B2.out, below_cell hSW.out.2.2.2.2.2.2.2.2.2.1 B2.out, below_cell hSW.out.2.2.2.2.2.2.2.2.2.2.1 B2.out, below_cell hSW.out.2.2.2.2.2.2.2.2.2.2.2.1 B2.out, below_cell hSW.out.2.2.2.2.2.2.2.2.2.2.2.2.1 B2.out, below_cell hSW.out.2.2.2.2.2.2.2.2.2.2.2.2.2.1 B2.out, below_cell hSW.out.2.2.2.2.2.2.2.2.2.2.2.2.2.2.1 B2.out, below_cell hSW.out.2.2.2.2.2.2.2.2.2.2.2.2.2.2.2.1 B2.out, B2.out⟩; have zn1 : Rt y2 (.agg #[.bool r1q, .slice o1q l1q c1q, .bool R1q, .slice O1q M1q C1q]) (ux * ox) 1 4 := Rt.mono (by first | with_reducible exact z1.out | with_reducible exact z1.out.al _) g2; replace z1 := hid' zn1; clear zn1; first | (have m2 := m1.mono g2 m1.lt; have e2_0 := m2.c0; have e2_1 := m2.c1; have e2_2 := m2.c2; have e2_3 := m2.c3; have e2_f := m2.f) | (have m2 : Q4 y2 y1.heap.size (.bool false) (.slice none 0 0) (.bool false) (.slice none 0 0) := (by with_reducible exact Q4.nx g2); have e2_0 := m2.c0; have e2_1 := m2.c1; have e2_2 := m2.c2; have e2_3 := m2.c3; have e2_f := m2.f) | skip)
        | (go_at_call 39; refine (rmul_rt _ _ ux 1 ox 1 2 2 _ (zb7.out.mono (by (repeat (first | with_reducible exact B7.out | with_reducible exact B6.out | with_reducible exact B5.out | with_reducible exact B4.out | with_reducible exact B3.out | with_reducible exact B2.out | with_reducible exact B1.out | with_reducible exact B0.out | with_reducible exact BW.out | (with_reducible refine bl_drew ?_) | (with_reducible refine bl_alloc ?_ _))))) (zb9.out.mono (by (repeat (first | with_reducible exact B7.out | with_reducible exact B6.out | with_reducible exact B5.out | with_reducible exact B4.out | with_reducible exact B3.out | with_reducible exact B2.out | with_reducible exact B1.out | with_reducible exact B0.out | with_reducible exact BW.out | (with_reducible refine bl_drew ?_) | (with_reducible refine bl_alloc ?_ _))))) (by omega) (by omega)).mono ?_; rintro e y1 ⟨zz, rfl, hz, g1⟩; obtain ⟨r1q, o1q, l1q, c1q, R1q, O1q, M1q, C1q, rfl, z1⟩ := hz.shape; clear hz; replace z1 : Hid (Rt y1 (.agg #[.bool r1q, .slice o1q l1q c1q, .bool R1q, .slice O1q M1q C1q]) (ux * ox) 1 4) := hid' (z1.out.to rfl (Int.one_mul 1)); have B1 : Hid (Below wq.heap.size wq y1) := hid' (Below.trans (by (repeat (first | with_reducible exact B7.out | with_reducible exact B6.out | with_reducible exact B5.out | with_reducible exact B4.out | with_reducible exact B3.out | with_reducible exact B2.out | with_reducible exact B1.out | with_reducible exact B0.out | with_reducible exact BW.out | (with_reducible refine bl_drew ?_) | (with_reducible refine bl_alloc ?_ _)))) (g1.mono (Below.size (by (repeat (first | with_reducible exact B7.out | with_reducible exact B6.out | with_reducible exact B5.out | with_reducible exact B4.out | with_reducible exact B3.out | with_reducible exact B2.out | with_reducible exact B1.out | with_reducible exact B0.out | with_reducible exact BW.out | (with_reducible refine bl_drew ?_) | (with_reducible refine bl_alloc ?_ _))))))); have s1 := B1.out.size; have hS1 : Hid (T16 ⟨X7, 0, none⟩ ⟨X7, 1, none⟩ ⟨X7, 2, none⟩ ⟨X7, 3, none⟩ ⟨X8, 0, none⟩ ⟨X8, 1, none⟩ ⟨X8, 2, none⟩ ⟨X8, 3, none⟩ ⟨X9, 0, none⟩ ⟨X9, 1, none⟩ ⟨X9, 2, none⟩ ⟨X9, 3, none⟩ ⟨X10, 0, none⟩ ⟨X10, 1, none⟩ ⟨X10, 2, none⟩ ⟨X10, 3, none⟩ (.bool r7) (.slice o7 l7 c7) (.bool R7) (.slice O7 M7 C7) (.bool r8) (.slice o8 l8 c8) (.bool R8) (.slice O8 M8 C8) (.bool r9) (.slice o9 l9 c9) (.bool R9) (.slice O9 M9 C9) (.bool r10) (.slice o10 l10 c10) (.bool R10) (.slice O10 M10 C10) wq.heap.size wq y1) := ⟨below_cell hSW.out.1 B1.out, below_cell hSW.out.2.1 B1.out, below_cell hSW.out.2.2.1 B1.out, below_cell hSW.out.2.2.2.1 B1.out, below_cell hSW.out.2.2.2.2.1 B1.out, below_cell hSW.out.2.2.2.2.2.1 B1.out, below_cell hSW.out.2.2.2.2.2.2.1 B1.out, below_cell hSW.out.2.2.2.2.2.2.2.1 B1.out, below_cell hSW.out.2.2.2.2.2.2.2.2.1 B1.out, below_cell hSW.out.2.2.2.2.2.2.2.2.2.1 B1.out, below_cell hSW.out.2.2.2.2.2.2.2.2.2.2.1 B1.out, below_cell hSW.out.2.2.2.2.2.2.2.2.2.2.2.1 B1.out, below_cell hSW.out.2.2.2.2.2.2.2.2.2.2.2.2.1 B1.out, below_cell hSW.out.2.2.2.2.2.2.2.2.2.2.2.2.2.1 B1.out, below_cell hSW.out.2.2.2.2.2.2.2.2.2.2.2.2.2.2.1 B1.out, below_cell hSW.out.2.2.2.2.2.2.2.2.2.2.2.2.2.2.2.1 B1.out, B1.out⟩; first | (have m1 : Q4 y1 wq.heap.size (.bool false) (.slice none 0 0) (.bool false) (.slice none 0 0) := (by with_reducible exact Q4.nw g1); have e1_0 := m1.c0; have e1_1 := m1.c1; have e1_2 := m1.c2; have e1_3 := m1.c3; have e1_f := m1.f) | skip))
  · exact hK _ _ (foot_a w _ R fn fd _ T D hR (FIN.out _ (bl_alloc B7.out _)).1 (FIN.out _ (bl_alloc B7.out _)).2 (VL.new z7.out) E1 E2 E3 _ rfl)
  all_goals
    exact hK _ _ (foot_a w _ R fn fd _ T D hR (FIN.out _ (four_set B7.out (by omega))).1 (FIN.out _ (four_set B7.out (by omega))).2 (VL.put m7 z7.out) E1 E2 E3 _ rfl)
/-- What foot has in memory. -/
structure Fq (w w' : World) (p a b : P2) : Prop where
  p : TwoIs w' w.heap.size p.1 p.2
  a : TwoIs w' (w.heap.size + 1) a.1 a.2
  b : TwoIs w' (w.heap.size + 1 + 1) b.1 b.2
  r : Q4 w' (w.heap.size + 1 + 1 + 1) (.bool false) (.slice none 0 0) (.bool false) (.slice none 0 0)
  g : Below w.heap.size w w'
theorem Fq.mono {w w1 w2 : World} {p a b : P2} (h : Fq w w1 p a b) (g : Below w1.heap.size w1 w2) : Fq w w2 p a b :=
  ⟨⟨below_cell h.p.c0 g, below_cell h.p.c1 g⟩, ⟨below_cell h.a.c0 g, below_cell h.a.c1 g⟩, ⟨below_cell h.b.c0 g, below_cell h.b.c1 g⟩, h.r.mono g h.r.lt, h.g.trans (g.mono h.g.size)⟩
theorem Fq.new (w : World) (px py ax ay bx by_ : Int) : Fq w ((((w.alloc (.cells #[.int .i32 px, .int .i32 py] 23)).alloc (.cells #[.int .i32 ax, .int .i32 ay] 23)).alloc (.cells #[.int .i32 bx, .int .i32 by_] 23)).alloc (.cells #[.bool false, .slice none 0 0, .bool false, .slice none 0 0] 53)) (px, py) (ax, ay) (bx, by_) := by
  refine ⟨⟨by go_simp, by go_simp⟩, ⟨by go_simp, by go_simp⟩, ⟨by go_simp, by go_simp⟩, ?_, (((((Gr.refl _).alloc _).alloc _).alloc _).alloc _).below⟩
  have := Q4.new (((w.alloc (.cells #[.int .i32 px, .int .i32 py] 23)).alloc (.cells #[.int .i32 ax, .int .i32 ay] 23)).alloc (.cells #[.int .i32 bx, .int .i32 by_] 23)) (.bool false) (.slice none 0 0) (.bool false) (.slice none 0 0)
  simpa using this
set_option maxRecDepth 20000 in
set_option maxHeartbeats 4000000 in
theorem foot_same_rt (p a : P2) (w : World) : Calls Try.prog 34 #[ptv p, ptv a, ptv a] w fun e w' => ∃ z, e = .returned z ∧ Rt w' z 0 1 18 ∧ Below w.heap.size w w' := by
  have W0 := hid' (fun W => whole_rt 0 W (by omega) (by omega))
  obtain ⟨px, py⟩ := p
  obtain ⟨ax, ay⟩ := a
  have S := Fq.new w px py ax ay ax ay
  show Calls Try.prog 34 #[pt px py, pt ax ay, pt ax ay] w _
  go_enter Try.func34, Try.ntmps34
  go_wp2_with fail
  refine (W0.out _).mono ?_
  generalize ((((w.alloc (.cells #[.int .i32 px, .int .i32 py] 23)).alloc (.cells #[.int .i32 ax, .int .i32 ay] 23)).alloc (.cells #[.int .i32 ax, .int .i32 ay] 23)).alloc (.cells #[.bool false, .slice none 0 0, .bool false, .slice none 0 0] 53)) = W at *
  rintro e w2 ⟨z, rfl, hz, g2⟩
  obtain ⟨r5, o5, l5, c5, R5, O5, M5, C5, rfl, z5⟩ := hz.shape
  dsimp only
  replace S := S.mono g2
  have kR := S.r
  have hB := S.g
  clear g2 hz W0
  have d0 := kR.c0
  have d1 := kR.c1
  have d2 := kR.c2
  have d3 := kR.c3
  have df := kR.f
  go_wp2
  refine bodyPost_ret (v := .agg #[.bool r5, .slice o5 l5 c5, .bool R5, .slice O5 M5 C5]) (by simp [results, Try.results34, go_sem, d0, d1, d2, d3]) rfl ⟨_, rfl, ?_, ?_⟩
  · exact ((z5.out.le (by omega : 2 ≤ 18)).setQ kR _ _ _ _).to rfl rfl
  · exact (((hB.setCell (by simp only []; omega) _).setCell (by simp only []; omega) _).setCell (by simp only []; omega) _).setCell (by simp only []; omega) _
set_option maxRecDepth 20000 in
set_option maxHeartbeats 4000000 in
theorem foot_two_rt (p a b : P2) (w : World) (hp : ins p) (ha : ins a) (hb : ins b) (hab : a ≠ b) : Calls Try.prog 34 #[ptv p, ptv a, ptv b] w fun e w' => ∃ z, e = .returned z ∧ Rt w' z (rft p a b).1 (rft p a b).2 18 ∧ Below w.heap.size w w' := by
  have E1 : Hid (dtt a b p < 0 → (rft p a b).1 = 0 ∧ (rft p a b).2 = 1) := fun h => by unfold rft; rw [if_neg hab, if_pos h]; exact ⟨rfl, rfl⟩
  have E2 : Hid (0 ≤ dtt a b p → dd a b < dtt a b p → (rft p a b).1 = 1 ∧ (rft p a b).2 = 1) := fun h k => by unfold rft; rw [if_neg hab, if_neg (by omega), if_pos k]; exact ⟨rfl, rfl⟩
  have E3 : Hid (0 ≤ dtt a b p → dtt a b p ≤ dd a b → (rft p a b).1 = dtt a b p ∧ (rft p a b).2 = dd a b) := fun h k => by unfold rft; rw [if_neg hab, if_neg (by omega), if_neg (by omega)]; exact ⟨rfl, rfl⟩
  have hN := dd_pos hab
  have hT : Hid ((b.1 - a.1) * (p.1 - a.1) + (b.2 - a.2) * (p.2 - a.2) = dtt a b p) := rfl
  have hD : Hid ((b.1 - a.1) * (b.1 - a.1) + (b.2 - a.2) * (b.2 - a.2) = dd a b) := rfl
  have hne := ne_eqB hab
  generalize (rft p a b).1 = fn at *
  generalize (rft p a b).2 = fd at *
  generalize dtt a b p = T at *
  generalize dd a b = D at *
  clear hab
  obtain ⟨px, py⟩ := p
  obtain ⟨ax, ay⟩ := a
  obtain ⟨bx, by_⟩ := b
  obtain ⟨i1, j1⟩ := hp
  obtain ⟨i2, j2⟩ := ha
  obtain ⟨i3, j3⟩ := hb
  simp only at i1 j1 i2 j2 i3 j3 hT hD hne
  have U1 := hid' (fun W => whole_rt (bx - ax) W (dif64 i3 i2).1 (dif64 i3 i2).2)
  have U2 := hid' (fun W => whole_rt (by_ - ay) W (dif64 j3 j2).1 (dif64 j3 j2).2)
  have U3 := hid' (fun W => whole_rt (px - ax) W (dif64 i1 i2).1 (dif64 i1 i2).2)
  have U4 := hid' (fun W => whole_rt (py - ay) W (dif64 j1 j2).1 (dif64 j1 j2).2)
  have e1 := w64_in i1
  have e2 := w64_in i2
  have e3 := w64_in i3
  have e4 := w64_in j1
  have e5 := w64_in j2
  have e6 := w64_in j3
  have f1 := w64_dif i3 i2
  have f2 := w64_dif j3 j2
  have f3 := w64_dif i1 i2
  have f4 := w64_dif j1 j2
  clear i1 j1 i2 j2 i3 j3
  have S : Fq w ((((w.alloc (.cells #[.int .i32 px, .int .i32 py] 23)).alloc (.cells #[.int .i32 ax, .int .i32 ay] 23)).alloc (.cells #[.int .i32 bx, .int .i32 by_] 23)).alloc (.cells #[.bool false, .slice none 0 0, .bool false, .slice none 0 0] 53)) (px, py) (ax, ay) (bx, by_) := Fq.new w px py ax ay bx by_
  show Calls Try.prog 34 #[pt px py, pt ax ay, pt bx by_] w _
  rcases hne.out with k | ⟨k, k'⟩
  all_goals
    clear hne
    go_enter Try.func34, Try.ntmps34
    have p0 := S.p.c0
    have p1 := S.p.c1
    have a0 := S.a.c0
    have a1 := S.a.c1
    have b0 := S.b.c0
    have b1 := S.b.c1
    go_wp2_with fail
    generalize ((((w.alloc (.cells #[.int .i32 px, .int .i32 py] 23)).alloc (.cells #[.int .i32 ax, .int .i32 ay] 23)).alloc (.cells #[.int .i32 bx, .int .i32 by_] 23)).alloc (.cells #[.bool false, .slice none 0 0, .bool false, .slice none 0 0] 53)) = W at *
    refine (U1.out _).mono ?_
    rintro e w1 ⟨z, rfl, hz, g1⟩
    obtain ⟨r1, o1, l1, c1, R1, O1, M1, C1, rfl, z1⟩ := hz.shape
    have h1 : Below w1.heap.size w1 (w1.alloc (.cells #[.bool r1, .slice o1 l1 c1, .bool R1, .slice O1 M1 C1] 53)) := ((Gr.refl _).alloc _).below
    replace g1 := g1.trans (h1.mono g1.size)
    replace S := S.mono g1
    have V7 : Hid (VL (w1.alloc (.cells #[.bool r1, .slice o1 l1 c1, .bool R1, .slice O1 M1 C1] 53)) w1.heap.size (bx - ax) 1 2) := hid' (VL.new z1.out)
    clear hz h1 g1 z1 U1 p0 p1 a0 a1 b0 b1
    dsimp only
    have p0 := S.p.c0
    have p1 := S.p.c1
    have a0 := S.a.c0
    have a1 := S.a.c1
    have b0 := S.b.c0
    have b1 := S.b.c1
    go_wp2_with fail
    generalize w1.alloc (.cells #[.bool r1, .slice o1 l1 c1, .bool R1, .slice O1 M1 C1] 53) = Y1 at *
    generalize w1.heap.size = X7 at *
    refine (U2.out _).mono ?_
    rintro e w2 ⟨z, rfl, hz, g2⟩
    obtain ⟨r2, o2, l2, c2, R2, O2, M2, C2, rfl, z2⟩ := hz.shape
    have h2 : Below w2.heap.size w2 (w2.alloc (.cells #[.bool r2, .slice o2 l2 c2, .bool R2, .slice O2 M2 C2] 53)) := ((Gr.refl _).alloc _).below
    replace g2 := g2.trans (h2.mono g2.size)
    replace S := S.mono g2
    replace V7 := hid' (V7.out.mono g2)
    have V8 : Hid (VL (w2.alloc (.cells #[.bool r2, .slice o2 l2 c2, .bool R2, .slice O2 M2 C2] 53)) w2.heap.size (by_ - ay) 1 2) := hid' (VL.new z2.out)
    clear hz h2 g2 z2 U2 p0 p1 a0 a1 b0 b1
    dsimp only
    have p0 := S.p.c0
    have p1 := S.p.c1
    have a0 := S.a.c0
    have a1 := S.a.c1
    have b0 := S.b.c0
    have b1 := S.b.c1
    go_wp2_with fail
    generalize w2.alloc (.cells #[.bool r2, .slice o2 l2 c2, .bool R2, .slice O2 M2 C2] 53) = Y2 at *
    generalize w2.heap.size = X8 at *
    refine (U3.out _).mono ?_
    rintro e w3 ⟨z, rfl, hz, g3⟩
    obtain ⟨r3, o3, l3, c3, R3, O3, M3, C3, rfl, z3⟩ := hz.shape
    have h3 : Below w3.heap.size w3 (w3.alloc (.cells #[.bool r3, .slice o3 l3 c3, .bool R3, .slice O3 M3 C3] 53)) := ((Gr.refl _).alloc _).below
    replace g3 := g3.trans (h3.mono g3.size)
    replace S := S.mono g3
    replace V7 := hid' (V7.out.mono g3)
    replace V8 := hid' (V8.out.mono g3)
    have V9 : Hid (VL (w3.alloc (.cells #[.bool r3, .slice o3 l3 c3, .bool R3, .slice O3 M3 C3] 53)) w3.heap.size (px - ax) 1 2) := hid' (VL.new z3.out)
    clear hz h3 g3 z3 U3 p0 p1 a0 a1 b0 b1
    dsimp only
    have p0 := S.p.c0
    have p1 := S.p.c1
    have a0 := S.a.c0
    have a1 := S.a.c1
    have b0 := S.b.c0
    have b1 := S.b.c1
    go_wp2_with fail
    generalize w3.alloc (.cells #[.bool r3, .slice o3 l3 c3, .bool R3, .slice O3 M3 C3] 53) = Y3 at *
    generalize w3.heap.size = X9 at *
    refine (U4.out _).mono ?_
    rintro e w4 ⟨z, rfl, hz, g4⟩
    obtain ⟨r4, o4, l4, c4, R4, O4, M4, C4, rfl, z4⟩ := hz.shape
    have h4 : Below w4.heap.size w4 (w4.alloc (.cells #[.bool r4, .slice o4 l4 c4, .bool R4, .slice O4 M4 C4] 53)) := ((Gr.refl _).alloc _).below
    replace g4 := g4.trans (h4.mono g4.size)
    replace S := S.mono g4
    replace V7 := hid' (V7.out.mono g4)
    replace V8 := hid' (V8.out.mono g4)
    replace V9 := hid' (V9.out.mono g4)
    have V10 : Hid (VL (w4.alloc (.cells #[.bool r4, .slice o4 l4 c4, .bool R4, .slice O4 M4 C4] 53)) w4.heap.size (py - ay) 1 2) := hid' (VL.new z4.out)
    clear hz h4 g4 z4 U4 p0 p1 a0 a1 b0 b1
    dsimp only
    have p0 := S.p.c0
    have p1 := S.p.c1
    have a0 := S.a.c0
    have a1 := S.a.c1
    have b0 := S.b.c0
    have b1 := S.b.c1
    go_upto_region 7 with fail
    generalize w4.alloc (.cells #[.bool r4, .slice o4 l4 c4, .bool R4, .slice O4 M4 C4] 53) = Y4 at *
    generalize w4.heap.size = X10 at *
    exact foot_b w _ (w.heap.size + 1 + 1 + 1) fn fd X7 X8 X9 X10 (bx - ax) (by_ - ay) (px - ax) (py - ay) T D (by omega) S.r S.g V7.out V8.out V9.out V10.out hT hD hN E1 E2 E3 _ rfl _ (by assumption)
/-- The reference's foot, of any points of 32 bits. -/
theorem foot_rt (p a b : P2) (w : World) (hp : ins p) (ha : ins a) (hb : ins b) : Calls Try.prog 34 #[ptv p, ptv a, ptv b] w fun e w' => ∃ z, e = .returned z ∧ Rt w' z (rft p a b).1 (rft p a b).2 18 ∧ Below w.heap.size w w' := by
  by_cases h : a = b
  · subst h
    have e : rft p a a = (0, 1) := by unfold rft; rw [if_pos rfl]
    rw [e]
    exact foot_same_rt p a w
  · exact foot_two_rt p a b w hp ha hb h
end
section
open Go.RowKit Go.Sort

theorem rft_bd {p a b : P2} (la : lat a) (lb : lat b) : (rft p a b).2 ≤ 9223372036854775807 ∧ (rft p a b).1.natAbs ≤ 9223372036854775807 := by
  have := dd_bd la lb
  unfold rft
  split
  · exact ⟨by decide, by decide⟩
  · split
    · exact ⟨by decide, by decide⟩
    · split
      · exact ⟨by decide, by decide⟩
      · exact ⟨by show dd a b ≤ _; omega, by show (dtt a b p).natAbs ≤ _; omega⟩
structure Gq (w w' : World) (p a b : P2) : Prop where
  p : TwoIs w' w.heap.size p.1 p.2
  a : TwoIs w' (w.heap.size + 1) a.1 a.2
  b : TwoIs w' (w.heap.size + 1 + 1) b.1 b.2
  r : TwoF w' (w.heap.size + 1 + 1 + 1) (.int .i64 0) (.int .i64 0)
  g : Below w.heap.size w w'
theorem Gq.mono {w w1 w2 : World} {p a b : P2} (h : Gq w w1 p a b) (g : Below w1.heap.size w1 w2) : Gq w w2 p a b :=
  ⟨⟨below_cell h.p.c0 g, below_cell h.p.c1 g⟩, ⟨below_cell h.a.c0 g, below_cell h.a.c1 g⟩, ⟨below_cell h.b.c0 g, below_cell h.b.c1 g⟩, h.r.mono g h.r.lt, h.g.trans (g.mono h.g.size)⟩
theorem Gq.new (w : World) (px py ax ay bx by_ : Int) : Gq w ((((w.alloc (.cells #[.int .i32 px, .int .i32 py] 23)).alloc (.cells #[.int .i32 ax, .int .i32 ay] 23)).alloc (.cells #[.int .i32 bx, .int .i32 by_] 23)).alloc (.cells #[.int .i64 0, .int .i64 0] 28)) (px, py) (ax, ay) (bx, by_) := by
  refine ⟨⟨by go_simp, by go_simp⟩, ⟨by go_simp, by go_simp⟩, ⟨by go_simp, by go_simp⟩, ?_, (((((Gr.refl _).alloc _).alloc _).alloc _).alloc _).below⟩
  have := TwoF.new (((w.alloc (.cells #[.int .i32 px, .int .i32 py] 23)).alloc (.cells #[.int .i32 ax, .int .i32 ay] 23)).alloc (.cells #[.int .i32 bx, .int .i32 by_] 23)) (.int .i64 0) (.int .i64 0)
  simpa using this
set_option maxRecDepth 20000 in
set_option maxHeartbeats 4000000 in
theorem rfoot_offP (p a b : P2) (w : World) (lp : latP p = false) : Calls Try.prog 12 #[ptv p, ptv a, ptv b] w fun e w' => e = .returned (frv (0, 1)) ∧ Below w.heap.size w w' := by
  have IP : Hid (∀ W, Calls Try.prog 18 #[ptv p] W fun e w' => e = .returned (.bool false) ∧ Gr W w') := fun W => by have := rin_any p W; rw [lp] at this; exact this
  obtain ⟨px, py⟩ := p
  obtain ⟨ax, ay⟩ := a
  obtain ⟨bx, by_⟩ := b
  have S : Gq w ((((w.alloc (.cells #[.int .i32 px, .int .i32 py] 23)).alloc (.cells #[.int .i32 ax, .int .i32 ay] 23)).alloc (.cells #[.int .i32 bx, .int .i32 by_] 23)).alloc (.cells #[.int .i64 0, .int .i64 0] 28)) (px, py) (ax, ay) (bx, by_) := Gq.new w px py ax ay bx by_
  show Calls Try.prog 12 #[pt px py, pt ax ay, pt bx by_] w _
  go_enter Try.func12, Try.ntmps12
  go_wp2_with fail
  refine (IP.out _).mono ?_
  generalize ((((w.alloc (.cells #[.int .i32 px, .int .i32 py] 23)).alloc (.cells #[.int .i32 ax, .int .i32 ay] 23)).alloc (.cells #[.int .i32 bx, .int .i32 by_] 23)).alloc (.cells #[.int .i64 0, .int .i64 0] 28)) = W at *
  rintro e w1 ⟨rfl, g1⟩
  replace S := S.mono g1.below
  clear g1
  dsimp only
  have n0 := S.r.c0
  have n1 := S.r.c1
  have nf := S.r.f
  have hb := S.g
  go_wp2
  refine bodyPost_ret (v := frv (0, 1)) (by simp [results, Try.results12, go_sem, n0, n1]) rfl ⟨rfl, ?_⟩
  exact (hb.setCell (by simp only []; omega) _).setCell (by simp only []; omega) _
set_option maxRecDepth 20000 in
set_option maxHeartbeats 4000000 in
theorem rfoot_offA (p a b : P2) (w : World) (lp : lat p) (la : latP a = false) : Calls Try.prog 12 #[ptv p, ptv a, ptv b] w fun e w' => e = .returned (frv (0, 1)) ∧ Below w.heap.size w w' := by
  have IP : Hid (∀ W, Calls Try.prog 18 #[ptv p] W fun e w' => e = .returned (.bool true) ∧ Gr W w') := fun W => by have := rin_any p W; rw [(latP_iff p).mpr lp] at this; exact this
  have IA : Hid (∀ W, Calls Try.prog 18 #[ptv a] W fun e w' => e = .returned (.bool false) ∧ Gr W w') := fun W => by have := rin_any a W; rw [la] at this; exact this
  obtain ⟨px, py⟩ := p
  obtain ⟨ax, ay⟩ := a
  obtain ⟨bx, by_⟩ := b
  have S : Gq w ((((w.alloc (.cells #[.int .i32 px, .int .i32 py] 23)).alloc (.cells #[.int .i32 ax, .int .i32 ay] 23)).alloc (.cells #[.int .i32 bx, .int .i32 by_] 23)).alloc (.cells #[.int .i64 0, .int .i64 0] 28)) (px, py) (ax, ay) (bx, by_) := Gq.new w px py ax ay bx by_
  show Calls Try.prog 12 #[pt px py, pt ax ay, pt bx by_] w _
  go_enter Try.func12, Try.ntmps12
  go_wp2_with fail
  refine (IP.out _).mono ?_
  generalize ((((w.alloc (.cells #[.int .i32 px, .int .i32 py] 23)).alloc (.cells #[.int .i32 ax, .int .i32 ay] 23)).alloc (.cells #[.int .i32 bx, .int .i32 by_] 23)).alloc (.cells #[.int .i64 0, .int .i64 0] 28)) = W at *
  rintro e w1 ⟨rfl, g1⟩
  replace S := S.mono g1.below
  clear g1
  dsimp only
  have a0 := S.a.c0
  have a1 := S.a.c1
  go_wp2_with fail
  refine (IA.out _).mono ?_
  rintro e w2 ⟨rfl, g2⟩
  replace S := S.mono g2.below
  clear g2
  dsimp only
  clear a0 a1
  have n0 := S.r.c0
  have n1 := S.r.c1
  have nf := S.r.f
  have hb := S.g
  go_wp2
  refine bodyPost_ret (v := frv (0, 1)) (by simp [results, Try.results12, go_sem, n0, n1]) rfl ⟨rfl, ?_⟩
  exact (hb.setCell (by simp only []; omega) _).setCell (by simp only []; omega) _
set_option maxRecDepth 20000 in
set_option maxHeartbeats 4000000 in
theorem rfoot_offB (p a b : P2) (w : World) (lp : lat p) (la : lat a) (lb : latP b = false) : Calls Try.prog 12 #[ptv p, ptv a, ptv b] w fun e w' => e = .returned (frv (0, 1)) ∧ Below w.heap.size w w' := by
  have IP : Hid (∀ W, Calls Try.prog 18 #[ptv p] W fun e w' => e = .returned (.bool true) ∧ Gr W w') := fun W => by have := rin_any p W; rw [(latP_iff p).mpr lp] at this; exact this
  have IA : Hid (∀ W, Calls Try.prog 18 #[ptv a] W fun e w' => e = .returned (.bool true) ∧ Gr W w') := fun W => by have := rin_any a W; rw [(latP_iff a).mpr la] at this; exact this
  have IB : Hid (∀ W, Calls Try.prog 18 #[ptv b] W fun e w' => e = .returned (.bool false) ∧ Gr W w') := fun W => by have := rin_any b W; rw [lb] at this; exact this
  obtain ⟨px, py⟩ := p
  obtain ⟨ax, ay⟩ := a
  obtain ⟨bx, by_⟩ := b
  have S : Gq w ((((w.alloc (.cells #[.int .i32 px, .int .i32 py] 23)).alloc (.cells #[.int .i32 ax, .int .i32 ay] 23)).alloc (.cells #[.int .i32 bx, .int .i32 by_] 23)).alloc (.cells #[.int .i64 0, .int .i64 0] 28)) (px, py) (ax, ay) (bx, by_) := Gq.new w px py ax ay bx by_
  show Calls Try.prog 12 #[pt px py, pt ax ay, pt bx by_] w _
  go_enter Try.func12, Try.ntmps12
  go_wp2_with fail
  refine (IP.out _).mono ?_
  generalize ((((w.alloc (.cells #[.int .i32 px, .int .i32 py] 23)).alloc (.cells #[.int .i32 ax, .int .i32 ay] 23)).alloc (.cells #[.int .i32 bx, .int .i32 by_] 23)).alloc (.cells #[.int .i64 0, .int .i64 0] 28)) = W at *
  rintro e w1 ⟨rfl, g1⟩
  replace S := S.mono g1.below
  clear g1
  dsimp only
  have a0 := S.a.c0
  have a1 := S.a.c1
  go_wp2_with fail
  refine (IA.out _).mono ?_
  rintro e w2 ⟨rfl, g2⟩
  replace S := S.mono g2.below
  clear g2
  dsimp only
  clear a0 a1
  have b0 := S.b.c0
  have b1 := S.b.c1
  go_wp2_with fail
  refine (IB.out _).mono ?_
  rintro e w3 ⟨rfl, g3⟩
  replace S := S.mono g3.below
  clear g3
  dsimp only
  clear b0 b1
  have n0 := S.r.c0
  have n1 := S.r.c1
  have nf := S.r.f
  have hb := S.g
  go_wp2
  refine bodyPost_ret (v := frv (0, 1)) (by simp [results, Try.results12, go_sem, n0, n1]) rfl ⟨rfl, ?_⟩
  exact (hb.setCell (by simp only []; omega) _).setCell (by simp only []; omega) _
set_option maxRecDepth 20000 in
set_option maxHeartbeats 4000000 in
theorem rfoot_on (p a b : P2) (w : World) (lp : lat p) (la : lat a) (lb : lat b) : Calls Try.prog 12 #[ptv p, ptv a, ptv b] w fun e w' => e = .returned (frv (footF p a b)) ∧ Below w.heap.size w w' := by
  have IP : Hid (∀ W, Calls Try.prog 18 #[ptv p] W fun e w' => e = .returned (.bool true) ∧ Gr W w') := fun W => by have := rin_any p W; rw [(latP_iff p).mpr lp] at this; exact this
  have IA : Hid (∀ W, Calls Try.prog 18 #[ptv a] W fun e w' => e = .returned (.bool true) ∧ Gr W w') := fun W => by have := rin_any a W; rw [(latP_iff a).mpr la] at this; exact this
  have IB : Hid (∀ W, Calls Try.prog 18 #[ptv b] W fun e w' => e = .returned (.bool true) ∧ Gr W w') := fun W => by have := rin_any b W; rw [(latP_iff b).mpr lb] at this; exact this
  have F := hid' (fun W => foot_rt p a b W lp.ins la.ins lb.ins)
  have G : Hid (∀ v W, Rt W v (rft p a b).1 (rft p a b).2 18 → Calls Try.prog 28 #[v] W fun e w' => e = .returned (frv (footF p a b)) ∧ Gr W w') := fun v W h => by
    rw [← rft_low]
    exact frac_any v _ _ 18 W h (rft_pos p a b) (rft_bd la lb).1 (rft_bd la lb).2
  generalize footF p a b = f at *
  generalize (rft p a b).1 = fn at *
  generalize (rft p a b).2 = fd at *
  obtain ⟨f1, f2⟩ := f
  obtain ⟨px, py⟩ := p
  obtain ⟨ax, ay⟩ := a
  obtain ⟨bx, by_⟩ := b
  have S : Gq w ((((w.alloc (.cells #[.int .i32 px, .int .i32 py] 23)).alloc (.cells #[.int .i32 ax, .int .i32 ay] 23)).alloc (.cells #[.int .i32 bx, .int .i32 by_] 23)).alloc (.cells #[.int .i64 0, .int .i64 0] 28)) (px, py) (ax, ay) (bx, by_) := Gq.new w px py ax ay bx by_
  show Calls Try.prog 12 #[pt px py, pt ax ay, pt bx by_] w _
  go_enter Try.func12, Try.ntmps12
  go_wp2_with fail
  refine (IP.out _).mono ?_
  generalize ((((w.alloc (.cells #[.int .i32 px, .int .i32 py] 23)).alloc (.cells #[.int .i32 ax, .int .i32 ay] 23)).alloc (.cells #[.int .i32 bx, .int .i32 by_] 23)).alloc (.cells #[.int .i64 0, .int .i64 0] 28)) = W at *
  rintro e w1 ⟨rfl, g1⟩
  replace S := S.mono g1.below
  clear g1
  dsimp only
  have a0 := S.a.c0
  have a1 := S.a.c1
  go_wp2_with fail
  refine (IA.out _).mono ?_
  rintro e w2 ⟨rfl, g2⟩
  replace S := S.mono g2.below
  clear g2
  dsimp only
  clear a0 a1
  have b0 := S.b.c0
  have b1 := S.b.c1
  go_wp2_with fail
  refine (IB.out _).mono ?_
  rintro e w3 ⟨rfl, g3⟩
  replace S := S.mono g3.below
  clear g3
  dsimp only
  clear b0 b1
  have p0 := S.p.c0
  have p1 := S.p.c1
  have a0 := S.a.c0
  have a1 := S.a.c1
  have b0 := S.b.c0
  have b1 := S.b.c1
  go_wp2_with fail
  refine (F.out _).mono ?_
  rintro e w4 ⟨z, rfl, hz, g4⟩
  obtain ⟨r1, o1, l1, c1, R1, O1, M1, C1, rfl, z1⟩ := hz.shape
  replace S := S.mono g4
  clear g4 hz p0 p1 a0 a1 b0 b1 F
  dsimp only
  go_wp2_with fail
  refine (G.out _ _ z1.out).mono ?_
  rintro e w5 ⟨rfl, g5⟩
  replace S := S.mono g5.below
  clear g5 z1 G
  dsimp only
  have n0 := S.r.c0
  have n1 := S.r.c1
  have nf := S.r.f
  have hb := S.g
  go_wp2
  refine bodyPost_ret (v := frv (f1, f2)) (by simp [results, Try.results12, go_sem, n0, n1]) rfl ⟨rfl, ?_⟩
  exact (hb.setCell (by simp only []; omega) _).setCell (by simp only []; omega) _
theorem rfoot_any (p a b : P2) (w : World) : Calls Try.prog 12 #[ptv p, ptv a, ptv b] w fun e w' => e = .returned (frv (footA p a b)) ∧ Below w.heap.size w w' := by
  unfold footA
  cases hP : latP p with
  | false => simpa using rfoot_offP p a b w hP
  | true =>
  have lp := (latP_iff p).mp hP
  cases hA : latP a with
  | false => simpa using rfoot_offA p a b w lp hA
  | true =>
  have la := (latP_iff a).mp hA
  cases hB : latP b with
  | false => simpa using rfoot_offB p a b w lp la hB
  | true =>
  have lb := (latP_iff b).mp hB
  exact rfoot_on p a b w lp la lb
end
end Go.Proofs.Ytagabccaipfjeaa
