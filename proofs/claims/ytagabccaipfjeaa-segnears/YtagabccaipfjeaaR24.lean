/- Contract of the reference's At. -/
import Derived.Test.YtagabccaipfjeaaFootR
namespace Go.Proofs.Ytagabccaipfjeaa
open Go.RowKit Go.Sort

abbrev T6 (a0 a1 a2 a3 a4 a5 : Addr) (v0 v1 v2 v3 v4 v5 : Value) (K : Nat) (W w : World) : Prop := w.cell? a0 = some v0 ∧ w.cell? a1 = some v1 ∧ w.cell? a2 = some v2 ∧ w.cell? a3 = some v3 ∧ w.cell? a4 = some v4 ∧ w.cell? a5 = some v5 ∧ Below K W w
theorem T6.call {a0 a1 a2 a3 a4 a5 : Addr} {v0 v1 v2 v3 v4 v5 : Value} {K : Nat} {W w : World} {w' : World} (h : T6 a0 a1 a2 a3 a4 a5 v0 v1 v2 v3 v4 v5 K W w) (hK : K ≤ W.heap.size) (g : Below w.heap.size w w') : T6 a0 a1 a2 a3 a4 a5 v0 v1 v2 v3 v4 v5 K W w' :=
  ⟨below_cell h.1 g, below_cell h.2.1 g, below_cell h.2.2.1 g, below_cell h.2.2.2.1 g, below_cell h.2.2.2.2.1 g, below_cell h.2.2.2.2.2.1 g, h.2.2.2.2.2.2.trans (g.mono (Nat.le_trans hK h.2.2.2.2.2.2.size))⟩
theorem T6.al {a0 a1 a2 a3 a4 a5 : Addr} {v0 v1 v2 v3 v4 v5 : Value} {K : Nat} {W w : World} (h : T6 a0 a1 a2 a3 a4 a5 v0 v1 v2 v3 v4 v5 K W w) (hK : K ≤ W.heap.size) (o : Obj) : T6 a0 a1 a2 a3 a4 a5 v0 v1 v2 v3 v4 v5 K W (w.alloc o) := T6.call h hK ((Gr.refl _).alloc _).below
theorem T6.dr {a0 a1 a2 a3 a4 a5 : Addr} {v0 v1 v2 v3 v4 v5 : Value} {K : Nat} {W w : World} (h : T6 a0 a1 a2 a3 a4 a5 v0 v1 v2 v3 v4 v5 K W w) : T6 a0 a1 a2 a3 a4 a5 v0 v1 v2 v3 v4 v5 K W w.drew := ⟨h.1, h.2.1, h.2.2.1, h.2.2.2.1, h.2.2.2.2.1, h.2.2.2.2.2.1, h.2.2.2.2.2.2.drew⟩
theorem T6.set {a0 a1 a2 a3 a4 a5 : Addr} {v0 v1 v2 v3 v4 v5 : Value} {K : Nat} {W w : World} (h : T6 a0 a1 a2 a3 a4 a5 v0 v1 v2 v3 v4 v5 K W w) {p : Addr} (hp : K ≤ p.block) (q : a0.block < K ∧ a1.block < K ∧ a2.block < K ∧ a3.block < K ∧ a4.block < K ∧ a5.block < K) (z : Value) : T6 a0 a1 a2 a3 a4 a5 v0 v1 v2 v3 v4 v5 K W (w.setCell p z) :=
  have f : ∀ a : Addr, a.block < K → (w.setCell p z).cell? a = w.cell? a := fun a ha => World.cell?_setCell_far w p a z (by omega)
  ⟨(f _ q.1).trans h.1, (f _ q.2.1).trans h.2.1, (f _ q.2.2.1).trans h.2.2.1, (f _ q.2.2.2.1).trans h.2.2.2.1, (f _ q.2.2.2.2.1).trans h.2.2.2.2.1, (f _ q.2.2.2.2.2).trans h.2.2.2.2.2.1, h.2.2.2.2.2.2.setCell hp z⟩
set_option maxRecDepth 20000 in
set_option maxHeartbeats 4000000 in
theorem at_t3 {u0 u1 u2 u3 u4 u5 u10 u11 u12 u13 u14 u15 u16 u17 u18 u19 u20 u21 u22 u23 u24 u25 u26 u27 u28 u29 u30 u31 u32 u33 u34 u35 u36 u37 u38 u39 u40 u41 : Value} (w wq : World) (R S6 : Nat) (xn yn td : Int) (X8 X9 : Nat) (hR : w.heap.size ≤ R) (hS : w.heap.size ≤ S6) (hRS : R ≠ S6) (kR : Q4 wq R (.bool false) (.slice none 0 0) (.bool false) (.slice none 0 0)) (kS : Q4 wq S6 (.bool false) (.slice none 0 0) (.bool false) (.slice none 0 0)) (hB : Below w.heap.size w wq) (V8 : VL wq X8 xn td 23) (V9 : VL wq X9 yn td 23) (h8S : X8 ≠ S6) (h9R : X9 ≠ R) (Q : Exit → Act → World → Prop) (hQ : Q = bodyPost Try.prog Try.f36 (fun e w' => ∃ x y, e = .returned (.tuple #[x, y]) ∧ Rt w' x xn td 23 ∧ Rt w' y yn td 23 ∧ Below w.heap.size w w')) (K : Act → World → Prop) (hK : ∀ a w, Code.wp Try.prog (codeTail 4 (codeOf Try.f36)) Q a w → K a w) :
    Code.wp Try.prog (codeHead 3 (codeOf Try.f36)) (Exit.then K Q) { tmps := #[u0, u1, u2, u3, u4, u5, .pointer (some ⟨R, 0, none⟩), .pointer (some ⟨S6, 0, none⟩), .pointer (some ⟨X8, 0, none⟩), .pointer (some ⟨X9, 0, none⟩), u10, u11, u12, u13, u14, u15, u16, u17, u18, u19, u20, u21, u22, u23, u24, u25, u26, u27, u28, u29, u30, u31, u32, u33, u34, u35, u36, u37, u38, u39, u40, u41], defers := [] } wq := by
  dsimp only [codeHead, codeTail, codeOf, Try.f36, Option.getD] at hK ⊢
  subst hQ
  obtain ⟨r8, o8, l8, c8, R8, O8, M8, C8, k8, z8⟩ := V8
  obtain ⟨r9, o9, l9, c9, R9, O9, M9, C9, k9, z9⟩ := V9
  have hSR := Ne.symm hRS
  have qS := ((((kS.other (p := ⟨R, 0, none⟩) hSR (.bool r8)).other (p := ⟨R, 1, none⟩) hSR (.slice o8 l8 c8)).other (p := ⟨R, 2, none⟩) hSR (.bool R8)).other (p := ⟨R, 3, none⟩) hSR (.slice O8 M8 C8))
  have qR := ((((kR.other (p := ⟨S6, 0, none⟩) hRS (.bool r9)).other (p := ⟨S6, 1, none⟩) hRS (.slice o9 l9 c9)).other (p := ⟨S6, 2, none⟩) hRS (.bool R9)).other (p := ⟨S6, 3, none⟩) hRS (.slice O9 M9 C9))
  have q9 := ((((k9.other (p := ⟨R, 0, none⟩) h9R (.bool r8)).other (p := ⟨R, 1, none⟩) h9R (.slice o8 l8 c8)).other (p := ⟨R, 2, none⟩) h9R (.bool R8)).other (p := ⟨R, 3, none⟩) h9R (.slice O8 M8 C8))
  have q8 := ((((k8.other (p := ⟨S6, 0, none⟩) h8S (.bool r9)).other (p := ⟨S6, 1, none⟩) h8S (.slice o9 l9 c9)).other (p := ⟨S6, 2, none⟩) h8S (.bool R9)).other (p := ⟨S6, 3, none⟩) h8S (.slice O9 M9 C9))
  have aR := ((((kR.s0 (.bool r8)).s1 (.slice o8 l8 c8)).s2 (.bool R8)).s3 (.slice O8 M8 C8))
  have aS := ((((kS.s0 (.bool r9)).s1 (.slice o9 l9 c9)).s2 (.bool R9)).s3 (.slice O9 M9 C9))
  have fR1 := ((((aR.other (p := ⟨S6, 0, none⟩) hRS (.bool r9)).other (p := ⟨S6, 1, none⟩) hRS (.slice o9 l9 c9)).other (p := ⟨S6, 2, none⟩) hRS (.bool R9)).other (p := ⟨S6, 3, none⟩) hRS (.slice O9 M9 C9))
  have fS1 := ((((qS.s0 (.bool r9)).s1 (.slice o9 l9 c9)).s2 (.bool R9)).s3 (.slice O9 M9 C9))
  have fR2 := ((((qR.s0 (.bool r8)).s1 (.slice o8 l8 c8)).s2 (.bool R8)).s3 (.slice O8 M8 C8))
  have fS2 := ((((aS.other (p := ⟨R, 0, none⟩) hSR (.bool r8)).other (p := ⟨R, 1, none⟩) hSR (.slice o8 l8 c8)).other (p := ⟨R, 2, none⟩) hSR (.bool R8)).other (p := ⟨R, 3, none⟩) hSR (.slice O8 M8 C8))
  have zx1 := hid' ((z8.setQ kR (.bool r8) (.slice o8 l8 c8) (.bool R8) (.slice O8 M8 C8)).setQ qS (.bool r9) (.slice o9 l9 c9) (.bool R9) (.slice O9 M9 C9))
  have zy1 := hid' ((z9.setQ kR (.bool r8) (.slice o8 l8 c8) (.bool R8) (.slice O8 M8 C8)).setQ qS (.bool r9) (.slice o9 l9 c9) (.bool R9) (.slice O9 M9 C9))
  have zx2 := hid' ((z8.setQ kS (.bool r9) (.slice o9 l9 c9) (.bool R9) (.slice O9 M9 C9)).setQ qR (.bool r8) (.slice o8 l8 c8) (.bool R8) (.slice O8 M8 C8))
  have zy2 := hid' ((z9.setQ kS (.bool r9) (.slice o9 l9 c9) (.bool R9) (.slice O9 M9 C9)).setQ qR (.bool r8) (.slice o8 l8 c8) (.bool R8) (.slice O8 M8 C8))
  have hW1 := hid' (((((((((hB.setCell (p := ⟨R, 0, none⟩) hR (.bool r8)).setCell (p := ⟨R, 1, none⟩) hR (.slice o8 l8 c8)).setCell (p := ⟨R, 2, none⟩) hR (.bool R8)).setCell (p := ⟨R, 3, none⟩) hR (.slice O8 M8 C8)).setCell (p := ⟨S6, 0, none⟩) hS (.bool r9)).setCell (p := ⟨S6, 1, none⟩) hS (.slice o9 l9 c9)).setCell (p := ⟨S6, 2, none⟩) hS (.bool R9)).setCell (p := ⟨S6, 3, none⟩) hS (.slice O9 M9 C9)))
  have hW2 := hid' (((((((((hB.setCell (p := ⟨S6, 0, none⟩) hS (.bool r9)).setCell (p := ⟨S6, 1, none⟩) hS (.slice o9 l9 c9)).setCell (p := ⟨S6, 2, none⟩) hS (.bool R9)).setCell (p := ⟨S6, 3, none⟩) hS (.slice O9 M9 C9)).setCell (p := ⟨R, 0, none⟩) hR (.bool r8)).setCell (p := ⟨R, 1, none⟩) hR (.slice o8 l8 c8)).setCell (p := ⟨R, 2, none⟩) hR (.bool R8)).setCell (p := ⟨R, 3, none⟩) hR (.slice O8 M8 C8)))
  have xa0 := k8.c0
  have xa1 := k8.c1
  have xa2 := k8.c2
  have xa3 := k8.c3
  have ya0 := k9.c0
  have ya1 := k9.c1
  have ya2 := k9.c2
  have ya3 := k9.c3
  have da0 := kR.c0
  have da1 := kR.c1
  have da2 := kR.c2
  have da3 := kR.c3
  have ea0 := kS.c0
  have ea1 := kS.c1
  have ea2 := kS.c2
  have ea3 := kS.c3
  have yb0 := q9.c0
  have yb1 := q9.c1
  have yb2 := q9.c2
  have yb3 := q9.c3
  have xb0 := q8.c0
  have xb1 := q8.c1
  have xb2 := q8.c2
  have xb3 := q8.c3
  have eb0 := qS.c0
  have eb1 := qS.c1
  have eb2 := qS.c2
  have eb3 := qS.c3
  have db0 := qR.c0
  have db1 := qR.c1
  have db2 := qR.c2
  have db3 := qR.c3
  have ra0 := fR1.c0
  have ra1 := fR1.c1
  have ra2 := fR1.c2
  have ra3 := fR1.c3
  have sa0 := fS1.c0
  have sa1 := fS1.c1
  have sa2 := fS1.c2
  have sa3 := fS1.c3
  have rb0 := fR2.c0
  have rb1 := fR2.c1
  have rb2 := fR2.c2
  have rb3 := fR2.c3
  have sb0 := fS2.c0
  have sb1 := fS2.c1
  have sb2 := fS2.c2
  have sb3 := fS2.c3
  have f1 := kR.f
  have f2 := kS.f
  have f3 := qS.f
  have f4 := qR.f
  replace z8 := hid' z8
  replace z9 := hid' z9
  clear qS qR q9 q8 aR aS fR1 fS1 fR2 fS2 k8 k9 kR kS hB z8 z9
  go_region
  all_goals
    go_wp2
    refine bodyPost_ret (v := .tuple #[.agg #[.bool r8, .slice o8 l8 c8, .bool R8, .slice O8 M8 C8], .agg #[.bool r9, .slice o9 l9 c9, .bool R9, .slice O9 M9 C9]]) (by simp [results, Try.results36, go_sem, ra0, ra1, ra2, ra3, sa0, sa1, sa2, sa3]) rfl ⟨_, _, rfl, ?_, ?_, ?_⟩
    · exact zx1.out.mono (Below.refl _ _).drew
    · exact zy1.out.mono (Below.refl _ _).drew
    · exact hW1.out.drew
set_option maxRecDepth 20000 in
set_option maxHeartbeats 4000000 in
theorem at_t2 {u0 u1 u2 u9 u10 u11 u12 u13 u14 u15 u16 u17 u18 u19 u20 u21 u22 u23 u24 u25 u26 u27 u28 u29 u30 u31 u32 u33 u34 u35 u36 u37 u38 u39 u40 u41 : Value} (w wq : World) (R S6 : Nat) (xn yn td : Int) (A B T5 : Nat) (ax ay bx by_ tn : Int) (X8 : Nat) (hR : w.heap.size ≤ R) (hS : w.heap.size ≤ S6) (hRS : R ≠ S6) (kR : Q4 wq R (.bool false) (.slice none 0 0) (.bool false) (.slice none 0 0)) (kS : Q4 wq S6 (.bool false) (.slice none 0 0) (.bool false) (.slice none 0 0)) (hB : Below w.heap.size w wq) (ta : TwoIs wq A ax ay) (tb : TwoIs wq B bx by_) (VT : VL wq T5 tn td 18) (V8 : VL wq X8 xn td 23) (h8S : X8 ≠ S6) (K1a : Hid (∀ W, Calls Try.prog 26 #[.int .i64 (IntKind.i64.wrap ay)] W fun e w' => ∃ z, e = .returned z ∧ Rt w' z ay 1 2 ∧ Below W.heap.size W w')) (K1b : Hid (∀ W, Calls Try.prog 26 #[.int .i64 (IntKind.i64.wrap (IntKind.i64.wrap by_ - IntKind.i64.wrap ay))] W fun e w' => ∃ z, e = .returned z ∧ Rt w' z (by_ - ay) 1 2 ∧ Below W.heap.size W w')) (hyn : Hid (ay * td + tn * (by_ - ay) = yn)) (Q : Exit → Act → World → Prop) (hQ : Q = bodyPost Try.prog Try.f36 (fun e w' => ∃ x y, e = .returned (.tuple #[x, y]) ∧ Rt w' x xn td 23 ∧ Rt w' y yn td 23 ∧ Below w.heap.size w w')) (K : Act → World → Prop) (hK : ∀ a w, Code.wp Try.prog (codeTail 3 (codeOf Try.f36)) Q a w → K a w) :
    Code.wp Try.prog (codeHead 2 (codeOf Try.f36)) (Exit.then K Q) { tmps := #[u0, u1, u2, .pointer (some ⟨A, 0, none⟩), .pointer (some ⟨B, 0, none⟩), .pointer (some ⟨T5, 0, none⟩), .pointer (some ⟨R, 0, none⟩), .pointer (some ⟨S6, 0, none⟩), .pointer (some ⟨X8, 0, none⟩), u9, u10, u11, u12, u13, u14, u15, u16, u17, u18, u19, u20, u21, u22, u23, u24, u25, u26, u27, u28, u29, u30, u31, u32, u33, u34, u35, u36, u37, u38, u39, u40, u41], defers := [] } wq := by
  dsimp only [codeHead, codeTail, codeOf, Try.f36, Option.getD] at hK ⊢
  subst hQ
  obtain ⟨r5, o5, l5, c5, R5, O5, M5, C5, k5, z5⟩ := VT
  replace z5 := hid' z5
  have hL : wq.heap.size ≤ wq.heap.size := Nat.le_refl _
  have hlt : Hid (Addr.block ⟨A, 1, none⟩ < wq.heap.size ∧ Addr.block ⟨B, 1, none⟩ < wq.heap.size ∧ Addr.block ⟨T5, 0, none⟩ < wq.heap.size ∧ Addr.block ⟨T5, 1, none⟩ < wq.heap.size ∧ Addr.block ⟨T5, 2, none⟩ < wq.heap.size ∧ Addr.block ⟨T5, 3, none⟩ < wq.heap.size) := ⟨ta.lt, tb.lt, k5.lt, k5.lt, k5.lt, k5.lt⟩
  have BW : Hid (Below wq.heap.size wq wq) := Below.refl _ _
  have B0 : Hid (Below wq.heap.size wq wq.drew) := (Below.refl _ _).drew
  have hSW : Hid (T6 ⟨A, 1, none⟩ ⟨B, 1, none⟩ ⟨T5, 0, none⟩ ⟨T5, 1, none⟩ ⟨T5, 2, none⟩ ⟨T5, 3, none⟩ (.int .i32 ay) (.int .i32 by_) (.bool r5) (.slice o5 l5 c5) (.bool R5) (.slice O5 M5 C5) wq.heap.size wq wq) := ⟨ta.c1, tb.c1, k5.c0, k5.c1, k5.c2, k5.c3, Below.refl _ _⟩
  have hS0 : Hid (T6 ⟨A, 1, none⟩ ⟨B, 1, none⟩ ⟨T5, 0, none⟩ ⟨T5, 1, none⟩ ⟨T5, 2, none⟩ ⟨T5, 3, none⟩ (.int .i32 ay) (.int .i32 by_) (.bool r5) (.slice o5 l5 c5) (.bool R5) (.slice O5 M5 C5) wq.heap.size wq wq.drew) := T6.dr hSW.out
  have FIN : Hid (∀ W' X, VL W' X yn td 23 → Below wq.heap.size wq W' → Q4 W' R (.bool false) (.slice none 0 0) (.bool false) (.slice none 0 0) ∧ Q4 W' S6 (.bool false) (.slice none 0 0) (.bool false) (.slice none 0 0) ∧ Below w.heap.size w W' ∧ TwoIs W' A ax ay ∧ TwoIs W' B bx by_ ∧ VL W' T5 tn td 18 ∧ VL W' X8 xn td 23) := fun W' X _ g => ⟨kR.mono g kR.lt, kS.mono g kS.lt, hB.trans (g.mono hB.size), ⟨below_cell ta.c0 g, below_cell ta.c1 g⟩, ⟨below_cell tb.c0 g, below_cell tb.c1 g⟩, VL.mono ⟨_, _, _, _, _, _, _, _, k5, z5.out⟩ g, V8.mono g⟩
  have lR := kR.lt
  have lS := kS.lt
  clear kR kS hB ta tb k5 V8
  go_region_held3 (T6 ⟨A, 1, none⟩ ⟨B, 1, none⟩ ⟨T5, 0, none⟩ ⟨T5, 1, none⟩ ⟨T5, 2, none⟩ ⟨T5, 3, none⟩ (.int .i32 ay) (.int .i32 by_) (.bool r5) (.slice o5 l5 c5) (.bool R5) (.slice O5 M5 C5) wq.heap.size wq)
    (repeat (first | with_reducible exact hS4.out | with_reducible exact hS3.out | with_reducible exact hS2.out | with_reducible exact hS1.out | with_reducible exact hS0.out | with_reducible exact hSW.out | (with_reducible refine T6.set ?_ (by simp only []; omega) hlt.out _) | (with_reducible refine T6.al ?_ hL _) | (with_reducible refine T6.dr ?_)))
    (first
        | (have _n := z3; go_at_call 38; refine (radd_rt _ _ ay 1 (tn * (by_ - ay)) td 2 20 _ (by first | with_reducible exact z1.out | with_reducible exact z1.out.al _) (by first | with_reducible exact z3.out | with_reducible exact z3.out.al _) (by omega)).mono ?_; rintro e y4 ⟨zz, rfl, hz, g4⟩; obtain ⟨r4q, o4q, l4q, c4q, R4q, O4q, M4q, C4q, rfl, z4⟩ := hz.shape; clear hz; replace z4 : Hid (Rt y4 (.agg #[.bool r4q, .slice o4q l4q c4q, .bool R4q, .slice O4q M4q C4q]) yn td 23) := hid' (z4.out.to (by rw [Int.mul_one]; exact hyn.out) (Int.one_mul td)); have B4 : Hid (Below wq.heap.size wq y4) := hid' (Below.trans (by (repeat (first | with_reducible exact B4.out | with_reducible exact B3.out | with_reducible exact B2.out | with_reducible exact B1.out | with_reducible exact B0.out | with_reducible exact BW.out | (with_reducible refine bl_drew ?_) | (with_reducible refine bl_alloc ?_ _)))) (g4.mono (Below.size (by (repeat (first | with_reducible exact B4.out | with_reducible exact B3.out | with_reducible exact B2.out | with_reducible exact B1.out | with_reducible exact B0.out | with_reducible exact BW.out | (with_reducible refine bl_drew ?_) | (with_reducible refine bl_alloc ?_ _))))))); have s4 := B4.out.size; have hS4 : Hid (T6 ⟨A, 1, none⟩ ⟨B, 1, none⟩ ⟨T5, 0, none⟩ ⟨T5, 1, none⟩ ⟨T5, 2, none⟩ ⟨T5, 3, none⟩ (.int .i32 ay) (.int .i32 by_) (.bool r5) (.slice o5 l5 c5) (.bool R5) (.slice O5 M5 C5) wq.heap.size wq y4) := ⟨below_cell hSW.out.1 B4.out, below_cell hSW.out.2.1 B4.out, below_cell hSW.out.2.2.1 B4.out, below_cell hSW.out.2.2.2.1 B4.out, below_cell hSW.out.2.2.2.2.1 B4.out, below_cell hSW.out.2.2.2.2.2.1 B4.out, B4.out⟩; first | (have m4 := m3.mono g4 m3.lt; have e4_0 := m4.c0; have e4_1 := m4.c1; have e4_2 := m4.c2; have e4_3 := m4.c3; have e4_f := m4.f) | (have m4 : Q4 y4 y3.heap.size (.bool false) (.slice none 0 0) (.bool false) (.slice none 0 0) := (by with_reducible exact Q4.nx g4); have e4_0 := m4.c0; have e4_1 := m4.c1; have e4_2 := m4.c2; have e4_3 := m4.c3; have e4_f := m4.f) | skip)
        | (have _n := z2; go_at_call 39; refine (rmul_rt _ _ tn td (by_ - ay) 1 18 2 _ (z5.out.mono (by (repeat (first | with_reducible exact B4.out | with_reducible exact B3.out | with_reducible exact B2.out | with_reducible exact B1.out | with_reducible exact B0.out | with_reducible exact BW.out | (with_reducible refine bl_drew ?_) | (with_reducible refine bl_alloc ?_ _))))) (by first | with_reducible exact z2.out | with_reducible exact z2.out.al _) (by omega) (by omega)).mono ?_; rintro e y3 ⟨zz, rfl, hz, g3⟩; obtain ⟨r3q, o3q, l3q, c3q, R3q, O3q, M3q, C3q, rfl, z3⟩ := hz.shape; clear hz; replace z3 : Hid (Rt y3 (.agg #[.bool r3q, .slice o3q l3q c3q, .bool R3q, .slice O3q M3q C3q]) (tn * (by_ - ay)) td 20) := hid' (z3.out.to rfl (Int.mul_one td)); have B3 : Hid (Below wq.heap.size wq y3) := hid' (Below.trans (by (repeat (first | with_reducible exact B4.out | with_reducible exact B3.out | with_reducible exact B2.out | with_reducible exact B1.out | with_reducible exact B0.out | with_reducible exact BW.out | (with_reducible refine bl_drew ?_) | (with_reducible refine bl_alloc ?_ _)))) (g3.mono (Below.size (by (repeat (first | with_reducible exact B4.out | with_reducible exact B3.out | with_reducible exact B2.out | with_reducible exact B1.out | with_reducible exact B0.out | with_reducible exact BW.out | (with_reducible refine bl_drew ?_) | (with_reducible refine bl_alloc ?_ _))))))); have s3 := B3.out.size; have hS3 : Hid (T6 ⟨A, 1, none⟩ ⟨B, 1, none⟩ ⟨T5, 0, none⟩ ⟨T5, 1, none⟩ ⟨T5, 2, none⟩ ⟨T5, 3, none⟩ (.int .i32 ay) (.int .i32 by_) (.bool r5) (.slice o5 l5 c5) (.bool R5) (.slice O5 M5 C5) wq.heap.size wq y3) := ⟨below_cell hSW.out.1 B3.out, below_cell hSW.out.2.1 B3.out, below_cell hSW.out.2.2.1 B3.out, below_cell hSW.out.2.2.2.1 B3.out, below_cell hSW.out.2.2.2.2.1 B3.out, below_cell hSW.out.2.2.2.2.2.1 B3.out, B3.out⟩; have zn1 : Rt y3 (.agg #[.bool r1q, .slice o1q l1q c1q, .bool R1q, .slice O1q M1q C1q]) ay 1 2 := Rt.mono (by first | with_reducible exact z1.out | with_reducible exact z1.out.al _) g3; replace z1 := hid' zn1; clear zn1; first | (have m3 := m2.mono g3 m2.lt; have e3_0 := m3.c0; have e3_1 := m3.c1; have e3_2 := m3.c2; have e3_3 := m3.c3; have e3_f := m3.f) | (have m3 : Q4 y3 y2.heap.size (.bool false) (.slice none 0 0) (.bool false) (.slice none 0 0) := (by with_reducible exact Q4.nx g3); have e3_0 := m3.c0; have e3_1 := m3.c1; have e3_2 := m3.c2; have e3_3 := m3.c3; have e3_f := m3.f) | skip)
        | (have _n := z1; go_at_call 26; refine (K1b.out _).mono ?_; rintro e y2 ⟨zz, rfl, hz, g2⟩; obtain ⟨r2q, o2q, l2q, c2q, R2q, O2q, M2q, C2q, rfl, z2⟩ := hz.shape; clear hz; have B2 : Hid (Below wq.heap.size wq y2) := hid' (Below.trans (by (repeat (first | with_reducible exact B4.out | with_reducible exact B3.out | with_reducible exact B2.out | with_reducible exact B1.out | with_reducible exact B0.out | with_reducible exact BW.out | (with_reducible refine bl_drew ?_) | (with_reducible refine bl_alloc ?_ _)))) (g2.mono (Below.size (by (repeat (first | with_reducible exact B4.out | with_reducible exact B3.out | with_reducible exact B2.out | with_reducible exact B1.out | with_reducible exact B0.out | with_reducible exact BW.out | (with_reducible refine bl_drew ?_) | (with_reducible refine bl_alloc ?_ _))))))); have s2 := B2.out.size; have hS2 : Hid (T6 ⟨A, 1, none⟩ ⟨B, 1, none⟩ ⟨T5, 0, none⟩ ⟨T5, 1, none⟩ ⟨T5, 2, none⟩ ⟨T5, 3, none⟩ (.int .i32 ay) (.int .i32 by_) (.bool r5) (.slice o5 l5 c5) (.bool R5) (.slice O5 M5 C5) wq.heap.size wq y2) := ⟨below_cell hSW.out.1 B2.out, below_cell hSW.out.2.1 B2.out, below_cell hSW.out.2.2.1 B2.out, below_cell hSW.out.2.2.2.1 B2.out, below_cell hSW.out.2.2.2.2.1 B2.out, below_cell hSW.out.2.2.2.2.2.1 B2.out, B2.out⟩; have zn1 : Rt y2 (.agg #[.bool r1q, .slice o1q l1q c1q, .bool R1q, .slice O1q M1q C1q]) ay 1 2 := Rt.mono (by first | with_reducible exact z1.out | with_reducible exact z1.out.al _) g2; replace z1 := hid' zn1; clear zn1; first | (have m2 := m1.mono g2 m1.lt; have e2_0 := m2.c0; have e2_1 := m2.c1; have e2_2 := m2.c2; have e2_3 := m2.c3; have e2_f := m2.f) | (have m2 : Q4 y2 y1.heap.size (.bool false) (.slice none 0 0) (.bool false) (.slice none 0 0) := (by with_reducible exact Q4.nx g2); have e2_0 := m2.c0; have e2_1 := m2.c1; have e2_2 := m2.c2; have e2_3 := m2.c3; have e2_f := m2.f) | skip)
        | (go_at_call 26; refine (K1a.out _).mono ?_; rintro e y1 ⟨zz, rfl, hz, g1⟩; obtain ⟨r1q, o1q, l1q, c1q, R1q, O1q, M1q, C1q, rfl, z1⟩ := hz.shape; clear hz; have B1 : Hid (Below wq.heap.size wq y1) := hid' (Below.trans (by (repeat (first | with_reducible exact B4.out | with_reducible exact B3.out | with_reducible exact B2.out | with_reducible exact B1.out | with_reducible exact B0.out | with_reducible exact BW.out | (with_reducible refine bl_drew ?_) | (with_reducible refine bl_alloc ?_ _)))) (g1.mono (Below.size (by (repeat (first | with_reducible exact B4.out | with_reducible exact B3.out | with_reducible exact B2.out | with_reducible exact B1.out | with_reducible exact B0.out | with_reducible exact BW.out | (with_reducible refine bl_drew ?_) | (with_reducible refine bl_alloc ?_ _))))))); have s1 := B1.out.size; have hS1 : Hid (T6 ⟨A, 1, none⟩ ⟨B, 1, none⟩ ⟨T5, 0, none⟩ ⟨T5, 1, none⟩ ⟨T5, 2, none⟩ ⟨T5, 3, none⟩ (.int .i32 ay) (.int .i32 by_) (.bool r5) (.slice o5 l5 c5) (.bool R5) (.slice O5 M5 C5) wq.heap.size wq y1) := ⟨below_cell hSW.out.1 B1.out, below_cell hSW.out.2.1 B1.out, below_cell hSW.out.2.2.1 B1.out, below_cell hSW.out.2.2.2.1 B1.out, below_cell hSW.out.2.2.2.2.1 B1.out, below_cell hSW.out.2.2.2.2.2.1 B1.out, B1.out⟩; first | (have m1 : Q4 y1 wq.heap.size (.bool false) (.slice none 0 0) (.bool false) (.slice none 0 0) := (by with_reducible exact Q4.nw g1); have e1_0 := m1.c0; have e1_1 := m1.c1; have e1_2 := m1.c2; have e1_3 := m1.c3; have e1_f := m1.f) | skip))
  · have v := hid' (VL.new z4.out)
    have f := hid' (FIN.out _ _ v.out (bl_alloc B4.out _))
    go_upto_region 3 with fail
    exact at_t3 w _ R S6 xn yn td X8 _ hR hS hRS f.out.1 f.out.2.1 f.out.2.2.1 f.out.2.2.2.2.2.2 v.out h8S (by omega) _ rfl _ (by assumption)
  · have v := hid' (VL.put m4 z4.out)
    have f := hid' (FIN.out _ _ v.out (four_set B4.out (by omega)))
    go_upto_region 3 with fail
    exact at_t3 w _ R S6 xn yn td X8 _ hR hS hRS f.out.1 f.out.2.1 f.out.2.2.1 f.out.2.2.2.2.2.2 v.out h8S (by omega) _ rfl _ (by assumption)
  · have v := hid' (VL.put m4 z4.out)
    have f := hid' (FIN.out _ _ v.out (four_set B4.out (by omega)))
    go_upto_region 3 with fail
    exact at_t3 w _ R S6 xn yn td X8 _ hR hS hRS f.out.1 f.out.2.1 f.out.2.2.1 f.out.2.2.2.2.2.2 v.out h8S (by omega) _ rfl _ (by assumption)
  · have v := hid' (VL.put m4 z4.out)
    have f := hid' (FIN.out _ _ v.out (four_set B4.out (by omega)))
    go_upto_region 3 with fail
    exact at_t3 w _ R S6 xn yn td X8 _ hR hS hRS f.out.1 f.out.2.1 f.out.2.2.1 f.out.2.2.2.2.2.2 v.out h8S (by omega) _ rfl _ (by assumption)
  · have v := hid' (VL.put m4 z4.out)
    have f := hid' (FIN.out _ _ v.out (four_set B4.out (by omega)))
    go_upto_region 3 with fail
    exact at_t3 w _ R S6 xn yn td X8 _ hR hS hRS f.out.1 f.out.2.1 f.out.2.2.1 f.out.2.2.2.2.2.2 v.out h8S (by omega) _ rfl _ (by assumption)
set_option maxRecDepth 20000 in
set_option maxHeartbeats 4000000 in
theorem at_t1 {u0 u1 u2 u8 u9 u10 u11 u12 u13 u14 u15 u16 u17 u18 u19 u20 u21 u22 u23 u24 u25 u26 u27 u28 u29 u30 u31 u32 u33 u34 u35 u36 u37 u38 u39 u40 u41 : Value} (w wq : World) (R S6 : Nat) (xn yn td : Int) (A B T5 : Nat) (ax ay bx by_ tn : Int)  (hR : w.heap.size ≤ R) (hS : w.heap.size ≤ S6) (hRS : R ≠ S6) (kR : Q4 wq R (.bool false) (.slice none 0 0) (.bool false) (.slice none 0 0)) (kS : Q4 wq S6 (.bool false) (.slice none 0 0) (.bool false) (.slice none 0 0)) (hB : Below w.heap.size w wq) (ta : TwoIs wq A ax ay) (tb : TwoIs wq B bx by_) (VT : VL wq T5 tn td 18) (K0a : Hid (∀ W, Calls Try.prog 26 #[.int .i64 (IntKind.i64.wrap ax)] W fun e w' => ∃ z, e = .returned z ∧ Rt w' z ax 1 2 ∧ Below W.heap.size W w')) (K0b : Hid (∀ W, Calls Try.prog 26 #[.int .i64 (IntKind.i64.wrap (IntKind.i64.wrap bx - IntKind.i64.wrap ax))] W fun e w' => ∃ z, e = .returned z ∧ Rt w' z (bx - ax) 1 2 ∧ Below W.heap.size W w')) (hxn : Hid (ax * td + tn * (bx - ax) = xn)) (K1a : Hid (∀ W, Calls Try.prog 26 #[.int .i64 (IntKind.i64.wrap ay)] W fun e w' => ∃ z, e = .returned z ∧ Rt w' z ay 1 2 ∧ Below W.heap.size W w')) (K1b : Hid (∀ W, Calls Try.prog 26 #[.int .i64 (IntKind.i64.wrap (IntKind.i64.wrap by_ - IntKind.i64.wrap ay))] W fun e w' => ∃ z, e = .returned z ∧ Rt w' z (by_ - ay) 1 2 ∧ Below W.heap.size W w')) (hyn : Hid (ay * td + tn * (by_ - ay) = yn)) (Q : Exit → Act → World → Prop) (hQ : Q = bodyPost Try.prog Try.f36 (fun e w' => ∃ x y, e = .returned (.tuple #[x, y]) ∧ Rt w' x xn td 23 ∧ Rt w' y yn td 23 ∧ Below w.heap.size w w')) (K : Act → World → Prop) (hK : ∀ a w, Code.wp Try.prog (codeTail 2 (codeOf Try.f36)) Q a w → K a w) :
    Code.wp Try.prog (codeHead 1 (codeOf Try.f36)) (Exit.then K Q) { tmps := #[u0, u1, u2, .pointer (some ⟨A, 0, none⟩), .pointer (some ⟨B, 0, none⟩), .pointer (some ⟨T5, 0, none⟩), .pointer (some ⟨R, 0, none⟩), .pointer (some ⟨S6, 0, none⟩), u8, u9, u10, u11, u12, u13, u14, u15, u16, u17, u18, u19, u20, u21, u22, u23, u24, u25, u26, u27, u28, u29, u30, u31, u32, u33, u34, u35, u36, u37, u38, u39, u40, u41], defers := [] } wq := by
  dsimp only [codeHead, codeTail, codeOf, Try.f36, Option.getD] at hK ⊢
  subst hQ
  obtain ⟨r5, o5, l5, c5, R5, O5, M5, C5, k5, z5⟩ := VT
  replace z5 := hid' z5
  have hL : wq.heap.size ≤ wq.heap.size := Nat.le_refl _
  have hlt : Hid (Addr.block ⟨A, 0, none⟩ < wq.heap.size ∧ Addr.block ⟨B, 0, none⟩ < wq.heap.size ∧ Addr.block ⟨T5, 0, none⟩ < wq.heap.size ∧ Addr.block ⟨T5, 1, none⟩ < wq.heap.size ∧ Addr.block ⟨T5, 2, none⟩ < wq.heap.size ∧ Addr.block ⟨T5, 3, none⟩ < wq.heap.size) := ⟨ta.lt, tb.lt, k5.lt, k5.lt, k5.lt, k5.lt⟩
  have BW : Hid (Below wq.heap.size wq wq) := Below.refl _ _
  have B0 : Hid (Below wq.heap.size wq wq.drew) := (Below.refl _ _).drew
  have hSW : Hid (T6 ⟨A, 0, none⟩ ⟨B, 0, none⟩ ⟨T5, 0, none⟩ ⟨T5, 1, none⟩ ⟨T5, 2, none⟩ ⟨T5, 3, none⟩ (.int .i32 ax) (.int .i32 bx) (.bool r5) (.slice o5 l5 c5) (.bool R5) (.slice O5 M5 C5) wq.heap.size wq wq) := ⟨ta.c0, tb.c0, k5.c0, k5.c1, k5.c2, k5.c3, Below.refl _ _⟩
  have hS0 : Hid (T6 ⟨A, 0, none⟩ ⟨B, 0, none⟩ ⟨T5, 0, none⟩ ⟨T5, 1, none⟩ ⟨T5, 2, none⟩ ⟨T5, 3, none⟩ (.int .i32 ax) (.int .i32 bx) (.bool r5) (.slice o5 l5 c5) (.bool R5) (.slice O5 M5 C5) wq.heap.size wq wq.drew) := T6.dr hSW.out
  have FIN : Hid (∀ W' X, VL W' X xn td 23 → Below wq.heap.size wq W' → Q4 W' R (.bool false) (.slice none 0 0) (.bool false) (.slice none 0 0) ∧ Q4 W' S6 (.bool false) (.slice none 0 0) (.bool false) (.slice none 0 0) ∧ Below w.heap.size w W' ∧ TwoIs W' A ax ay ∧ TwoIs W' B bx by_ ∧ VL W' T5 tn td 18) := fun W' X _ g => ⟨kR.mono g kR.lt, kS.mono g kS.lt, hB.trans (g.mono hB.size), ⟨below_cell ta.c0 g, below_cell ta.c1 g⟩, ⟨below_cell tb.c0 g, below_cell tb.c1 g⟩, VL.mono ⟨_, _, _, _, _, _, _, _, k5, z5.out⟩ g⟩
  have lR := kR.lt
  have lS := kS.lt
  clear kR kS hB ta tb k5
  go_region_held3 (T6 ⟨A, 0, none⟩ ⟨B, 0, none⟩ ⟨T5, 0, none⟩ ⟨T5, 1, none⟩ ⟨T5, 2, none⟩ ⟨T5, 3, none⟩ (.int .i32 ax) (.int .i32 bx) (.bool r5) (.slice o5 l5 c5) (.bool R5) (.slice O5 M5 C5) wq.heap.size wq)
    (repeat (first | with_reducible exact hS4.out | with_reducible exact hS3.out | with_reducible exact hS2.out | with_reducible exact hS1.out | with_reducible exact hS0.out | with_reducible exact hSW.out | (with_reducible refine T6.set ?_ (by simp only []; omega) hlt.out _) | (with_reducible refine T6.al ?_ hL _) | (with_reducible refine T6.dr ?_)))
    (first
        | (have _n := z3; go_at_call 38; refine (radd_rt _ _ ax 1 (tn * (bx - ax)) td 2 20 _ (by first | with_reducible exact z1.out | with_reducible exact z1.out.al _) (by first | with_reducible exact z3.out | with_reducible exact z3.out.al _) (by omega)).mono ?_; rintro e y4 ⟨zz, rfl, hz, g4⟩; obtain ⟨r4q, o4q, l4q, c4q, R4q, O4q, M4q, C4q, rfl, z4⟩ := hz.shape; clear hz; replace z4 : Hid (Rt y4 (.agg #[.bool r4q, .slice o4q l4q c4q, .bool R4q, .slice O4q M4q C4q]) xn td 23) := hid' (z4.out.to (by rw [Int.mul_one]; exact hxn.out) (Int.one_mul td)); have B4 : Hid (Below wq.heap.size wq y4) := hid' (Below.trans (by (repeat (first | with_reducible exact B4.out | with_reducible exact B3.out | with_reducible exact B2.out | with_reducible exact B1.out | with_reducible exact B0.out | with_reducible exact BW.out | (with_reducible refine bl_drew ?_) | (with_reducible refine bl_alloc ?_ _)))) (g4.mono (Below.size (by (repeat (first | with_reducible exact B4.out | with_reducible exact B3.out | with_reducible exact B2.out | with_reducible exact B1.out | with_reducible exact B0.out | with_reducible exact BW.out | (with_reducible refine bl_drew ?_) | (with_reducible refine bl_alloc ?_ _))))))); have s4 := B4.out.size; have hS4 : Hid (T6 ⟨A, 0, none⟩ ⟨B, 0, none⟩ ⟨T5, 0, none⟩ ⟨T5, 1, none⟩ ⟨T5, 2, none⟩ ⟨T5, 3, none⟩ (.int .i32 ax) (.int .i32 bx) (.bool r5) (.slice o5 l5 c5) (.bool R5) (.slice O5 M5 C5) wq.heap.size wq y4) := ⟨below_cell hSW.out.1 B4.out, below_cell hSW.out.2.1 B4.out, below_cell hSW.out.2.2.1 B4.out, below_cell hSW.out.2.2.2.1 B4.out, below_cell hSW.out.2.2.2.2.1 B4.out, below_cell hSW.out.2.2.2.2.2.1 B4.out, B4.out⟩; first | (have m4 := m3.mono g4 m3.lt; have e4_0 := m4.c0; have e4_1 := m4.c1; have e4_2 := m4.c2; have e4_3 := m4.c3; have e4_f := m4.f) | (have m4 : Q4 y4 y3.heap.size (.bool false) (.slice none 0 0) (.bool false) (.slice none 0 0) := (by with_reducible exact Q4.nx g4); have e4_0 := m4.c0; have e4_1 := m4.c1; have e4_2 := m4.c2; have e4_3 := m4.c3; have e4_f := m4.f) | skip)
        | (have _n := z2; go_at_call 39; refine (rmul_rt _ _ tn td (bx - ax) 1 18 2 _ (z5.out.mono (by (repeat (first | with_reducible exact B4.out | with_reducible exact B3.out | with_reducible exact B2.out | with_reducible exact B1.out | with_reducible exact B0.out | with_reducible exact BW.out | (with_reducible refine bl_drew ?_) | (with_reducible refine bl_alloc ?_ _))))) (by first | with_reducible exact z2.out | with_reducible exact z2.out.al _) (by omega) (by omega)).mono ?_; rintro e y3 ⟨zz, rfl, hz, g3⟩; obtain ⟨r3q, o3q, l3q, c3q, R3q, O3q, M3q, C3q, rfl, z3⟩ := hz.shape; clear hz; replace z3 : Hid (Rt y3 (.agg #[.bool r3q, .slice o3q l3q c3q, .bool R3q, .slice O3q M3q C3q]) (tn * (bx - ax)) td 20) := hid' (z3.out.to rfl (Int.mul_one td)); have B3 : Hid (Below wq.heap.size wq y3) := hid' (Below.trans (by (repeat (first | with_reducible exact B4.out | with_reducible exact B3.out | with_reducible exact B2.out | with_reducible exact B1.out | with_reducible exact B0.out | with_reducible exact BW.out | (with_reducible refine bl_drew ?_) | (with_reducible refine bl_alloc ?_ _)))) (g3.mono (Below.size (by (repeat (first | with_reducible exact B4.out | with_reducible exact B3.out | with_reducible exact B2.out | with_reducible exact B1.out | with_reducible exact B0.out | with_reducible exact BW.out | (with_reducible refine bl_drew ?_) | (with_reducible refine bl_alloc ?_ _))))))); have s3 := B3.out.size; have hS3 : Hid (T6 ⟨A, 0, none⟩ ⟨B, 0, none⟩ ⟨T5, 0, none⟩ ⟨T5, 1, none⟩ ⟨T5, 2, none⟩ ⟨T5, 3, none⟩ (.int .i32 ax) (.int .i32 bx) (.bool r5) (.slice o5 l5 c5) (.bool R5) (.slice O5 M5 C5) wq.heap.size wq y3) := ⟨below_cell hSW.out.1 B3.out, below_cell hSW.out.2.1 B3.out, below_cell hSW.out.2.2.1 B3.out, below_cell hSW.out.2.2.2.1 B3.out, below_cell hSW.out.2.2.2.2.1 B3.out, below_cell hSW.out.2.2.2.2.2.1 B3.out, B3.out⟩; have zn1 : Rt y3 (.agg #[.bool r1q, .slice o1q l1q c1q, .bool R1q, .slice O1q M1q C1q]) ax 1 2 := Rt.mono (by first | with_reducible exact z1.out | with_reducible exact z1.out.al _) g3; replace z1 := hid' zn1; clear zn1; first | (have m3 := m2.mono g3 m2.lt; have e3_0 := m3.c0; have e3_1 := m3.c1; have e3_2 := m3.c2; have e3_3 := m3.c3; have e3_f := m3.f) | (have m3 : Q4 y3 y2.heap.size (.bool false) (.slice none 0 0) (.bool false) (.slice none 0 0) := (by with_reducible exact Q4.nx g3); have e3_0 := m3.c0; have e3_1 := m3.c1; have e3_2 := m3.c2; have e3_3 := m3.c3; have e3_f := m3.f) | skip)
        | (have _n := z1; go_at_call 26; refine (K0b.out _).mono ?_; rintro e y2 ⟨zz, rfl, hz, g2⟩; obtain ⟨r2q, o2q, l2q, c2q, R2q, O2q, M2q, C2q, rfl, z2⟩ := hz.shape; clear hz; have B2 : Hid (Below wq.heap.size wq y2) := hid' (Below.trans (by (repeat (first | with_reducible exact B4.out | with_reducible exact B3.out | with_reducible exact B2.out | with_reducible exact B1.out | with_reducible exact B0.out | with_reducible exact BW.out | (with_reducible refine bl_drew ?_) | (with_reducible refine bl_alloc ?_ _)))) (g2.mono (Below.size (by (repeat (first | with_reducible exact B4.out | with_reducible exact B3.out | with_reducible exact B2.out | with_reducible exact B1.out | with_reducible exact B0.out | with_reducible exact BW.out | (with_reducible refine bl_drew ?_) | (with_reducible refine bl_alloc ?_ _))))))); have s2 := B2.out.size; have hS2 : Hid (T6 ⟨A, 0, none⟩ ⟨B, 0, none⟩ ⟨T5, 0, none⟩ ⟨T5, 1, none⟩ ⟨T5, 2, none⟩ ⟨T5, 3, none⟩ (.int .i32 ax) (.int .i32 bx) (.bool r5) (.slice o5 l5 c5) (.bool R5) (.slice O5 M5 C5) wq.heap.size wq y2) := ⟨below_cell hSW.out.1 B2.out, below_cell hSW.out.2.1 B2.out, below_cell hSW.out.2.2.1 B2.out, below_cell hSW.out.2.2.2.1 B2.out, below_cell hSW.out.2.2.2.2.1 B2.out, below_cell hSW.out.2.2.2.2.2.1 B2.out, B2.out⟩; have zn1 : Rt y2 (.agg #[.bool r1q, .slice o1q l1q c1q, .bool R1q, .slice O1q M1q C1q]) ax 1 2 := Rt.mono (by first | with_reducible exact z1.out | with_reducible exact z1.out.al _) g2; replace z1 := hid' zn1; clear zn1; first | (have m2 := m1.mono g2 m1.lt; have e2_0 := m2.c0; have e2_1 := m2.c1; have e2_2 := m2.c2; have e2_3 := m2.c3; have e2_f := m2.f) | (have m2 : Q4 y2 y1.heap.size (.bool false) (.slice none 0 0) (.bool false) (.slice none 0 0) := (by with_reducible exact Q4.nx g2); have e2_0 := m2.c0; have e2_1 := m2.c1; have e2_2 := m2.c2; have e2_3 := m2.c3; have e2_f := m2.f) | skip)
        | (go_at_call 26; refine (K0a.out _).mono ?_; rintro e y1 ⟨zz, rfl, hz, g1⟩; obtain ⟨r1q, o1q, l1q, c1q, R1q, O1q, M1q, C1q, rfl, z1⟩ := hz.shape; clear hz; have B1 : Hid (Below wq.heap.size wq y1) := hid' (Below.trans (by (repeat (first | with_reducible exact B4.out | with_reducible exact B3.out | with_reducible exact B2.out | with_reducible exact B1.out | with_reducible exact B0.out | with_reducible exact BW.out | (with_reducible refine bl_drew ?_) | (with_reducible refine bl_alloc ?_ _)))) (g1.mono (Below.size (by (repeat (first | with_reducible exact B4.out | with_reducible exact B3.out | with_reducible exact B2.out | with_reducible exact B1.out | with_reducible exact B0.out | with_reducible exact BW.out | (with_reducible refine bl_drew ?_) | (with_reducible refine bl_alloc ?_ _))))))); have s1 := B1.out.size; have hS1 : Hid (T6 ⟨A, 0, none⟩ ⟨B, 0, none⟩ ⟨T5, 0, none⟩ ⟨T5, 1, none⟩ ⟨T5, 2, none⟩ ⟨T5, 3, none⟩ (.int .i32 ax) (.int .i32 bx) (.bool r5) (.slice o5 l5 c5) (.bool R5) (.slice O5 M5 C5) wq.heap.size wq y1) := ⟨below_cell hSW.out.1 B1.out, below_cell hSW.out.2.1 B1.out, below_cell hSW.out.2.2.1 B1.out, below_cell hSW.out.2.2.2.1 B1.out, below_cell hSW.out.2.2.2.2.1 B1.out, below_cell hSW.out.2.2.2.2.2.1 B1.out, B1.out⟩; first | (have m1 : Q4 y1 wq.heap.size (.bool false) (.slice none 0 0) (.bool false) (.slice none 0 0) := (by with_reducible exact Q4.nw g1); have e1_0 := m1.c0; have e1_1 := m1.c1; have e1_2 := m1.c2; have e1_3 := m1.c3; have e1_f := m1.f) | skip))
  · have v := hid' (VL.new z4.out)
    have f := hid' (FIN.out _ _ v.out (bl_alloc B4.out _))
    go_upto_region 2 with fail
    exact at_t2 w _ R S6 xn yn td A B T5 ax ay bx by_ tn _ hR hS hRS f.out.1 f.out.2.1 f.out.2.2.1 f.out.2.2.2.1 f.out.2.2.2.2.1 f.out.2.2.2.2.2 v.out (by omega) K1a K1b hyn _ rfl _ (by assumption)
  · have v := hid' (VL.put m4 z4.out)
    have f := hid' (FIN.out _ _ v.out (four_set B4.out (by omega)))
    go_upto_region 2 with fail
    exact at_t2 w _ R S6 xn yn td A B T5 ax ay bx by_ tn _ hR hS hRS f.out.1 f.out.2.1 f.out.2.2.1 f.out.2.2.2.1 f.out.2.2.2.2.1 f.out.2.2.2.2.2 v.out (by omega) K1a K1b hyn _ rfl _ (by assumption)
  · have v := hid' (VL.put m4 z4.out)
    have f := hid' (FIN.out _ _ v.out (four_set B4.out (by omega)))
    go_upto_region 2 with fail
    exact at_t2 w _ R S6 xn yn td A B T5 ax ay bx by_ tn _ hR hS hRS f.out.1 f.out.2.1 f.out.2.2.1 f.out.2.2.2.1 f.out.2.2.2.2.1 f.out.2.2.2.2.2 v.out (by omega) K1a K1b hyn _ rfl _ (by assumption)
  · have v := hid' (VL.put m4 z4.out)
    have f := hid' (FIN.out _ _ v.out (four_set B4.out (by omega)))
    go_upto_region 2 with fail
    exact at_t2 w _ R S6 xn yn td A B T5 ax ay bx by_ tn _ hR hS hRS f.out.1 f.out.2.1 f.out.2.2.1 f.out.2.2.2.1 f.out.2.2.2.2.1 f.out.2.2.2.2.2 v.out (by omega) K1a K1b hyn _ rfl _ (by assumption)
  · have v := hid' (VL.put m4 z4.out)
    have f := hid' (FIN.out _ _ v.out (four_set B4.out (by omega)))
    go_upto_region 2 with fail
    exact at_t2 w _ R S6 xn yn td A B T5 ax ay bx by_ tn _ hR hS hRS f.out.1 f.out.2.1 f.out.2.2.1 f.out.2.2.2.1 f.out.2.2.2.2.1 f.out.2.2.2.2.2 v.out (by omega) K1a K1b hyn _ rfl _ (by assumption)
set_option maxRecDepth 20000 in
set_option maxHeartbeats 4000000 in
theorem at_rt (a b : P2) (v : Value) (tn td : Int) (w : World) (ha : ins a) (hb : ins b) (hv : Rt w v tn td 18) : Calls Try.prog 36 #[ptv a, ptv b, v] w fun e w' => ∃ x y, e = .returned (.tuple #[x, y]) ∧ Rt w' x (a.1 * td + tn * (b.1 - a.1)) td 23 ∧ Rt w' y (a.2 * td + tn * (b.2 - a.2)) td 23 ∧ Below w.heap.size w w' := by
  obtain ⟨ax, ay⟩ := a
  obtain ⟨bx, by_⟩ := b
  obtain ⟨i1, j1⟩ := ha
  obtain ⟨i2, j2⟩ := hb
  obtain ⟨r1, o1, l1, c1, R1, O1, M1, C1, rfl, z1⟩ := hv.shape
  simp only at i1 j1 i2 j2 ⊢
  obtain ⟨xn, hxn⟩ : ∃ xn, ax * td + tn * (bx - ax) = xn := ⟨_, rfl⟩
  obtain ⟨yn, hyn⟩ : ∃ yn, ay * td + tn * (by_ - ay) = yn := ⟨_, rfl⟩
  rw [hxn, hyn]
  replace hxn := hid' hxn
  replace hyn := hid' hyn
  have hw : ∀ x y, in32 x → in32 y → IntKind.i64.wrap (IntKind.i64.wrap x - IntKind.i64.wrap y) = x - y := fun x y h k => by rw [IntKind.wrap_i64, IntKind.wrap_i64, IntKind.wrap_i64]; unfold in32 at *; omega
  have hw1 : ∀ x, in32 x → IntKind.i64.wrap x = x := fun x h => by rw [IntKind.wrap_i64]; unfold in32 at *; omega
  have K0a : Hid (∀ W, Calls Try.prog 26 #[.int .i64 (IntKind.i64.wrap ax)] W fun e w' => ∃ z, e = .returned z ∧ Rt w' z ax 1 2 ∧ Below W.heap.size W w') := fun W => by rw [hw1 _ i1]; exact whole_rt ax W (by unfold in32 at i1; omega) (by unfold in32 at i1; omega)
  have K1a : Hid (∀ W, Calls Try.prog 26 #[.int .i64 (IntKind.i64.wrap ay)] W fun e w' => ∃ z, e = .returned z ∧ Rt w' z ay 1 2 ∧ Below W.heap.size W w') := fun W => by rw [hw1 _ j1]; exact whole_rt ay W (by unfold in32 at j1; omega) (by unfold in32 at j1; omega)
  have K0b : Hid (∀ W, Calls Try.prog 26 #[.int .i64 (IntKind.i64.wrap (IntKind.i64.wrap bx - IntKind.i64.wrap ax))] W fun e w' => ∃ z, e = .returned z ∧ Rt w' z (bx - ax) 1 2 ∧ Below W.heap.size W w') := fun W => by rw [hw _ _ i2 i1]; exact whole_rt (bx - ax) W (dif64 i2 i1).1 (dif64 i2 i1).2
  have K1b : Hid (∀ W, Calls Try.prog 26 #[.int .i64 (IntKind.i64.wrap (IntKind.i64.wrap by_ - IntKind.i64.wrap ay))] W fun e w' => ∃ z, e = .returned z ∧ Rt w' z (by_ - ay) 1 2 ∧ Below W.heap.size W w') := fun W => by rw [hw _ _ j2 j1]; exact whole_rt (by_ - ay) W (dif64 j2 j1).1 (dif64 j2 j1).2
  clear hw hw1 i1 j1 i2 j2 hv
  have hB : Below w.heap.size w (((((w.alloc (.cells #[.int .i32 ax, .int .i32 ay] 23)).alloc (.cells #[.int .i32 bx, .int .i32 by_] 23)).alloc (.cells #[.bool r1, .slice o1 l1 c1, .bool R1, .slice O1 M1 C1] 53)).alloc (.cells #[.bool false, .slice none 0 0, .bool false, .slice none 0 0] 53)).alloc (.cells #[.bool false, .slice none 0 0, .bool false, .slice none 0 0] 53)) := ((((((Gr.refl _).alloc _).alloc _).alloc _).alloc _).alloc _).below
  have ta : TwoIs (((((w.alloc (.cells #[.int .i32 ax, .int .i32 ay] 23)).alloc (.cells #[.int .i32 bx, .int .i32 by_] 23)).alloc (.cells #[.bool r1, .slice o1 l1 c1, .bool R1, .slice O1 M1 C1] 53)).alloc (.cells #[.bool false, .slice none 0 0, .bool false, .slice none 0 0] 53)).alloc (.cells #[.bool false, .slice none 0 0, .bool false, .slice none 0 0] 53)) w.heap.size ax ay := ⟨by go_simp, by go_simp⟩
  have tb : TwoIs (((((w.alloc (.cells #[.int .i32 ax, .int .i32 ay] 23)).alloc (.cells #[.int .i32 bx, .int .i32 by_] 23)).alloc (.cells #[.bool r1, .slice o1 l1 c1, .bool R1, .slice O1 M1 C1] 53)).alloc (.cells #[.bool false, .slice none 0 0, .bool false, .slice none 0 0] 53)).alloc (.cells #[.bool false, .slice none 0 0, .bool false, .slice none 0 0] 53)) (w.heap.size + 1) bx by_ := ⟨by go_simp, by go_simp⟩
  have VT : VL (((((w.alloc (.cells #[.int .i32 ax, .int .i32 ay] 23)).alloc (.cells #[.int .i32 bx, .int .i32 by_] 23)).alloc (.cells #[.bool r1, .slice o1 l1 c1, .bool R1, .slice O1 M1 C1] 53)).alloc (.cells #[.bool false, .slice none 0 0, .bool false, .slice none 0 0] 53)).alloc (.cells #[.bool false, .slice none 0 0, .bool false, .slice none 0 0] 53)) (w.heap.size + 1 + 1) tn td 18 := by
    have h := VL.new (w := ((w.alloc (.cells #[.int .i32 ax, .int .i32 ay] 23)).alloc (.cells #[.int .i32 bx, .int .i32 by_] 23))) (z1.out.mono (((Gr.refl w).alloc _).alloc _).below)
    have h' := h.mono (((Gr.refl _).alloc (.cells #[.bool false, .slice none 0 0, .bool false, .slice none 0 0] 53)).alloc (.cells #[.bool false, .slice none 0 0, .bool false, .slice none 0 0] 53)).below
    simpa using h'
  have kR : Q4 (((((w.alloc (.cells #[.int .i32 ax, .int .i32 ay] 23)).alloc (.cells #[.int .i32 bx, .int .i32 by_] 23)).alloc (.cells #[.bool r1, .slice o1 l1 c1, .bool R1, .slice O1 M1 C1] 53)).alloc (.cells #[.bool false, .slice none 0 0, .bool false, .slice none 0 0] 53)).alloc (.cells #[.bool false, .slice none 0 0, .bool false, .slice none 0 0] 53)) (w.heap.size + 1 + 1 + 1) (.bool false) (.slice none 0 0) (.bool false) (.slice none 0 0) := by
    have h := Q4.new (((w.alloc (.cells #[.int .i32 ax, .int .i32 ay] 23)).alloc (.cells #[.int .i32 bx, .int .i32 by_] 23)).alloc (.cells #[.bool r1, .slice o1 l1 c1, .bool R1, .slice O1 M1 C1] 53)) (.bool false) (.slice none 0 0) (.bool false) (.slice none 0 0)
    have h' := h.gr ((Gr.refl _).alloc (.cells #[.bool false, .slice none 0 0, .bool false, .slice none 0 0] 53))
    simpa using h'
  have kS : Q4 (((((w.alloc (.cells #[.int .i32 ax, .int .i32 ay] 23)).alloc (.cells #[.int .i32 bx, .int .i32 by_] 23)).alloc (.cells #[.bool r1, .slice o1 l1 c1, .bool R1, .slice O1 M1 C1] 53)).alloc (.cells #[.bool false, .slice none 0 0, .bool false, .slice none 0 0] 53)).alloc (.cells #[.bool false, .slice none 0 0, .bool false, .slice none 0 0] 53)) (w.heap.size + 1 + 1 + 1 + 1) (.bool false) (.slice none 0 0) (.bool false) (.slice none 0 0) := by
    have h := Q4.new ((((w.alloc (.cells #[.int .i32 ax, .int .i32 ay] 23)).alloc (.cells #[.int .i32 bx, .int .i32 by_] 23)).alloc (.cells #[.bool r1, .slice o1 l1 c1, .bool R1, .slice O1 M1 C1] 53)).alloc (.cells #[.bool false, .slice none 0 0, .bool false, .slice none 0 0] 53)) (.bool false) (.slice none 0 0) (.bool false) (.slice none 0 0)
    simpa using h
  clear z1
  show Calls Try.prog 36 #[pt ax ay, pt bx by_, .agg #[.bool r1, .slice o1 l1 c1, .bool R1, .slice O1 M1 C1]] w _
  go_enter Try.func36, Try.ntmps36
  go_upto_region 1 with fail
  generalize (((((w.alloc (.cells #[.int .i32 ax, .int .i32 ay] 23)).alloc (.cells #[.int .i32 bx, .int .i32 by_] 23)).alloc (.cells #[.bool r1, .slice o1 l1 c1, .bool R1, .slice O1 M1 C1] 53)).alloc (.cells #[.bool false, .slice none 0 0, .bool false, .slice none 0 0] 53)).alloc (.cells #[.bool false, .slice none 0 0, .bool false, .slice none 0 0] 53)) = W at *
  exact at_t1 w _ (w.heap.size + 1 + 1 + 1) (w.heap.size + 1 + 1 + 1 + 1) xn yn td w.heap.size (w.heap.size + 1) (w.heap.size + 1 + 1) ax ay bx by_ tn (by omega) (by omega) (by omega) kR kS hB ta tb VT K0a K0b hxn K1a K1b hyn _ rfl _ (by assumption)
end Go.Proofs.Ytagabccaipfjeaa
