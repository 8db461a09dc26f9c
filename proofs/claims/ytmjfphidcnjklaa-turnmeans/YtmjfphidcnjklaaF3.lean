/- Contracts of the reference's Apply and Then, and of what the law makes of its arguments. -/
import Derived.Test.YtmjfphidcnjklaaF2
set_option linter.unusedSimpArgs false
namespace Go.Proofs.Ytmjfphidcnjklaa
open Go.RowKit Go.Sort Ieee

theorem S2.set {a0 a1 : Addr} {x0 x1 : Value} {W w : World} (h : S2 a0 a1 x0 x1 W w) {p : Addr} (h0 : p.block ≠ a0.block) (h1 : p.block ≠ a1.block) (hp : W.heap.size ≤ p.block) (z : Value) : S2 a0 a1 x0 x1 W (w.setCell p z) :=
  have f : ∀ a : Addr, p.block ≠ a.block → (w.setCell p z).cell? a = w.cell? a := fun a ha => World.cell?_setCell_far w p a z ha
  ⟨(f a0 h0).trans h.1, (f a1 h1).trans h.2.1, h.2.2.setCell hp z⟩
abbrev S6 (a0 a1 a2 a3 a4 a5 : Addr) (x0 x1 x2 x3 x4 x5 : Value) (W : World) (w : World) : Prop :=
  w.cell? a0 = some x0 ∧ w.cell? a1 = some x1 ∧ w.cell? a2 = some x2 ∧ w.cell? a3 = some x3 ∧ w.cell? a4 = some x4 ∧ w.cell? a5 = some x5 ∧ Gr W w
theorem S6.call {a0 a1 a2 a3 a4 a5 : Addr} {x0 x1 x2 x3 x4 x5 : Value} {W w w' : World} (h : S6 a0 a1 a2 a3 a4 a5 x0 x1 x2 x3 x4 x5 W w) (g : Gr w w') : S6 a0 a1 a2 a3 a4 a5 x0 x1 x2 x3 x4 x5 W w' :=
  ⟨below_cell h.1 g.below, below_cell h.2.1 g.below, below_cell h.2.2.1 g.below, below_cell h.2.2.2.1 g.below, below_cell h.2.2.2.2.1 g.below, below_cell h.2.2.2.2.2.1 g.below, h.2.2.2.2.2.2.trans g⟩
theorem S6.set {a0 a1 a2 a3 a4 a5 : Addr} {x0 x1 x2 x3 x4 x5 : Value} {W w : World} (h : S6 a0 a1 a2 a3 a4 a5 x0 x1 x2 x3 x4 x5 W w) {p : Addr} (h0 : p.block ≠ a0.block) (h1 : p.block ≠ a1.block) (h2 : p.block ≠ a2.block) (h3 : p.block ≠ a3.block) (h4 : p.block ≠ a4.block) (h5 : p.block ≠ a5.block) (hp : W.heap.size ≤ p.block) (z : Value) : S6 a0 a1 a2 a3 a4 a5 x0 x1 x2 x3 x4 x5 W (w.setCell p z) :=
  have f : ∀ a : Addr, p.block ≠ a.block → (w.setCell p z).cell? a = w.cell? a := fun a ha => World.cell?_setCell_far w p a z ha
  ⟨(f a0 h0).trans h.1, (f a1 h1).trans h.2.1, (f a2 h2).trans h.2.2.1, (f a3 h3).trans h.2.2.2.1, (f a4 h4).trans h.2.2.2.2.1, (f a5 h5).trans h.2.2.2.2.2.1, h.2.2.2.2.2.2.setCell hp z⟩

set_option maxRecDepth 20000 in
set_option maxHeartbeats 1000000 in
theorem rapply_any {a b c d u v A B C D U W : Nat} (ha : V a A) (hb : V b B) (hc : V c C) (hd : V d D) (hu : V u U) (hv : V v W) (w : World) :
    Calls Try.prog 14 #[mapV a b c d, numV u v] w fun e w' => ∃ r s, e = .returned (numV r s) ∧ V r (fo .add (tRe A B U W) C) ∧ V s (fo .add (tIm A B U W) D) ∧ Gr w w' := by
  obtain ⟨kM, kN, kR, g⟩ := three_new w 35 33 33 #[.float .f64 a, .float .f64 b, .float .f64 c, .float .f64 d] #[.float .f64 u, .float .f64 v] #[.float .f64 0, .float .f64 0]
  replace g := hid' g
  have sf := run_store_f
  go_enter Try.func14, Try.ntmps14
  go_wp2_with fail
  generalize ((w.alloc (.cells #[.float .f64 a, .float .f64 b, .float .f64 c, .float .f64 d] 35)).alloc (.cells #[.float .f64 u, .float .f64 v] 33)).alloc (.cells #[.float .f64 0, .float .f64 0] 33) = W1 at *
  obtain ⟨⟨m0, m1, m2, m3⟩, _⟩ := kM.four
  obtain ⟨n0, n1, _, _⟩ := kN.two
  go_region_held3 (S6 ⟨w.heap.size, 0, none⟩ ⟨w.heap.size, 1, none⟩ ⟨w.heap.size, 2, none⟩ ⟨w.heap.size, 3, none⟩ ⟨w.heap.size + 1, 0, none⟩ ⟨w.heap.size + 1, 1, none⟩ (.float .f64 a) (.float .f64 b) (.float .f64 c) (.float .f64 d) (.float .f64 u) (.float .f64 v) w)
    (first
      | exact ⟨m0, m1, m2, m3, n0, n1, g.out.drew⟩
      | exact S6.call (by assumption) (by assumption)
      | (refine S6.set (S6.set ?_ ?_ ?_ ?_ ?_ ?_ ?_ ?_ _) ?_ ?_ ?_ ?_ ?_ ?_ ?_ _ <;> first | assumption | (simp only []; omega)))
    (first
      | (go_at_call 43; refine (rtimes_any ha hb hu hv _).mono ?_; rintro e w1 ⟨r, s, rfl, h1, h2, g1⟩; replace kR := (kR.drewN 1).gr g1)
      | (go_at_call 42; refine (rplus_any h1 h2 hc hd _).mono ?_; rintro e w2 ⟨r2, s2, rfl, h3, h4, g2⟩; replace kR := kR.gr g2; obtain ⟨q0, q1, q2, q3⟩ := kR.two))
  rename_i hH
  have gg := hH.2.2.2.2.2.2
  go_wp2
  refine bodyPost_ret (v := numV r2 s2) (by simp [results, Try.results14, go_sem, q0, q1]) rfl ⟨_, _, rfl, h3, h4, gg⟩

abbrev S8 (a0 a1 a2 a3 a4 a5 a6 a7 : Addr) (x0 x1 x2 x3 x4 x5 x6 x7 : Value) (W : World) (w : World) : Prop :=
  w.cell? a0 = some x0 ∧ w.cell? a1 = some x1 ∧ w.cell? a2 = some x2 ∧ w.cell? a3 = some x3 ∧ w.cell? a4 = some x4 ∧ w.cell? a5 = some x5 ∧ w.cell? a6 = some x6 ∧ w.cell? a7 = some x7 ∧ Gr W w
theorem S8.call {a0 a1 a2 a3 a4 a5 a6 a7 : Addr} {x0 x1 x2 x3 x4 x5 x6 x7 : Value} {W w w' : World} (h : S8 a0 a1 a2 a3 a4 a5 a6 a7 x0 x1 x2 x3 x4 x5 x6 x7 W w) (g : Gr w w') : S8 a0 a1 a2 a3 a4 a5 a6 a7 x0 x1 x2 x3 x4 x5 x6 x7 W w' :=
  ⟨below_cell h.1 g.below, below_cell h.2.1 g.below, below_cell h.2.2.1 g.below, below_cell h.2.2.2.1 g.below, below_cell h.2.2.2.2.1 g.below, below_cell h.2.2.2.2.2.1 g.below, below_cell h.2.2.2.2.2.2.1 g.below, below_cell h.2.2.2.2.2.2.2.1 g.below, h.2.2.2.2.2.2.2.2.trans g⟩
theorem S8.set {a0 a1 a2 a3 a4 a5 a6 a7 : Addr} {x0 x1 x2 x3 x4 x5 x6 x7 : Value} {W w : World} (h : S8 a0 a1 a2 a3 a4 a5 a6 a7 x0 x1 x2 x3 x4 x5 x6 x7 W w) {p : Addr} (h0 : p.block ≠ a0.block) (h1 : p.block ≠ a1.block) (h2 : p.block ≠ a2.block) (h3 : p.block ≠ a3.block) (h4 : p.block ≠ a4.block) (h5 : p.block ≠ a5.block) (h6 : p.block ≠ a6.block) (h7 : p.block ≠ a7.block) (hp : W.heap.size ≤ p.block) (z : Value) : S8 a0 a1 a2 a3 a4 a5 a6 a7 x0 x1 x2 x3 x4 x5 x6 x7 W (w.setCell p z) :=
  have f : ∀ a : Addr, p.block ≠ a.block → (w.setCell p z).cell? a = w.cell? a := fun a ha => World.cell?_setCell_far w p a z ha
  ⟨(f a0 h0).trans h.1, (f a1 h1).trans h.2.1, (f a2 h2).trans h.2.2.1, (f a3 h3).trans h.2.2.2.1, (f a4 h4).trans h.2.2.2.2.1, (f a5 h5).trans h.2.2.2.2.2.1, (f a6 h6).trans h.2.2.2.2.2.2.1, (f a7 h7).trans h.2.2.2.2.2.2.2.1, h.2.2.2.2.2.2.2.2.setCell hp z⟩
set_option maxRecDepth 20000 in
set_option maxHeartbeats 2000000 in
theorem rthen_any {a b c d a2 b2 c2 d2 A B C D A2 B2 C2 D2 : Nat} (ha : V a A) (hb : V b B) (hc : V c C) (hd : V d D) (ha2 : V a2 A2) (hb2 : V b2 B2) (hc2 : V c2 C2) (hd2 : V d2 D2) (w : World) :
    Calls Try.prog 18 #[mapV a b c d, mapV a2 b2 c2 d2] w fun e w' => ∃ p q r s, e = .returned (mapV p q r s) ∧ V p (tRe A2 B2 A B) ∧ V q (tIm A2 B2 A B) ∧ V r (thRe C D A2 B2 C2) ∧ V s (thIm C D A2 B2 D2) ∧ Gr w w' := by
  obtain ⟨kM, kN, kR, g⟩ := three_new w 35 35 35 #[.float .f64 a, .float .f64 b, .float .f64 c, .float .f64 d] #[.float .f64 a2, .float .f64 b2, .float .f64 c2, .float .f64 d2] #[.float .f64 0, .float .f64 0, .float .f64 0, .float .f64 0]
  replace g := hid' g
  have sf := run_store_f
  go_enter Try.func18, Try.ntmps18
  go_wp2_with fail
  generalize ((w.alloc (.cells #[.float .f64 a, .float .f64 b, .float .f64 c, .float .f64 d] 35)).alloc (.cells #[.float .f64 a2, .float .f64 b2, .float .f64 c2, .float .f64 d2] 35)).alloc (.cells #[.float .f64 0, .float .f64 0, .float .f64 0, .float .f64 0] 35) = W1 at *
  obtain ⟨⟨m0, m1, m2, m3⟩, _⟩ := kM.four
  obtain ⟨⟨n0, n1, n2, n3⟩, _⟩ := kN.four
  go_region_held3 (S8 ⟨w.heap.size, 0, none⟩ ⟨w.heap.size, 1, none⟩ ⟨w.heap.size, 2, none⟩ ⟨w.heap.size, 3, none⟩ ⟨w.heap.size + 1, 0, none⟩ ⟨w.heap.size + 1, 1, none⟩ ⟨w.heap.size + 1, 2, none⟩ ⟨w.heap.size + 1, 3, none⟩ (.float .f64 a) (.float .f64 b) (.float .f64 c) (.float .f64 d) (.float .f64 a2) (.float .f64 b2) (.float .f64 c2) (.float .f64 d2) w)
    (first
      | exact ⟨m0, m1, m2, m3, n0, n1, n2, n3, g.out.drew⟩
      | exact S8.call (by assumption) (by assumption)
      | (refine S8.set (S8.set (S8.set (S8.set ?_ ?_ ?_ ?_ ?_ ?_ ?_ ?_ ?_ ?_ _) ?_ ?_ ?_ ?_ ?_ ?_ ?_ ?_ ?_ _) ?_ ?_ ?_ ?_ ?_ ?_ ?_ ?_ ?_ _) ?_ ?_ ?_ ?_ ?_ ?_ ?_ ?_ ?_ _ <;> first | assumption | (simp only []; omega)))
    (first
      | (go_at_call 42; refine (rplus_any h3 h4 hc2 hd2 _).mono ?_; rintro e w3 ⟨r3, s3, rfl, h5, h6, g3⟩; replace kR := kR.gr g3; obtain ⟨⟨q0, q1, q2, q3⟩, p0, p1, p2, p3⟩ := kR.four)
      | (go_at_call_of 43 c; refine (rtimes_any ha2 hb2 hc hd _).mono ?_; rintro e w2 ⟨r2, s2, rfl, h3, h4, g2⟩; replace kR := kR.gr g2)
      | (go_at_call_of 43 a; refine (rtimes_any ha2 hb2 ha hb _).mono ?_; rintro e w1 ⟨r, s, rfl, h1, h2, g1⟩; replace kR := (kR.drewN 1).gr g1))
  rename_i hH
  have gg := hH.2.2.2.2.2.2.2.2
  go_wp2
  refine bodyPost_ret (v := mapV r s r3 s3) (by simp [results, Try.results18, go_sem, q0, q1, q2, q3]) rfl ⟨_, _, _, _, rfl, h1, h2, h5, h6, gg⟩
set_option maxRecDepth 20000 in
set_option maxHeartbeats 2000000 in
theorem num_any (a b : Nat) (w : World) :
    Calls Try.prog 15 #[.complex .f64 a b] w fun e w' => e = .returned (numV a b) ∧ Gr w w' := by
  have sf := run_store_f
  go_enter Try.func15, Try.ntmps15
  go_wp2
  refine bodyPost_ret (v := numV a b) (by simp [results, Try.results15, go_sem]) rfl ⟨rfl, ?_⟩
  exact (Gr.refl w).alloc _
set_option maxRecDepth 20000 in
set_option maxHeartbeats 2000000 in
theorem numMap_any (a b c d : Nat) (w : World) :
    Calls Try.prog 11 #[simV a b c d] w fun e w' => e = .returned (mapV a b c d) ∧ Gr w w' := by
  obtain ⟨kM, kR, g⟩ := two_new w 28 35 #[.complex .f64 a b, .complex .f64 c d] #[.float .f64 0, .float .f64 0, .float .f64 0, .float .f64 0]
  replace g := hid' g
  have sf := run_store_f
  go_enter Try.func11, Try.ntmps11
  go_wp2_with fail
  generalize (w.alloc (.cells #[.complex .f64 a b, .complex .f64 c d] 28)).alloc (.cells #[.float .f64 0, .float .f64 0, .float .f64 0, .float .f64 0] 35) = W1 at *
  obtain ⟨m0, m1, _, _⟩ := kM.two
  go_region_held3 (S2 ⟨w.heap.size, 0, none⟩ ⟨w.heap.size, 1, none⟩ (.complex .f64 a b) (.complex .f64 c d) w)
    (first
      | exact ⟨m0, m1, g.out.drew⟩
      | exact S2.call (by assumption) (by assumption)
      | (refine S2.set (S2.set (S2.set (S2.set ?_ ?_ ?_ ?_ _) ?_ ?_ ?_ _) ?_ ?_ ?_ _) ?_ ?_ ?_ _ <;> first | assumption | (simp only []; omega)))
    (first
      | (go_at_call_of 15 c; refine (num_any c d _).mono ?_; rintro e w2 ⟨rfl, g2⟩; replace kR := kR.gr g2; obtain ⟨⟨q0, q1, q2, q3⟩, p0, p1, p2, p3⟩ := kR.four)
      | (go_at_call_of 15 a; refine (num_any a b _).mono ?_; rintro e w1 ⟨rfl, g1⟩; replace kR := (kR.drewN 1).gr g1))
  rename_i hH
  have gg := hH.2.2
  go_wp2
  refine bodyPost_ret (v := mapV a b c d) (by simp [results, Try.results11, go_sem, q0, q1, q2, q3]) rfl ⟨rfl, gg⟩
end Go.Proofs.Ytmjfphidcnjklaa
