/- cell's Count and the reference's. -/
import Derived.Test.YtmoddfikhipagaaOv
set_option linter.unusedSimpArgs false
set_option linter.unusedVariables false
namespace Go.Proofs.Ytmoddfikhipagaa
open Go.RowKit Go.Sort Go.Shelf
attribute [local go_sem] Oper.semAt_some wide_fn
attribute [local simp] wide_fn

def cntP (a b c d s : Int) : Int := if szB s && rtB a b c d then (c / s - a / s + 1) * (d / s - b / s + 1) else 0
def InvN (W : World) (b2 : Nat) (ia ib ic id s X Y Z U : Int) (d : Nat → Prop) (a : Act) (w : World) : Prop :=
  ∃ u5 u6 u15 u16 u17 u18 u19 u20 u21 u22 : Value, a = { tmps := (bx ia ib ic id :: .int .i64 s :: .pointer (some ⟨b2, 0, none⟩) :: undef :: .int .i64 0 :: u5 :: u6 :: .int .i64 s :: .bool true :: .bool false :: .bool false :: bx ia ib ic id :: .bool true :: .bool false :: .bool false :: u15 :: u16 :: u17 :: u18 :: u19 :: u20 :: u21 :: u22 :: undef :: undef :: undef :: undef :: undef :: undef :: undef :: undef :: undef :: undef :: undef :: undef :: undef :: undef :: undef :: undef :: undef :: []).toArray, defers := [] } ∧ Gr W w
  ∧ Hid (d 0 → u15 = .pointer (some ⟨b2, 0, none⟩))
  ∧ Hid (d 1 → u16 = pt ia ib)
  ∧ Hid (d 2 → u17 = .int .i64 s)
  ∧ Hid (d 3 → u18 = pt X Y)
  ∧ Hid (d 4 → u19 = .pointer (some ⟨b2, 2, none⟩))
  ∧ Hid (d 5 → u20 = pt ic id)
  ∧ Hid (d 6 → u21 = .int .i64 s)
  ∧ Hid (d 7 → u22 = pt Z U)
  ∧ Hid (d 8 → ∃ (B : Nat) (x0 x1 : Value), u5 = .pointer (some ⟨B, 0, none⟩) ∧ W.heap.size ≤ B ∧ Bk w B 26 [x0, x1] ∧ (d 10 → x0 = Value.int .i32 X ∧ x1 = Value.int .i32 Y))
  ∧ Hid (d 9 → ∃ (B : Nat) (x0 x1 : Value), u6 = .pointer (some ⟨B, 0, none⟩) ∧ W.heap.size ≤ B ∧ Bk w B 26 [x0, x1] ∧ (d 11 → x0 = Value.int .i32 Z ∧ x1 = Value.int .i32 U))
  ∧ Hid (d 8 → d 9 → u5 ≠ u6)

set_option maxRecDepth 20000 in
set_option maxHeartbeats 8000000 in
theorem count_yes (a b c d s X Y Z U R : Int) (w : World)
    (S1 : Hid (∀ w, Calls Try.prog 30 #[.int .i64 s] w fun e w' => e = .returned (.bool true) ∧ w' = w)) (S2 : Hid (∀ w, Calls Try.prog 34 #[bx a b c d] w fun e w' => e = .returned (.bool true) ∧ Gr w w'))
    (H1 : Hid (∀ w, Calls Try.prog 31 #[pt a b, .int .i64 s] w fun e w' => e = .returned (pt X Y) ∧ Gr w w')) (H2 : Hid (∀ w, Calls Try.prog 31 #[pt c d, .int .i64 s] w fun e w' => e = .returned (pt Z U) ∧ Gr w w'))
    (x1 : wrap64 X = X) (x2 : wrap64 Y = Y) (x3 : wrap64 Z = Z) (x4 : wrap64 U = U) (y1 : wrap64 (Z - X) = Z - X) (y2 : wrap64 (U - Y) = U - Y) (y3 : wrap64 (Z - X + 1) = Z - X + 1) (y4 : wrap64 (U - Y + 1) = U - Y + 1) (y5 : wrap64 ((Z - X + 1) * (U - Y + 1)) = R) :
    Calls Try.prog 11 #[bx a b c d, .int .i64 s] w fun e w' => e = .returned (.int .i64 R) ∧ Gr w w' := by
  have kb := Bk.new w 25 [.int .i32 a, .int .i32 b, .int .i32 c, .int .i32 d]
  have gW : Gr w (w.alloc (.cells #[.int .i32 a, .int .i32 b, .int .i32 c, .int .i32 d] 25)) := (Gr.refl _).alloc _
  go_enter Try.func11, Try.ntmps11
  go_upto_region 1 with fail
  generalize w.alloc (.cells #[.int .i32 a, .int .i32 b, .int .i32 c, .int .i32 d] 25) = W0 at *
  obtain ⟨p0, p1, p2, p3⟩ := kb.four
  go_upto_region 3 with (first
    | (go_at_call 30; refine (S1.out _).mono ?_; rintro e w1 ⟨rfl, rfl⟩; clear S1)
    | (go_at_call 34; refine (S2.out _).mono ?_; rintro e W ⟨rfl, g2⟩; clear S2))
  replace kb := kb.gr g2
  replace gW := gW.trans g2
  clear p0 p1 p2 p3 g2
  obtain ⟨nF, hnF⟩ : ∃ nF : Nat, 5 ≤ nF := ⟨5, by omega⟩
  have h1n : 1 ≤ nF := by omega
  refine (wpIn_wide (n := nF)).1 ?_
  refine region_inv (by kernel_rfl) (by kernel_rfl) (InvN W w.heap.size a b c d s X Y Z U) ?h0 ?hstep ?hend
  case h0 =>
    exact ⟨_, _, _, _, _, _, _, _, _, _, rfl, (Gr.refl _).drew, fun h => h.elim, fun h => h.elim, fun h => h.elim, fun h => h.elim, fun h => h.elim, fun h => h.elim, fun h => h.elim, fun h => h.elim, fun h => h.elim, fun h => h.elim, fun h => h.elim⟩
  case hstep =>
    clear x1 x2 x3 x4 y1 y2 y3 y4 y5 gW
    intro d' a' wI i o ho hnd D hdn hI
    have hi := (List.getElem?_eq_some_iff.1 ho).1
    simp only [List.length_cons, List.length_nil] at hi
    have : i = 0 ∨ i = 1 ∨ i = 2 ∨ i = 3 ∨ i = 4 ∨ i = 5 ∨ i = 6 ∨ i = 7 ∨ i = 8 ∨ i = 9 ∨ i = 10 ∨ i = 11 := by omega
    rcases this with rfl | rfl | rfl | rfl | rfl | rfl | rfl | rfl | rfl | rfl | rfl | rfl
    · -- 0
      cases ho
      obtain ⟨u5, u6, u15, u16, u17, u18, u19, u20, u21, u22, rfl, hG, f0, f1, f2, f3, f4, f5, f6, f7, g8, g9, n8_9⟩ := hI
      gi_wp2
      exact ⟨_, _, _, _, _, _, _, _, _, _, rfl, hG, (fun _ => rfl), (fun h => f1.out (or_ne h (by decide))), (fun h => f2.out (or_ne h (by decide))), (fun h => f3.out (or_ne h (by decide))), (fun h => f4.out (or_ne h (by decide))), (fun h => f5.out (or_ne h (by decide))), (fun h => f6.out (or_ne h (by decide))), (fun h => f7.out (or_ne h (by decide))), (fun h => by obtain ⟨B, x0, x1, q1, q2, q3, q4⟩ := g8.out (or_ne h (by decide)); exact ⟨B, x0, x1, q1, q2, q3, fun h => q4 (or_ne h (by decide))⟩), (fun h => by obtain ⟨B, x0, x1, q1, q2, q3, q4⟩ := g9.out (or_ne h (by decide)); exact ⟨B, x0, x1, q1, q2, q3, fun h => q4 (or_ne h (by decide))⟩), (fun h h' => n8_9.out (or_ne h (by decide)) (or_ne h' (by decide)))⟩
    · -- 1
      cases ho
      obtain ⟨u5, u6, u15, u16, u17, u18, u19, u20, u21, u22, rfl, hG, f0, f1, f2, f3, f4, f5, f6, f7, g8, g9, n8_9⟩ := hI
      have e0 := f0.out (D 0 (by kernel_rfl))
      subst e0
      obtain ⟨p0, p1, p2, p3⟩ := (kb.gr hG).four
      gi_wp2
      exact ⟨_, _, _, _, _, _, _, _, _, _, rfl, hG, (fun _ => rfl), (fun _ => rfl), (fun h => f2.out (or_ne h (by decide))), (fun h => f3.out (or_ne h (by decide))), (fun h => f4.out (or_ne h (by decide))), (fun h => f5.out (or_ne h (by decide))), (fun h => f6.out (or_ne h (by decide))), (fun h => f7.out (or_ne h (by decide))), (fun h => by obtain ⟨B, x0, x1, q1, q2, q3, q4⟩ := g8.out (or_ne h (by decide)); exact ⟨B, x0, x1, q1, q2, q3, fun h => q4 (or_ne h (by decide))⟩), (fun h => by obtain ⟨B, x0, x1, q1, q2, q3, q4⟩ := g9.out (or_ne h (by decide)); exact ⟨B, x0, x1, q1, q2, q3, fun h => q4 (or_ne h (by decide))⟩), (fun h h' => n8_9.out (or_ne h (by decide)) (or_ne h' (by decide)))⟩
    · -- 2
      cases ho
      obtain ⟨u5, u6, u15, u16, u17, u18, u19, u20, u21, u22, rfl, hG, f0, f1, f2, f3, f4, f5, f6, f7, g8, g9, n8_9⟩ := hI
      gi_wp2
      exact ⟨_, _, _, _, _, _, _, _, _, _, rfl, hG, (fun h => f0.out (or_ne h (by decide))), (fun h => f1.out (or_ne h (by decide))), (fun _ => rfl), (fun h => f3.out (or_ne h (by decide))), (fun h => f4.out (or_ne h (by decide))), (fun h => f5.out (or_ne h (by decide))), (fun h => f6.out (or_ne h (by decide))), (fun h => f7.out (or_ne h (by decide))), (fun h => by obtain ⟨B, x0, x1, q1, q2, q3, q4⟩ := g8.out (or_ne h (by decide)); exact ⟨B, x0, x1, q1, q2, q3, fun h => q4 (or_ne h (by decide))⟩), (fun h => by obtain ⟨B, x0, x1, q1, q2, q3, q4⟩ := g9.out (or_ne h (by decide)); exact ⟨B, x0, x1, q1, q2, q3, fun h => q4 (or_ne h (by decide))⟩), (fun h h' => n8_9.out (or_ne h (by decide)) (or_ne h' (by decide)))⟩
    · -- 3
      cases ho
      obtain ⟨u5, u6, u15, u16, u17, u18, u19, u20, u21, u22, rfl, hG, f0, f1, f2, f3, f4, f5, f6, f7, g8, g9, n8_9⟩ := hI
      have e1 := f1.out (D 1 (by kernel_rfl))
      subst e1
      have e2 := f2.out (D 2 (by kernel_rfl))
      subst e2
      gi_wp2_with (refine (callsIn_wide.2 (H1.out _)).mono ?_; rintro e w1 ⟨rfl, h1⟩)
      have hG' := hG.trans h1
      exact ⟨_, _, _, _, _, _, _, _, _, _, rfl, hG', (fun h => f0.out (or_ne h (by decide))), (fun _ => rfl), (fun _ => rfl), (fun _ => rfl), (fun h => f4.out (or_ne h (by decide))), (fun h => f5.out (or_ne h (by decide))), (fun h => f6.out (or_ne h (by decide))), (fun h => f7.out (or_ne h (by decide))), (fun h => by obtain ⟨B, x0, x1, q1, q2, q3, q4⟩ := g8.out (or_ne h (by decide)); exact ⟨B, x0, x1, q1, q2, q3.gr h1, fun h => q4 (or_ne h (by decide))⟩), (fun h => by obtain ⟨B, x0, x1, q1, q2, q3, q4⟩ := g9.out (or_ne h (by decide)); exact ⟨B, x0, x1, q1, q2, q3.gr h1, fun h => q4 (or_ne h (by decide))⟩), (fun h h' => n8_9.out (or_ne h (by decide)) (or_ne h' (by decide)))⟩
    · -- 4
      cases ho
      obtain ⟨u5, u6, u15, u16, u17, u18, u19, u20, u21, u22, rfl, hG, f0, f1, f2, f3, f4, f5, f6, f7, g8, g9, n8_9⟩ := hI
      gi_wp2
      exact ⟨_, _, _, _, _, _, _, _, _, _, rfl, hG, (fun h => f0.out (or_ne h (by decide))), (fun h => f1.out (or_ne h (by decide))), (fun h => f2.out (or_ne h (by decide))), (fun h => f3.out (or_ne h (by decide))), (fun _ => rfl), (fun h => f5.out (or_ne h (by decide))), (fun h => f6.out (or_ne h (by decide))), (fun h => f7.out (or_ne h (by decide))), (fun h => by obtain ⟨B, x0, x1, q1, q2, q3, q4⟩ := g8.out (or_ne h (by decide)); exact ⟨B, x0, x1, q1, q2, q3, fun h => q4 (or_ne h (by decide))⟩), (fun h => by obtain ⟨B, x0, x1, q1, q2, q3, q4⟩ := g9.out (or_ne h (by decide)); exact ⟨B, x0, x1, q1, q2, q3, fun h => q4 (or_ne h (by decide))⟩), (fun h h' => n8_9.out (or_ne h (by decide)) (or_ne h' (by decide)))⟩
    · -- 5
      cases ho
      obtain ⟨u5, u6, u15, u16, u17, u18, u19, u20, u21, u22, rfl, hG, f0, f1, f2, f3, f4, f5, f6, f7, g8, g9, n8_9⟩ := hI
      have e4 := f4.out (D 4 (by kernel_rfl))
      subst e4
      obtain ⟨p0, p1, p2, p3⟩ := (kb.gr hG).four
      gi_wp2
      exact ⟨_, _, _, _, _, _, _, _, _, _, rfl, hG, (fun h => f0.out (or_ne h (by decide))), (fun h => f1.out (or_ne h (by decide))), (fun h => f2.out (or_ne h (by decide))), (fun h => f3.out (or_ne h (by decide))), (fun _ => rfl), (fun _ => rfl), (fun h => f6.out (or_ne h (by decide))), (fun h => f7.out (or_ne h (by decide))), (fun h => by obtain ⟨B, x0, x1, q1, q2, q3, q4⟩ := g8.out (or_ne h (by decide)); exact ⟨B, x0, x1, q1, q2, q3, fun h => q4 (or_ne h (by decide))⟩), (fun h => by obtain ⟨B, x0, x1, q1, q2, q3, q4⟩ := g9.out (or_ne h (by decide)); exact ⟨B, x0, x1, q1, q2, q3, fun h => q4 (or_ne h (by decide))⟩), (fun h h' => n8_9.out (or_ne h (by decide)) (or_ne h' (by decide)))⟩
    · -- 6
      cases ho
      obtain ⟨u5, u6, u15, u16, u17, u18, u19, u20, u21, u22, rfl, hG, f0, f1, f2, f3, f4, f5, f6, f7, g8, g9, n8_9⟩ := hI
      gi_wp2
      exact ⟨_, _, _, _, _, _, _, _, _, _, rfl, hG, (fun h => f0.out (or_ne h (by decide))), (fun h => f1.out (or_ne h (by decide))), (fun h => f2.out (or_ne h (by decide))), (fun h => f3.out (or_ne h (by decide))), (fun h => f4.out (or_ne h (by decide))), (fun h => f5.out (or_ne h (by decide))), (fun _ => rfl), (fun h => f7.out (or_ne h (by decide))), (fun h => by obtain ⟨B, x0, x1, q1, q2, q3, q4⟩ := g8.out (or_ne h (by decide)); exact ⟨B, x0, x1, q1, q2, q3, fun h => q4 (or_ne h (by decide))⟩), (fun h => by obtain ⟨B, x0, x1, q1, q2, q3, q4⟩ := g9.out (or_ne h (by decide)); exact ⟨B, x0, x1, q1, q2, q3, fun h => q4 (or_ne h (by decide))⟩), (fun h h' => n8_9.out (or_ne h (by decide)) (or_ne h' (by decide)))⟩
    · -- 7
      cases ho
      obtain ⟨u5, u6, u15, u16, u17, u18, u19, u20, u21, u22, rfl, hG, f0, f1, f2, f3, f4, f5, f6, f7, g8, g9, n8_9⟩ := hI
      have e5 := f5.out (D 5 (by kernel_rfl))
      subst e5
      have e6 := f6.out (D 6 (by kernel_rfl))
      subst e6
      gi_wp2_with (refine (callsIn_wide.2 (H2.out _)).mono ?_; rintro e w1 ⟨rfl, h1⟩)
      have hG' := hG.trans h1
      exact ⟨_, _, _, _, _, _, _, _, _, _, rfl, hG', (fun h => f0.out (or_ne h (by decide))), (fun h => f1.out (or_ne h (by decide))), (fun h => f2.out (or_ne h (by decide))), (fun h => f3.out (or_ne h (by decide))), (fun h => f4.out (or_ne h (by decide))), (fun _ => rfl), (fun _ => rfl), (fun _ => rfl), (fun h => by obtain ⟨B, x0, x1, q1, q2, q3, q4⟩ := g8.out (or_ne h (by decide)); exact ⟨B, x0, x1, q1, q2, q3.gr h1, fun h => q4 (or_ne h (by decide))⟩), (fun h => by obtain ⟨B, x0, x1, q1, q2, q3, q4⟩ := g9.out (or_ne h (by decide)); exact ⟨B, x0, x1, q1, q2, q3.gr h1, fun h => q4 (or_ne h (by decide))⟩), (fun h h' => n8_9.out (or_ne h (by decide)) (or_ne h' (by decide)))⟩
    · -- 8
      cases ho
      obtain ⟨u5, u6, u15, u16, u17, u18, u19, u20, u21, u22, rfl, hG, f0, f1, f2, f3, f4, f5, f6, f7, g8, g9, n8_9⟩ := hI
      gi_wp2
      have h1 := (Gr.refl wI).alloc (.cells #[Value.int .i32 0, Value.int .i32 0] 26)
      have hG' := hG.trans h1
      exact ⟨_, _, _, _, _, _, _, _, _, _, rfl, hG', (fun h => f0.out (or_ne h (by decide))), (fun h => f1.out (or_ne h (by decide))), (fun h => f2.out (or_ne h (by decide))), (fun h => f3.out (or_ne h (by decide))), (fun h => f4.out (or_ne h (by decide))), (fun h => f5.out (or_ne h (by decide))), (fun h => f6.out (or_ne h (by decide))), (fun h => f7.out (or_ne h (by decide))), (fun _ => ⟨wI.heap.size, _, _, rfl, hG.size, Bk.new wI 26 _, fun h => absurd (hdn 10 _ rfl (or_ne h (by decide)) 8 (by kernel_rfl)) hnd⟩), (fun h => by obtain ⟨B, x0, x1, q1, q2, q3, q4⟩ := g9.out (or_ne h (by decide)); exact ⟨B, x0, x1, q1, q2, q3.gr h1, fun h => q4 (or_ne h (by decide))⟩), (fun _ h => by obtain ⟨B, x0, x1, q1, q2, q3, q4⟩ := g9.out (or_ne h (by decide)); rw [q1]; intro e; have := q3.lt; cases e; omega)⟩
    · -- 9
      cases ho
      obtain ⟨u5, u6, u15, u16, u17, u18, u19, u20, u21, u22, rfl, hG, f0, f1, f2, f3, f4, f5, f6, f7, g8, g9, n8_9⟩ := hI
      gi_wp2
      have h1 := (Gr.refl wI).alloc (.cells #[Value.int .i32 0, Value.int .i32 0] 26)
      have hG' := hG.trans h1
      exact ⟨_, _, _, _, _, _, _, _, _, _, rfl, hG', (fun h => f0.out (or_ne h (by decide))), (fun h => f1.out (or_ne h (by decide))), (fun h => f2.out (or_ne h (by decide))), (fun h => f3.out (or_ne h (by decide))), (fun h => f4.out (or_ne h (by decide))), (fun h => f5.out (or_ne h (by decide))), (fun h => f6.out (or_ne h (by decide))), (fun h => f7.out (or_ne h (by decide))), (fun h => by obtain ⟨B, x0, x1, q1, q2, q3, q4⟩ := g8.out (or_ne h (by decide)); exact ⟨B, x0, x1, q1, q2, q3.gr h1, fun h => q4 (or_ne h (by decide))⟩), (fun _ => ⟨wI.heap.size, _, _, rfl, hG.size, Bk.new wI 26 _, fun h => absurd (hdn 11 _ rfl (or_ne h (by decide)) 9 (by kernel_rfl)) hnd⟩), (fun h _ => by obtain ⟨B, x0, x1, q1, q2, q3, q4⟩ := g8.out (or_ne h (by decide)); rw [q1]; intro e; have := q3.lt; cases e; omega)⟩
    · -- 10
      cases ho
      obtain ⟨u5, u6, u15, u16, u17, u18, u19, u20, u21, u22, rfl, hG, f0, f1, f2, f3, f4, f5, f6, f7, g8, g9, n8_9⟩ := hI
      have e3 := f3.out (D 3 (by kernel_rfl))
      subst e3
      obtain ⟨B8, x8_0, x8_1, e8, hB8, k8, c8⟩ := g8.out (D 8 (by kernel_rfl))
      subst e8
      have HC8 := hid0 c8
      clear c8
      obtain ⟨B9, x9_0, x9_1, e9, hB9, k9, c9⟩ := g9.out (D 9 (by kernel_rfl))
      subst e9
      have HC9 := hid0 c9
      clear c9
      have z := fun j => k8.frozen j
      have z0 := z 0
      have y0 := k8.at 0
      have z1 := z 1
      have y1 := k8.at 1
      simp only [List.getElem?_cons_zero, List.getElem?_cons_succ] at y0 y1
      clear z
      gi_wp2
      have hG' := ((hG.setCell (p := ⟨B8, 0, none⟩) hB8 (Value.int .i32 X)).setCell (p := ⟨B8, 1, none⟩) hB8 (Value.int .i32 Y))
      have hne9 : B9 ≠ B8 := fun e => n8_9.out (D 8 (by kernel_rfl)) (D 9 (by kernel_rfl)) (by rw [e])
      exact ⟨_, _, _, _, _, _, _, _, _, _, rfl, hG', (fun h => f0.out (or_ne h (by decide))), (fun h => f1.out (or_ne h (by decide))), (fun h => f2.out (or_ne h (by decide))), (fun _ => rfl), (fun h => f4.out (or_ne h (by decide))), (fun h => f5.out (or_ne h (by decide))), (fun h => f6.out (or_ne h (by decide))), (fun h => f7.out (or_ne h (by decide))), (fun _ => ⟨B8, _, _, rfl, hB8, ((k8.set 0 _).set 1 _), fun _ => ⟨rfl, rfl⟩⟩), (fun _ => ⟨B9, _, _, rfl, hB9, ((k9.other (a := ⟨B8, 0, none⟩) hne9 _).other (a := ⟨B8, 1, none⟩) hne9 _), fun h => HC9.out (or_ne h (by decide))⟩), (fun h h' => n8_9.out (or_ne h (by decide)) (or_ne h' (by decide)))⟩
    · -- 11
      cases ho
      obtain ⟨u5, u6, u15, u16, u17, u18, u19, u20, u21, u22, rfl, hG, f0, f1, f2, f3, f4, f5, f6, f7, g8, g9, n8_9⟩ := hI
      have e7 := f7.out (D 7 (by kernel_rfl))
      subst e7
      obtain ⟨B8, x8_0, x8_1, e8, hB8, k8, c8⟩ := g8.out (D 8 (by kernel_rfl))
      subst e8
      have HC8 := hid0 c8
      clear c8
      obtain ⟨B9, x9_0, x9_1, e9, hB9, k9, c9⟩ := g9.out (D 9 (by kernel_rfl))
      subst e9
      have HC9 := hid0 c9
      clear c9
      have z := fun j => k9.frozen j
      have z0 := z 0
      have y0 := k9.at 0
      have z1 := z 1
      have y1 := k9.at 1
      simp only [List.getElem?_cons_zero, List.getElem?_cons_succ] at y0 y1
      clear z
      gi_wp2
      have hG' := ((hG.setCell (p := ⟨B9, 0, none⟩) hB9 (Value.int .i32 Z)).setCell (p := ⟨B9, 1, none⟩) hB9 (Value.int .i32 U))
      have hne8 : B8 ≠ B9 := fun e => n8_9.out (D 8 (by kernel_rfl)) (D 9 (by kernel_rfl)) (by rw [e])
      exact ⟨_, _, _, _, _, _, _, _, _, _, rfl, hG', (fun h => f0.out (or_ne h (by decide))), (fun h => f1.out (or_ne h (by decide))), (fun h => f2.out (or_ne h (by decide))), (fun h => f3.out (or_ne h (by decide))), (fun h => f4.out (or_ne h (by decide))), (fun h => f5.out (or_ne h (by decide))), (fun h => f6.out (or_ne h (by decide))), (fun _ => rfl), (fun _ => ⟨B8, _, _, rfl, hB8, ((k8.other (a := ⟨B9, 0, none⟩) hne8 _).other (a := ⟨B9, 1, none⟩) hne8 _), fun h => HC8.out (or_ne h (by decide))⟩), (fun _ => ⟨B9, _, _, rfl, hB9, ((k9.set 0 _).set 1 _), fun _ => ⟨rfl, rfl⟩⟩), (fun h h' => n8_9.out (or_ne h (by decide)) (or_ne h' (by decide)))⟩

  case hend =>
    intro d' a' w' hall hI
    obtain ⟨u5, u6, u15, u16, u17, u18, u19, u20, u21, u22, rfl, hG, f0, f1, f2, f3, f4, f5, f6, f7, g8, g9, n89⟩ := hI
    simp only [List.length_cons, List.length_nil] at hall
    obtain rfl := f0.out (hall 0 (by decide))
    obtain rfl := f1.out (hall 1 (by decide))
    obtain rfl := f2.out (hall 2 (by decide))
    obtain rfl := f3.out (hall 3 (by decide))
    obtain rfl := f4.out (hall 4 (by decide))
    obtain rfl := f5.out (hall 5 (by decide))
    obtain rfl := f6.out (hall 6 (by decide))
    obtain rfl := f7.out (hall 7 (by decide))
    obtain ⟨B5, z0, z1, rfl, hB5, k5, c5⟩ := g8.out (hall 8 (by decide))
    obtain ⟨rfl, rfl⟩ := c5 (hall 10 (by decide))
    obtain ⟨B6, z2, z3, rfl, hB6, k6, c6⟩ := g9.out (hall 9 (by decide))
    obtain ⟨rfl, rfl⟩ := c6 (hall 11 (by decide))
    clear hall g8 g9 n89 c5 c6 H1 H2
    obtain ⟨p0, p1⟩ := k5.two
    obtain ⟨q0, q1⟩ := k6.two
    go_wp2
    go_ret
    refine ⟨?_, gW.trans hG⟩
    first | rfl | simp [y1, y2, y3, y4, y5]

end Go.Proofs.Ytmoddfikhipagaa
