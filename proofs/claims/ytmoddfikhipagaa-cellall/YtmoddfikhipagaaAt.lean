/- atEdge: the cells just ahead of a column's edge and at it. -/
import Derived.Test.YtmoddfikhipagaaAe
set_option linter.unusedSimpArgs false
set_option linter.unusedVariables false
namespace Go.Proofs.Ytmoddfikhipagaa
open Go.RowKit Go.Sort Go.Shelf
attribute [local go_sem] Oper.semAt_some wide_fn
attribute [local simp] wide_fn

def InvE (W : World) (b4 b5 b7 b8 b9 : Nat) (px py qx qy x s A U : Int) (d : Nat → Prop) (a : Act) (w : World) : Prop :=
  ∃ u10 u11 u14 u15 u16 u17 u18 u19 u20 u21 u22 u23 u24 u25 u26 u27 : Value, a = { tmps := (pt px py :: pt qx qy :: .int .i32 x :: .int .i64 s :: .pointer (some ⟨b4, 0, none⟩) :: .pointer (some ⟨b5, 0, none⟩) :: undef :: .pointer (some ⟨b7, 0, none⟩) :: .pointer (some ⟨b8, 0, none⟩) :: .pointer (some ⟨b9, 0, none⟩) :: u10 :: u11 :: undef :: undef :: u14 :: u15 :: u16 :: u17 :: u18 :: u19 :: u20 :: u21 :: u22 :: u23 :: u24 :: u25 :: u26 :: u27 :: undef :: undef :: undef :: undef :: undef :: undef :: undef :: undef :: undef :: undef :: undef :: undef :: undef :: undef :: undef :: undef :: undef :: undef :: undef :: undef :: undef :: undef :: undef :: undef :: undef :: undef :: undef :: undef :: undef :: undef :: undef :: []).toArray, defers := [] } ∧ Gr W w
  ∧ Hid (d 0 → u14 = .pointer (some ⟨b5, 0, none⟩))
  ∧ Hid (d 1 → u15 = .int .i32 qx)
  ∧ Hid (d 2 → u16 = .int .i64 qx)
  ∧ Hid (d 3 → u17 = .pointer (some ⟨b4, 0, none⟩))
  ∧ Hid (d 4 → u18 = .int .i32 px)
  ∧ Hid (d 5 → u19 = .int .i64 px)
  ∧ Hid (d 6 → u20 = .int .i64 A)
  ∧ Hid (d 7 → u21 = .pointer (some ⟨b5, 1, none⟩))
  ∧ Hid (d 8 → u22 = .int .i32 qy)
  ∧ Hid (d 9 → u23 = .int .i64 qy)
  ∧ Hid (d 10 → u24 = .pointer (some ⟨b4, 1, none⟩))
  ∧ Hid (d 11 → u25 = .int .i32 py)
  ∧ Hid (d 12 → u26 = .int .i64 py)
  ∧ Hid (d 13 → u27 = .int .i64 U)
  ∧ Hid (d 16 → u11 = .int .i64 U)
  ∧ Hid (d 14 → ∃ (B : Nat) (x0 : Value), u10 = .pointer (some ⟨B, 0, none⟩) ∧ W.heap.size ≤ B ∧ Bk w B 2 [x0] ∧ (d 15 → x0 = Value.int .i64 A))

def rowP (p q : C2) (s t : Int) : Int := (p.2 + t / (q.1 - p.1)) / s
def risP (p q : C2) (s x : Int) : Int := (q.2 - p.2) * (x * s - p.1)
def befP (p q : C2) (s x : Int) : C2 := (x - 1, rowP p q s (if 0 < q.2 - p.2 then risP p q s x - 1 else risP p q s x))
def theP (p q : C2) (s x : Int) : C2 := (x, rowP p q s (risP p q s x))
def latP (p : C2) : Prop := (-1073741823 ≤ p.1 ∧ p.1 ≤ 1073741823) ∧ (-1073741823 ≤ p.2 ∧ p.2 ≤ 1073741823)

set_option maxRecDepth 20000 in
set_option maxHeartbeats 8000000 in
theorem edge_raw (px py qx qy x s A U R M T1 T2 V : Int) (w : World) (hV1 : 0 < U → V = T2) (hV2 : ¬ 0 < U → V = T1)
    (eA : wrap64 (qx - px) = A) (eU : wrap64 (qy - py) = U) (w1 : wrap64 px = px) (w2 : wrap64 py = py) (w3 : wrap64 qx = qx) (w4 : wrap64 qy = qy) (w5 : wrap64 x = x)
    (eM : wrap64 (x * s) = M) (eR : wrap64 (U * wrap64 (M - px)) = R) (eR1 : wrap64 (R - 1) = R - 1) (eX : wrap32 (x - 1) = x - 1)
    (C1 : Hid (∀ b1 b2 b3 w, Bk w b1 23 [.int .i32 px, .int .i32 py] → Bk w b2 2 [.int .i64 A] → Bk w b3 2 [.int .i64 s] → Calls Try.prog 52 #[.int .i64 R, .pointer (some ⟨b1, 0, none⟩), .pointer (some ⟨b2, 0, none⟩), .pointer (some ⟨b3, 0, none⟩)] w fun e w' => e = .returned (.int .i32 T1) ∧ Gr w w'))
    (C2' : Hid (0 < U → ∀ b1 b2 b3 w, Bk w b1 23 [.int .i32 px, .int .i32 py] → Bk w b2 2 [.int .i64 A] → Bk w b3 2 [.int .i64 s] → Calls Try.prog 52 #[.int .i64 (R - 1), .pointer (some ⟨b1, 0, none⟩), .pointer (some ⟨b2, 0, none⟩), .pointer (some ⟨b3, 0, none⟩)] w fun e w' => e = .returned (.int .i32 T2) ∧ Gr w w')) :
    Calls Try.prog 49 #[pt px py, pt qx qy, .int .i32 x, .int .i64 s] w fun e w' => e = .returned (.tuple #[pt (x - 1) V, pt x T1]) ∧ Gr w w' := by
  have HV := hid0 (And.intro hV1 hV2)
  clear hV1 hV2
  go_enter Try.func49, Try.ntmps49
  go_upto_region 1 with fail
  have k4 := ((((Bk.new w 23 [.int .i32 px, .int .i32 py]).alloc (.cells #[.int .i32 qx, .int .i32 qy] 23)).alloc (.cells #[.int .i64 s] 2)).alloc (.cells #[.int .i32 0, .int .i32 0] 26)).alloc (.cells #[.int .i32 0, .int .i32 0] 26)
  have k5 := (((Bk.new (w.alloc (.cells #[.int .i32 px, .int .i32 py] 23)) 23 [.int .i32 qx, .int .i32 qy]).alloc (.cells #[.int .i64 s] 2)).alloc (.cells #[.int .i32 0, .int .i32 0] 26)).alloc (.cells #[.int .i32 0, .int .i32 0] 26)
  have k7 := ((Bk.new ((w.alloc (.cells #[.int .i32 px, .int .i32 py] 23)).alloc (.cells #[.int .i32 qx, .int .i32 qy] 23)) 2 [.int .i64 s]).alloc (.cells #[.int .i32 0, .int .i32 0] 26)).alloc (.cells #[.int .i32 0, .int .i32 0] 26)
  have k8 := (Bk.new (((w.alloc (.cells #[.int .i32 px, .int .i32 py] 23)).alloc (.cells #[.int .i32 qx, .int .i32 qy] 23)).alloc (.cells #[.int .i64 s] 2)) 26 [.int .i32 0, .int .i32 0]).alloc (.cells #[.int .i32 0, .int .i32 0] 26)
  have k9 := Bk.new ((((w.alloc (.cells #[.int .i32 px, .int .i32 py] 23)).alloc (.cells #[.int .i32 qx, .int .i32 qy] 23)).alloc (.cells #[.int .i64 s] 2)).alloc (.cells #[.int .i32 0, .int .i32 0] 26)) 26 [.int .i32 0, .int .i32 0]
  have gW : Gr w (((((w.alloc (.cells #[.int .i32 px, .int .i32 py] 23)).alloc (.cells #[.int .i32 qx, .int .i32 qy] 23)).alloc (.cells #[.int .i64 s] 2)).alloc (.cells #[.int .i32 0, .int .i32 0] 26)).alloc (.cells #[.int .i32 0, .int .i32 0] 26)) := (((((Gr.refl _).alloc _).alloc _).alloc _).alloc _).alloc _
  simp only [World.size_alloc] at k4 k5 k7 k8 k9
  generalize ((((w.alloc (.cells #[.int .i32 px, .int .i32 py] 23)).alloc (.cells #[.int .i32 qx, .int .i32 qy] 23)).alloc (.cells #[.int .i64 s] 2)).alloc (.cells #[.int .i32 0, .int .i32 0] 26)).alloc (.cells #[.int .i32 0, .int .i32 0] 26) = W at *
  have hb8 : Hid (w.heap.size ≤ w.heap.size + 1 + 1 + 1 ∧ w.heap.size ≤ w.heap.size + 1 + 1 + 1 + 1) := ⟨by omega, by omega⟩
  have hne : Hid (w.heap.size + 1 + 1 + 1 ≠ w.heap.size + 1 + 1 + 1 + 1) := by unfold Hid; omega
  have hM : Hid ((w.heap.size ≠ w.heap.size + 1 + 1 + 1 ∧ w.heap.size ≠ w.heap.size + 1 + 1 + 1 + 1) ∧ (w.heap.size + 1 + 1 ≠ w.heap.size + 1 + 1 + 1 ∧ w.heap.size + 1 + 1 ≠ w.heap.size + 1 + 1 + 1 + 1) ∧ w.heap.size + 1 + 1 + 1 < W.heap.size ∧ w.heap.size + 1 + 1 + 1 + 1 < W.heap.size) := by
    have := k8.lt
    have := k9.lt
    refine ⟨⟨?_, ?_⟩, ⟨?_, ?_⟩, ?_, ?_⟩ <;> omega
  generalize w.heap.size + 1 + 1 + 1 + 1 = b9 at *
  generalize w.heap.size + 1 + 1 + 1 = b8 at *
  generalize w.heap.size + 1 + 1 = b7 at *
  generalize w.heap.size + 1 = b5 at *
  obtain ⟨b4, hb4⟩ : ∃ b4, b4 = w.heap.size := ⟨_, rfl⟩
  rw [← hb4] at k4 ⊢
  have hM' : Hid ((b4 ≠ b8 ∧ b4 ≠ b9) ∧ (b7 ≠ b8 ∧ b7 ≠ b9) ∧ b8 < W.heap.size ∧ b9 < W.heap.size) := by rw [hb4]; exact hM
  clear hM
  clear hb4
  refine (wpIn_wide (n := 5)).1 ?_
  refine region_inv (by kernel_rfl) (by kernel_rfl) (InvE W b4 b5 b7 b8 b9 px py qx qy x s A U) ?h0 ?hstep ?hend
  case h0 =>
    exact ⟨_, _, _, _, _, _, _, _, _, _, _, _, _, _, _, _, rfl, (Gr.refl _).drew, fun h => h.elim, fun h => h.elim, fun h => h.elim, fun h => h.elim, fun h => h.elim, fun h => h.elim, fun h => h.elim, fun h => h.elim, fun h => h.elim, fun h => h.elim, fun h => h.elim, fun h => h.elim, fun h => h.elim, fun h => h.elim, fun h => h.elim, fun h => h.elim⟩
  case hstep =>
    clear C1 C2' HV k7 k8 k9 eM eR eR1 eX w5 hb8 hne gW
    intro d a w i o ho hnd D hdn hI
    have hi := (List.getElem?_eq_some_iff.1 ho).1
    simp only [List.length_cons, List.length_nil] at hi
    have : i = 0 ∨ i = 1 ∨ i = 2 ∨ i = 3 ∨ i = 4 ∨ i = 5 ∨ i = 6 ∨ i = 7 ∨ i = 8 ∨ i = 9 ∨ i = 10 ∨ i = 11 ∨ i = 12 ∨ i = 13 ∨ i = 14 ∨ i = 15 ∨ i = 16 := by omega
    rcases this with rfl | rfl | rfl | rfl | rfl | rfl | rfl | rfl | rfl | rfl | rfl | rfl | rfl | rfl | rfl | rfl | rfl
    · -- 0
      cases ho
      obtain ⟨u10, u11, u14, u15, u16, u17, u18, u19, u20, u21, u22, u23, u24, u25, u26, u27, rfl, hG, f0, f1, f2, f3, f4, f5, f6, f7, f8, f9, f10, f11, f12, f13, f16, g14⟩ := hI
      gi_wp2
      exact ⟨_, _, _, _, _, _, _, _, _, _, _, _, _, _, _, _, rfl, hG, (fun _ => rfl), (fun h => f1.out (or_ne h (by decide))), (fun h => f2.out (or_ne h (by decide))), (fun h => f3.out (or_ne h (by decide))), (fun h => f4.out (or_ne h (by decide))), (fun h => f5.out (or_ne h (by decide))), (fun h => f6.out (or_ne h (by decide))), (fun h => f7.out (or_ne h (by decide))), (fun h => f8.out (or_ne h (by decide))), (fun h => f9.out (or_ne h (by decide))), (fun h => f10.out (or_ne h (by decide))), (fun h => f11.out (or_ne h (by decide))), (fun h => f12.out (or_ne h (by decide))), (fun h => f13.out (or_ne h (by decide))), (fun h => f16.out (or_ne h (by decide))), (fun h => by obtain ⟨B, x0, q1, q2, q3, q4⟩ := g14.out (or_ne h (by decide)); exact ⟨B, x0, q1, q2, q3, fun h => q4 (or_ne h (by decide))⟩)⟩
    · -- 1
      cases ho
      obtain ⟨u10, u11, u14, u15, u16, u17, u18, u19, u20, u21, u22, u23, u24, u25, u26, u27, rfl, hG, f0, f1, f2, f3, f4, f5, f6, f7, f8, f9, f10, f11, f12, f13, f16, g14⟩ := hI
      have e0 := f0.out (D 0 (by kernel_rfl))
      subst e0
      obtain ⟨q0, q1⟩ := (k5.gr hG).two
      gi_wp2
      exact ⟨_, _, _, _, _, _, _, _, _, _, _, _, _, _, _, _, rfl, hG, (fun _ => rfl), (fun _ => rfl), (fun h => f2.out (or_ne h (by decide))), (fun h => f3.out (or_ne h (by decide))), (fun h => f4.out (or_ne h (by decide))), (fun h => f5.out (or_ne h (by decide))), (fun h => f6.out (or_ne h (by decide))), (fun h => f7.out (or_ne h (by decide))), (fun h => f8.out (or_ne h (by decide))), (fun h => f9.out (or_ne h (by decide))), (fun h => f10.out (or_ne h (by decide))), (fun h => f11.out (or_ne h (by decide))), (fun h => f12.out (or_ne h (by decide))), (fun h => f13.out (or_ne h (by decide))), (fun h => f16.out (or_ne h (by decide))), (fun h => by obtain ⟨B, x0, q1, q2, q3, q4⟩ := g14.out (or_ne h (by decide)); exact ⟨B, x0, q1, q2, q3, fun h => q4 (or_ne h (by decide))⟩)⟩
    · -- 2
      cases ho
      obtain ⟨u10, u11, u14, u15, u16, u17, u18, u19, u20, u21, u22, u23, u24, u25, u26, u27, rfl, hG, f0, f1, f2, f3, f4, f5, f6, f7, f8, f9, f10, f11, f12, f13, f16, g14⟩ := hI
      have e1 := f1.out (D 1 (by kernel_rfl))
      subst e1
      gi_wp2
      exact ⟨_, _, _, _, _, _, _, _, _, _, _, _, _, _, _, _, rfl, hG, (fun h => f0.out (or_ne h (by decide))), (fun _ => rfl), (fun _ => rfl), (fun h => f3.out (or_ne h (by decide))), (fun h => f4.out (or_ne h (by decide))), (fun h => f5.out (or_ne h (by decide))), (fun h => f6.out (or_ne h (by decide))), (fun h => f7.out (or_ne h (by decide))), (fun h => f8.out (or_ne h (by decide))), (fun h => f9.out (or_ne h (by decide))), (fun h => f10.out (or_ne h (by decide))), (fun h => f11.out (or_ne h (by decide))), (fun h => f12.out (or_ne h (by decide))), (fun h => f13.out (or_ne h (by decide))), (fun h => f16.out (or_ne h (by decide))), (fun h => by obtain ⟨B, x0, q1, q2, q3, q4⟩ := g14.out (or_ne h (by decide)); exact ⟨B, x0, q1, q2, q3, fun h => q4 (or_ne h (by decide))⟩)⟩
    · -- 3
      cases ho
      obtain ⟨u10, u11, u14, u15, u16, u17, u18, u19, u20, u21, u22, u23, u24, u25, u26, u27, rfl, hG, f0, f1, f2, f3, f4, f5, f6, f7, f8, f9, f10, f11, f12, f13, f16, g14⟩ := hI
      gi_wp2
      exact ⟨_, _, _, _, _, _, _, _, _, _, _, _, _, _, _, _, rfl, hG, (fun h => f0.out (or_ne h (by decide))), (fun h => f1.out (or_ne h (by decide))), (fun h => f2.out (or_ne h (by decide))), (fun _ => rfl), (fun h => f4.out (or_ne h (by decide))), (fun h => f5.out (or_ne h (by decide))), (fun h => f6.out (or_ne h (by decide))), (fun h => f7.out (or_ne h (by decide))), (fun h => f8.out (or_ne h (by decide))), (fun h => f9.out (or_ne h (by decide))), (fun h => f10.out (or_ne h (by decide))), (fun h => f11.out (or_ne h (by decide))), (fun h => f12.out (or_ne h (by decide))), (fun h => f13.out (or_ne h (by decide))), (fun h => f16.out (or_ne h (by decide))), (fun h => by obtain ⟨B, x0, q1, q2, q3, q4⟩ := g14.out (or_ne h (by decide)); exact ⟨B, x0, q1, q2, q3, fun h => q4 (or_ne h (by decide))⟩)⟩
    · -- 4
      cases ho
      obtain ⟨u10, u11, u14, u15, u16, u17, u18, u19, u20, u21, u22, u23, u24, u25, u26, u27, rfl, hG, f0, f1, f2, f3, f4, f5, f6, f7, f8, f9, f10, f11, f12, f13, f16, g14⟩ := hI
      have e3 := f3.out (D 3 (by kernel_rfl))
      subst e3
      obtain ⟨p0, p1⟩ := (k4.gr hG).two
      gi_wp2
      exact ⟨_, _, _, _, _, _, _, _, _, _, _, _, _, _, _, _, rfl, hG, (fun h => f0.out (or_ne h (by decide))), (fun h => f1.out (or_ne h (by decide))), (fun h => f2.out (or_ne h (by decide))), (fun _ => rfl), (fun _ => rfl), (fun h => f5.out (or_ne h (by decide))), (fun h => f6.out (or_ne h (by decide))), (fun h => f7.out (or_ne h (by decide))), (fun h => f8.out (or_ne h (by decide))), (fun h => f9.out (or_ne h (by decide))), (fun h => f10.out (or_ne h (by decide))), (fun h => f11.out (or_ne h (by decide))), (fun h => f12.out (or_ne h (by decide))), (fun h => f13.out (or_ne h (by decide))), (fun h => f16.out (or_ne h (by decide))), (fun h => by obtain ⟨B, x0, q1, q2, q3, q4⟩ := g14.out (or_ne h (by decide)); exact ⟨B, x0, q1, q2, q3, fun h => q4 (or_ne h (by decide))⟩)⟩
    · -- 5
      cases ho
      obtain ⟨u10, u11, u14, u15, u16, u17, u18, u19, u20, u21, u22, u23, u24, u25, u26, u27, rfl, hG, f0, f1, f2, f3, f4, f5, f6, f7, f8, f9, f10, f11, f12, f13, f16, g14⟩ := hI
      have e4 := f4.out (D 4 (by kernel_rfl))
      subst e4
      gi_wp2
      exact ⟨_, _, _, _, _, _, _, _, _, _, _, _, _, _, _, _, rfl, hG, (fun h => f0.out (or_ne h (by decide))), (fun h => f1.out (or_ne h (by decide))), (fun h => f2.out (or_ne h (by decide))), (fun h => f3.out (or_ne h (by decide))), (fun _ => rfl), (fun _ => rfl), (fun h => f6.out (or_ne h (by decide))), (fun h => f7.out (or_ne h (by decide))), (fun h => f8.out (or_ne h (by decide))), (fun h => f9.out (or_ne h (by decide))), (fun h => f10.out (or_ne h (by decide))), (fun h => f11.out (or_ne h (by decide))), (fun h => f12.out (or_ne h (by decide))), (fun h => f13.out (or_ne h (by decide))), (fun h => f16.out (or_ne h (by decide))), (fun h => by obtain ⟨B, x0, q1, q2, q3, q4⟩ := g14.out (or_ne h (by decide)); exact ⟨B, x0, q1, q2, q3, fun h => q4 (or_ne h (by decide))⟩)⟩
    · -- 6
      cases ho
      obtain ⟨u10, u11, u14, u15, u16, u17, u18, u19, u20, u21, u22, u23, u24, u25, u26, u27, rfl, hG, f0, f1, f2, f3, f4, f5, f6, f7, f8, f9, f10, f11, f12, f13, f16, g14⟩ := hI
      have e2 := f2.out (D 2 (by kernel_rfl))
      subst e2
      have e5 := f5.out (D 5 (by kernel_rfl))
      subst e5
      gi_wp2
      exact ⟨_, _, _, _, _, _, _, _, _, _, _, _, _, _, _, _, rfl, hG, (fun h => f0.out (or_ne h (by decide))), (fun h => f1.out (or_ne h (by decide))), (fun _ => rfl), (fun h => f3.out (or_ne h (by decide))), (fun h => f4.out (or_ne h (by decide))), (fun _ => rfl), (fun _ => rfl), (fun h => f7.out (or_ne h (by decide))), (fun h => f8.out (or_ne h (by decide))), (fun h => f9.out (or_ne h (by decide))), (fun h => f10.out (or_ne h (by decide))), (fun h => f11.out (or_ne h (by decide))), (fun h => f12.out (or_ne h (by decide))), (fun h => f13.out (or_ne h (by decide))), (fun h => f16.out (or_ne h (by decide))), (fun h => by obtain ⟨B, x0, q1, q2, q3, q4⟩ := g14.out (or_ne h (by decide)); exact ⟨B, x0, q1, q2, q3, fun h => q4 (or_ne h (by decide))⟩)⟩
    · -- 7
      cases ho
      obtain ⟨u10, u11, u14, u15, u16, u17, u18, u19, u20, u21, u22, u23, u24, u25, u26, u27, rfl, hG, f0, f1, f2, f3, f4, f5, f6, f7, f8, f9, f10, f11, f12, f13, f16, g14⟩ := hI
      gi_wp2
      exact ⟨_, _, _, _, _, _, _, _, _, _, _, _, _, _, _, _, rfl, hG, (fun h => f0.out (or_ne h (by decide))), (fun h => f1.out (or_ne h (by decide))), (fun h => f2.out (or_ne h (by decide))), (fun h => f3.out (or_ne h (by decide))), (fun h => f4.out (or_ne h (by decide))), (fun h => f5.out (or_ne h (by decide))), (fun h => f6.out (or_ne h (by decide))), (fun _ => rfl), (fun h => f8.out (or_ne h (by decide))), (fun h => f9.out (or_ne h (by decide))), (fun h => f10.out (or_ne h (by decide))), (fun h => f11.out (or_ne h (by decide))), (fun h => f12.out (or_ne h (by decide))), (fun h => f13.out (or_ne h (by decide))), (fun h => f16.out (or_ne h (by decide))), (fun h => by obtain ⟨B, x0, q1, q2, q3, q4⟩ := g14.out (or_ne h (by decide)); exact ⟨B, x0, q1, q2, q3, fun h => q4 (or_ne h (by decide))⟩)⟩
    · -- 8
      cases ho
      obtain ⟨u10, u11, u14, u15, u16, u17, u18, u19, u20, u21, u22, u23, u24, u25, u26, u27, rfl, hG, f0, f1, f2, f3, f4, f5, f6, f7, f8, f9, f10, f11, f12, f13, f16, g14⟩ := hI
      have e7 := f7.out (D 7 (by kernel_rfl))
      subst e7
      obtain ⟨q0, q1⟩ := (k5.gr hG).two
      gi_wp2
      exact ⟨_, _, _, _, _, _, _, _, _, _, _, _, _, _, _, _, rfl, hG, (fun h => f0.out (or_ne h (by decide))), (fun h => f1.out (or_ne h (by decide))), (fun h => f2.out (or_ne h (by decide))), (fun h => f3.out (or_ne h (by decide))), (fun h => f4.out (or_ne h (by decide))), (fun h => f5.out (or_ne h (by decide))), (fun h => f6.out (or_ne h (by decide))), (fun _ => rfl), (fun _ => rfl), (fun h => f9.out (or_ne h (by decide))), (fun h => f10.out (or_ne h (by decide))), (fun h => f11.out (or_ne h (by decide))), (fun h => f12.out (or_ne h (by decide))), (fun h => f13.out (or_ne h (by decide))), (fun h => f16.out (or_ne h (by decide))), (fun h => by obtain ⟨B, x0, q1, q2, q3, q4⟩ := g14.out (or_ne h (by decide)); exact ⟨B, x0, q1, q2, q3, fun h => q4 (or_ne h (by decide))⟩)⟩
    · -- 9
      cases ho
      obtain ⟨u10, u11, u14, u15, u16, u17, u18, u19, u20, u21, u22, u23, u24, u25, u26, u27, rfl, hG, f0, f1, f2, f3, f4, f5, f6, f7, f8, f9, f10, f11, f12, f13, f16, g14⟩ := hI
      have e8 := f8.out (D 8 (by kernel_rfl))
      subst e8
      gi_wp2
      exact ⟨_, _, _, _, _, _, _, _, _, _, _, _, _, _, _, _, rfl, hG, (fun h => f0.out (or_ne h (by decide))), (fun h => f1.out (or_ne h (by decide))), (fun h => f2.out (or_ne h (by decide))), (fun h => f3.out (or_ne h (by decide))), (fun h => f4.out (or_ne h (by decide))), (fun h => f5.out (or_ne h (by decide))), (fun h => f6.out (or_ne h (by decide))), (fun h => f7.out (or_ne h (by decide))), (fun _ => rfl), (fun _ => rfl), (fun h => f10.out (or_ne h (by decide))), (fun h => f11.out (or_ne h (by decide))), (fun h => f12.out (or_ne h (by decide))), (fun h => f13.out (or_ne h (by decide))), (fun h => f16.out (or_ne h (by decide))), (fun h => by obtain ⟨B, x0, q1, q2, q3, q4⟩ := g14.out (or_ne h (by decide)); exact ⟨B, x0, q1, q2, q3, fun h => q4 (or_ne h (by decide))⟩)⟩
    · -- 10
      cases ho
      obtain ⟨u10, u11, u14, u15, u16, u17, u18, u19, u20, u21, u22, u23, u24, u25, u26, u27, rfl, hG, f0, f1, f2, f3, f4, f5, f6, f7, f8, f9, f10, f11, f12, f13, f16, g14⟩ := hI
      gi_wp2
      exact ⟨_, _, _, _, _, _, _, _, _, _, _, _, _, _, _, _, rfl, hG, (fun h => f0.out (or_ne h (by decide))), (fun h => f1.out (or_ne h (by decide))), (fun h => f2.out (or_ne h (by decide))), (fun h => f3.out (or_ne h (by decide))), (fun h => f4.out (or_ne h (by decide))), (fun h => f5.out (or_ne h (by decide))), (fun h => f6.out (or_ne h (by decide))), (fun h => f7.out (or_ne h (by decide))), (fun h => f8.out (or_ne h (by decide))), (fun h => f9.out (or_ne h (by decide))), (fun _ => rfl), (fun h => f11.out (or_ne h (by decide))), (fun h => f12.out (or_ne h (by decide))), (fun h => f13.out (or_ne h (by decide))), (fun h => f16.out (or_ne h (by decide))), (fun h => by obtain ⟨B, x0, q1, q2, q3, q4⟩ := g14.out (or_ne h (by decide)); exact ⟨B, x0, q1, q2, q3, fun h => q4 (or_ne h (by decide))⟩)⟩
    · -- 11
      cases ho
      obtain ⟨u10, u11, u14, u15, u16, u17, u18, u19, u20, u21, u22, u23, u24, u25, u26, u27, rfl, hG, f0, f1, f2, f3, f4, f5, f6, f7, f8, f9, f10, f11, f12, f13, f16, g14⟩ := hI
      have e10 := f10.out (D 10 (by kernel_rfl))
      subst e10
      obtain ⟨p0, p1⟩ := (k4.gr hG).two
      gi_wp2
      exact ⟨_, _, _, _, _, _, _, _, _, _, _, _, _, _, _, _, rfl, hG, (fun h => f0.out (or_ne h (by decide))), (fun h => f1.out (or_ne h (by decide))), (fun h => f2.out (or_ne h (by decide))), (fun h => f3.out (or_ne h (by decide))), (fun h => f4.out (or_ne h (by decide))), (fun h => f5.out (or_ne h (by decide))), (fun h => f6.out (or_ne h (by decide))), (fun h => f7.out (or_ne h (by decide))), (fun h => f8.out (or_ne h (by decide))), (fun h => f9.out (or_ne h (by decide))), (fun _ => rfl), (fun _ => rfl), (fun h => f12.out (or_ne h (by decide))), (fun h => f13.out (or_ne h (by decide))), (fun h => f16.out (or_ne h (by decide))), (fun h => by obtain ⟨B, x0, q1, q2, q3, q4⟩ := g14.out (or_ne h (by decide)); exact ⟨B, x0, q1, q2, q3, fun h => q4 (or_ne h (by decide))⟩)⟩
    · -- 12
      cases ho
      obtain ⟨u10, u11, u14, u15, u16, u17, u18, u19, u20, u21, u22, u23, u24, u25, u26, u27, rfl, hG, f0, f1, f2, f3, f4, f5, f6, f7, f8, f9, f10, f11, f12, f13, f16, g14⟩ := hI
      have e11 := f11.out (D 11 (by kernel_rfl))
      subst e11
      gi_wp2
      exact ⟨_, _, _, _, _, _, _, _, _, _, _, _, _, _, _, _, rfl, hG, (fun h => f0.out (or_ne h (by decide))), (fun h => f1.out (or_ne h (by decide))), (fun h => f2.out (or_ne h (by decide))), (fun h => f3.out (or_ne h (by decide))), (fun h => f4.out (or_ne h (by decide))), (fun h => f5.out (or_ne h (by decide))), (fun h => f6.out (or_ne h (by decide))), (fun h => f7.out (or_ne h (by decide))), (fun h => f8.out (or_ne h (by decide))), (fun h => f9.out (or_ne h (by decide))), (fun h => f10.out (or_ne h (by decide))), (fun _ => rfl), (fun _ => rfl), (fun h => f13.out (or_ne h (by decide))), (fun h => f16.out (or_ne h (by decide))), (fun h => by obtain ⟨B, x0, q1, q2, q3, q4⟩ := g14.out (or_ne h (by decide)); exact ⟨B, x0, q1, q2, q3, fun h => q4 (or_ne h (by decide))⟩)⟩
    · -- 13
      cases ho
      obtain ⟨u10, u11, u14, u15, u16, u17, u18, u19, u20, u21, u22, u23, u24, u25, u26, u27, rfl, hG, f0, f1, f2, f3, f4, f5, f6, f7, f8, f9, f10, f11, f12, f13, f16, g14⟩ := hI
      have e9 := f9.out (D 9 (by kernel_rfl))
      subst e9
      have e12 := f12.out (D 12 (by kernel_rfl))
      subst e12
      gi_wp2
      exact ⟨_, _, _, _, _, _, _, _, _, _, _, _, _, _, _, _, rfl, hG, (fun h => f0.out (or_ne h (by decide))), (fun h => f1.out (or_ne h (by decide))), (fun h => f2.out (or_ne h (by decide))), (fun h => f3.out (or_ne h (by decide))), (fun h => f4.out (or_ne h (by decide))), (fun h => f5.out (or_ne h (by decide))), (fun h => f6.out (or_ne h (by decide))), (fun h => f7.out (or_ne h (by decide))), (fun h => f8.out (or_ne h (by decide))), (fun _ => rfl), (fun h => f10.out (or_ne h (by decide))), (fun h => f11.out (or_ne h (by decide))), (fun _ => rfl), (fun _ => rfl), (fun h => f16.out (or_ne h (by decide))), (fun h => by obtain ⟨B, x0, q1, q2, q3, q4⟩ := g14.out (or_ne h (by decide)); exact ⟨B, x0, q1, q2, q3, fun h => q4 (or_ne h (by decide))⟩)⟩
    · -- 14
      cases ho
      obtain ⟨u10, u11, u14, u15, u16, u17, u18, u19, u20, u21, u22, u23, u24, u25, u26, u27, rfl, hG, f0, f1, f2, f3, f4, f5, f6, f7, f8, f9, f10, f11, f12, f13, f16, g14⟩ := hI
      gi_wp2
      have h1 := (Gr.refl w).alloc (.cells #[Value.int .i64 0] 2)
      have hG' := hG.trans h1
      exact ⟨_, _, _, _, _, _, _, _, _, _, _, _, _, _, _, _, rfl, hG', (fun h => f0.out (or_ne h (by decide))), (fun h => f1.out (or_ne h (by decide))), (fun h => f2.out (or_ne h (by decide))), (fun h => f3.out (or_ne h (by decide))), (fun h => f4.out (or_ne h (by decide))), (fun h => f5.out (or_ne h (by decide))), (fun h => f6.out (or_ne h (by decide))), (fun h => f7.out (or_ne h (by decide))), (fun h => f8.out (or_ne h (by decide))), (fun h => f9.out (or_ne h (by decide))), (fun h => f10.out (or_ne h (by decide))), (fun h => f11.out (or_ne h (by decide))), (fun h => f12.out (or_ne h (by decide))), (fun h => f13.out (or_ne h (by decide))), (fun h => f16.out (or_ne h (by decide))), (fun _ => ⟨w.heap.size, _, rfl, hG.size, Bk.new w 2 _, fun h => absurd (hdn 15 _ rfl (or_ne h (by decide)) 14 (by kernel_rfl)) hnd⟩)⟩
    · -- 15
      cases ho
      obtain ⟨u10, u11, u14, u15, u16, u17, u18, u19, u20, u21, u22, u23, u24, u25, u26, u27, rfl, hG, f0, f1, f2, f3, f4, f5, f6, f7, f8, f9, f10, f11, f12, f13, f16, g14⟩ := hI
      have e6 := f6.out (D 6 (by kernel_rfl))
      subst e6
      obtain ⟨B14, x14_0, e14, hB14, k14, c14⟩ := g14.out (D 14 (by kernel_rfl))
      subst e14
      have HC14 := hid0 c14
      clear c14
      have z := fun j => k14.frozen j
      have z0 := z 0
      have y0 := k14.at 0
      simp only [List.getElem?_cons_zero, List.getElem?_cons_succ] at y0
      clear z
      gi_wp2
      have hG' := (hG.setCell (p := ⟨B14, 0, none⟩) hB14 (Value.int .i64 A))
      exact ⟨_, _, _, _, _, _, _, _, _, _, _, _, _, _, _, _, rfl, hG', (fun h => f0.out (or_ne h (by decide))), (fun h => f1.out (or_ne h (by decide))), (fun h => f2.out (or_ne h (by decide))), (fun h => f3.out (or_ne h (by decide))), (fun h => f4.out (or_ne h (by decide))), (fun h => f5.out (or_ne h (by decide))), (fun _ => rfl), (fun h => f7.out (or_ne h (by decide))), (fun h => f8.out (or_ne h (by decide))), (fun h => f9.out (or_ne h (by decide))), (fun h => f10.out (or_ne h (by decide))), (fun h => f11.out (or_ne h (by decide))), (fun h => f12.out (or_ne h (by decide))), (fun h => f13.out (or_ne h (by decide))), (fun h => f16.out (or_ne h (by decide))), (fun _ => ⟨B14, _, rfl, hB14, (k14.set 0 _), fun _ => rfl⟩)⟩
    · -- 16
      cases ho
      obtain ⟨u10, u11, u14, u15, u16, u17, u18, u19, u20, u21, u22, u23, u24, u25, u26, u27, rfl, hG, f0, f1, f2, f3, f4, f5, f6, f7, f8, f9, f10, f11, f12, f13, f16, g14⟩ := hI
      have e13 := f13.out (D 13 (by kernel_rfl))
      subst e13
      gi_wp2
      exact ⟨_, _, _, _, _, _, _, _, _, _, _, _, _, _, _, _, rfl, hG, (fun h => f0.out (or_ne h (by decide))), (fun h => f1.out (or_ne h (by decide))), (fun h => f2.out (or_ne h (by decide))), (fun h => f3.out (or_ne h (by decide))), (fun h => f4.out (or_ne h (by decide))), (fun h => f5.out (or_ne h (by decide))), (fun h => f6.out (or_ne h (by decide))), (fun h => f7.out (or_ne h (by decide))), (fun h => f8.out (or_ne h (by decide))), (fun h => f9.out (or_ne h (by decide))), (fun h => f10.out (or_ne h (by decide))), (fun h => f11.out (or_ne h (by decide))), (fun h => f12.out (or_ne h (by decide))), (fun _ => rfl), (fun _ => rfl), (fun h => by obtain ⟨B, x0, q1, q2, q3, q4⟩ := g14.out (or_ne h (by decide)); exact ⟨B, x0, q1, q2, q3, fun h => q4 (or_ne h (by decide))⟩)⟩

  case hend =>
    intro d a w' hall hI
    obtain ⟨u10, u11, u14, u15, u16, u17, u18, u19, u20, u21, u22, u23, u24, u25, u26, u27, rfl, hG, f0, f1, f2, f3, f4, f5, f6, f7, f8, f9, f10, f11, f12, f13, f16, g14⟩ := hI
    simp only [List.length_cons, List.length_nil] at hall
    obtain rfl := f0.out (hall 0 (by decide))
    obtain rfl := f1.out (hall 1 (by decide))
    obtain rfl := f2.out (hall 2 (by decide))
    obtain rfl := f3.out (hall 3 (by decide))
    obtain rfl := f4.out (hall 4 (by decide))
    obtain rfl := f5.out (hall 5 (by decide))
    obtain rfl := f6.out (hall 6 (by decide))
    obtain rfl := f7.out (hall 7 (by decide))
    obtain rfl := f8.out (hall 8 (by decide))
    obtain rfl := f9.out (hall 9 (by decide))
    obtain rfl := f10.out (hall 10 (by decide))
    obtain rfl := f11.out (hall 11 (by decide))
    obtain rfl := f12.out (hall 12 (by decide))
    obtain rfl := f13.out (hall 13 (by decide))
    obtain rfl := f16.out (hall 16 (by decide))
    obtain ⟨B10, x0, rfl, hB10, k10, c10⟩ := g14.out (hall 14 (by decide))
    obtain rfl := c10 (hall 15 (by decide))
    clear hall f0
    replace gW := gW.trans hG
    replace k4 := k4.gr hG
    replace k7 := k7.gr hG
    replace k8 := k8.gr hG
    replace k9 := k9.gr hG
    obtain ⟨⟨m1, m2⟩, ⟨m3, m4⟩, m7, m8⟩ := hM'.out
    have m5 : B10 ≠ b8 := by omega
    have m6 : B10 ≠ b9 := by omega
    clear k5 hG hB10 g14 m7 m8 hM'
    obtain ⟨p0, p1⟩ := k4.two
    have s0 := k7.one
    clear eA eU w2 w3 w4
    have hn1 := hne.out
    have hn2 := hn1.symm
    by_cases hU : 0 < U
    · have D1 := hid0 (C2'.out hU)
      have hVT := HV.out.1 hU
      subst hVT
      clear C2' HV
      go_upto_region 5 with (go_at_call 52; refine (C1.out _ _ _ _ k4 k10 k7).mono ?_; rintro e w1 ⟨rfl, g1⟩; replace k4 := k4.gr g1; replace k10 := k10.gr g1; replace k7 := k7.gr g1; replace k8 := k8.gr g1; replace k9 := k9.gr g1; replace gW := gW.trans g1; obtain ⟨a0, a1⟩ := k8.two; obtain ⟨a2, a3⟩ := k9.two; have z0 := k8.frozen 0; have z1 := k8.frozen 1; have z2 := k9.frozen 0; have z3 := k9.frozen 1; clear g1)
      have h8 := hb8.out.1
      have h9 := hb8.out.2
      replace k8 : Bk ((((w1.setCell ⟨b8, 0, none⟩ (.int .i32 (x - 1))).setCell ⟨b8, 1, none⟩ (.int .i32 T1)).setCell ⟨b9, 0, none⟩ (.int .i32 x)).setCell ⟨b9, 1, none⟩ (.int .i32 T1)) b8 26 [.int .i32 (x - 1), .int .i32 T1] := (((k8.set 0 _).set 1 _).other (a := ⟨b9, 0, none⟩) hn1 _).other (a := ⟨b9, 1, none⟩) hn1 _
      replace k9 : Bk ((((w1.setCell ⟨b8, 0, none⟩ (.int .i32 (x - 1))).setCell ⟨b8, 1, none⟩ (.int .i32 T1)).setCell ⟨b9, 0, none⟩ (.int .i32 x)).setCell ⟨b9, 1, none⟩ (.int .i32 T1)) b9 26 [.int .i32 x, .int .i32 T1] := (((k9.other (a := ⟨b8, 0, none⟩) hn2 _).other (a := ⟨b8, 1, none⟩) hn2 _).set 0 _).set 1 _
      replace gW := (((gW.setCell (p := ⟨b8, 0, none⟩) h8 (.int .i32 (x - 1))).setCell (p := ⟨b8, 1, none⟩) h8 (.int .i32 T1)).setCell (p := ⟨b9, 0, none⟩) h9 (.int .i32 x)).setCell (p := ⟨b9, 1, none⟩) h9 (.int .i32 T1)
      clear a0 a1 a2 a3 z0 z1 z2 z3 C1
      replace k4 := (((k4.other (a := ⟨b8, 0, none⟩) m1 (.int .i32 (x - 1))).other (a := ⟨b8, 1, none⟩) m1 (.int .i32 T1)).other (a := ⟨b9, 0, none⟩) m2 (.int .i32 x)).other (a := ⟨b9, 1, none⟩) m2 (.int .i32 T1)
      replace k7 := (((k7.other (a := ⟨b8, 0, none⟩) m3 (.int .i32 (x - 1))).other (a := ⟨b8, 1, none⟩) m3 (.int .i32 T1)).other (a := ⟨b9, 0, none⟩) m4 (.int .i32 x)).other (a := ⟨b9, 1, none⟩) m4 (.int .i32 T1)
      replace k10 := (((k10.other (a := ⟨b8, 0, none⟩) m5 (.int .i32 (x - 1))).other (a := ⟨b8, 1, none⟩) m5 (.int .i32 T1)).other (a := ⟨b9, 0, none⟩) m6 (.int .i32 x)).other (a := ⟨b9, 1, none⟩) m6 (.int .i32 T1)
      generalize (((w1.setCell ⟨b8, 0, none⟩ (.int .i32 (x - 1))).setCell ⟨b8, 1, none⟩ (.int .i32 T1)).setCell ⟨b9, 0, none⟩ (.int .i32 x)).setCell ⟨b9, 1, none⟩ (.int .i32 T1) = W4 at *
      obtain ⟨a0, a1⟩ := k8.two
      obtain ⟨a2, a3⟩ := k9.two
      have z0 := k8.frozen 0
      have z1 := k8.frozen 1
      have z2 := k9.frozen 0
      have z3 := k9.frozen 1
      go_upto_region 7 with (go_at_call 52; refine (D1.out _ _ _ _ k4 k10 k7).mono ?_; rintro e w1 ⟨rfl, g1⟩; replace k4 := k4.gr g1; replace k10 := k10.gr g1; replace k7 := k7.gr g1; replace k8 := k8.gr g1; replace k9 := k9.gr g1; replace gW := gW.trans g1; obtain ⟨a0, a1⟩ := k8.two; obtain ⟨a2, a3⟩ := k9.two; have z0 := k8.frozen 0; have z1 := k8.frozen 1; have z2 := k9.frozen 0; have z3 := k9.frozen 1; clear g1)
      have q0 := (k8.set 1 (.int .i32 V))
      have q9 := k9.other (a := ⟨b8, 1, none⟩) hn2 (.int .i32 V)
      have gZ := gW.setCell (p := ⟨b8, 1, none⟩) h8 (.int .i32 V)
      simp only [List.set_cons_succ, List.set_cons_zero] at q0
      clear k8 k9 gW a0 a1 a2 a3 z0 z1 z2 z3 D1 k4 k7 k10 p0 p1 s0
      generalize w1.setCell ⟨b8, 1, none⟩ (.int .i32 V) = W5 at *
      obtain ⟨a0, a1⟩ := q0.two
      obtain ⟨a2, a3⟩ := q9.two
      have z0 := q0.frozen 0
      have z1 := q0.frozen 1
      have z2 := q9.frozen 0
      have z3 := q9.frozen 1
      go_region
      have f8 : Bk ((((W5.setCell ⟨b8, 0, none⟩ (.int .i32 (x - 1))).setCell ⟨b8, 1, none⟩ (.int .i32 V)).setCell ⟨b9, 0, none⟩ (.int .i32 x)).setCell ⟨b9, 1, none⟩ (.int .i32 T1)).drew b8 26 [.int .i32 (x - 1), .int .i32 V] := (((q0.set 0 _).set 1 _).other (a := ⟨b9, 0, none⟩) hn1 _).other (a := ⟨b9, 1, none⟩) hn1 _
      have f9 : Bk ((((W5.setCell ⟨b8, 0, none⟩ (.int .i32 (x - 1))).setCell ⟨b8, 1, none⟩ (.int .i32 V)).setCell ⟨b9, 0, none⟩ (.int .i32 x)).setCell ⟨b9, 1, none⟩ (.int .i32 T1)).drew b9 26 [.int .i32 x, .int .i32 T1] := (((q9.other (a := ⟨b8, 0, none⟩) hn2 _).other (a := ⟨b8, 1, none⟩) hn2 _).set 0 _).set 1 _
      have gF : Gr w ((((W5.setCell ⟨b8, 0, none⟩ (.int .i32 (x - 1))).setCell ⟨b8, 1, none⟩ (.int .i32 V)).setCell ⟨b9, 0, none⟩ (.int .i32 x)).setCell ⟨b9, 1, none⟩ (.int .i32 T1)).drew := ((((gZ.setCell (p := ⟨b8, 0, none⟩) h8 (.int .i32 (x - 1))).setCell (p := ⟨b8, 1, none⟩) h8 (.int .i32 V)).setCell (p := ⟨b9, 0, none⟩) h9 (.int .i32 x)).setCell (p := ⟨b9, 1, none⟩) h9 (.int .i32 T1)).drew
      clear a0 a1 a2 a3 z0 z1 z2 z3
      generalize ((((W5.setCell ⟨b8, 0, none⟩ (.int .i32 (x - 1))).setCell ⟨b8, 1, none⟩ (.int .i32 V)).setCell ⟨b9, 0, none⟩ (.int .i32 x)).setCell ⟨b9, 1, none⟩ (.int .i32 T1)).drew = W6 at *
      obtain ⟨a0, a1⟩ := f8.two
      obtain ⟨a2, a3⟩ := f9.two
      go_wp2
      exact bodyPost_ret (v := .tuple #[pt (x - 1) V, pt x T1]) (by simp [results, Try.results49, go_sem, a0, a1, a2, a3]) rfl ⟨rfl, gF⟩
    · have hVT := HV.out.2 hU
      subst hVT
      clear C2' HV
      go_upto_region 5 with (go_at_call 52; refine (C1.out _ _ _ _ k4 k10 k7).mono ?_; rintro e w1 ⟨rfl, g1⟩; replace k4 := k4.gr g1; replace k10 := k10.gr g1; replace k7 := k7.gr g1; replace k8 := k8.gr g1; replace k9 := k9.gr g1; replace gW := gW.trans g1; obtain ⟨a0, a1⟩ := k8.two; obtain ⟨a2, a3⟩ := k9.two; have z0 := k8.frozen 0; have z1 := k8.frozen 1; have z2 := k9.frozen 0; have z3 := k9.frozen 1; clear g1)
      have h8 := hb8.out.1
      have h9 := hb8.out.2
      replace k8 : Bk ((((w1.setCell ⟨b8, 0, none⟩ (.int .i32 (x - 1))).setCell ⟨b8, 1, none⟩ (.int .i32 V)).setCell ⟨b9, 0, none⟩ (.int .i32 x)).setCell ⟨b9, 1, none⟩ (.int .i32 V)) b8 26 [.int .i32 (x - 1), .int .i32 V] := (((k8.set 0 _).set 1 _).other (a := ⟨b9, 0, none⟩) hn1 _).other (a := ⟨b9, 1, none⟩) hn1 _
      replace k9 : Bk ((((w1.setCell ⟨b8, 0, none⟩ (.int .i32 (x - 1))).setCell ⟨b8, 1, none⟩ (.int .i32 V)).setCell ⟨b9, 0, none⟩ (.int .i32 x)).setCell ⟨b9, 1, none⟩ (.int .i32 V)) b9 26 [.int .i32 x, .int .i32 V] := (((k9.other (a := ⟨b8, 0, none⟩) hn2 _).other (a := ⟨b8, 1, none⟩) hn2 _).set 0 _).set 1 _
      replace gW := (((gW.setCell (p := ⟨b8, 0, none⟩) h8 (.int .i32 (x - 1))).setCell (p := ⟨b8, 1, none⟩) h8 (.int .i32 V)).setCell (p := ⟨b9, 0, none⟩) h9 (.int .i32 x)).setCell (p := ⟨b9, 1, none⟩) h9 (.int .i32 V)
      clear a0 a1 a2 a3 z0 z1 z2 z3 C1
      generalize (((w1.setCell ⟨b8, 0, none⟩ (.int .i32 (x - 1))).setCell ⟨b8, 1, none⟩ (.int .i32 V)).setCell ⟨b9, 0, none⟩ (.int .i32 x)).setCell ⟨b9, 1, none⟩ (.int .i32 V) = W4 at *
      obtain ⟨a0, a1⟩ := k8.two
      obtain ⟨a2, a3⟩ := k9.two
      have z0 := k8.frozen 0
      have z1 := k8.frozen 1
      have z2 := k9.frozen 0
      have z3 := k9.frozen 1
      go_upto_region 7 with fail
      go_region
      have f8 : Bk ((((W4.setCell ⟨b8, 0, none⟩ (.int .i32 (x - 1))).setCell ⟨b8, 1, none⟩ (.int .i32 V)).setCell ⟨b9, 0, none⟩ (.int .i32 x)).setCell ⟨b9, 1, none⟩ (.int .i32 V)).drew b8 26 [.int .i32 (x - 1), .int .i32 V] := (((k8.set 0 _).set 1 _).other (a := ⟨b9, 0, none⟩) hn1 _).other (a := ⟨b9, 1, none⟩) hn1 _
      have f9 : Bk ((((W4.setCell ⟨b8, 0, none⟩ (.int .i32 (x - 1))).setCell ⟨b8, 1, none⟩ (.int .i32 V)).setCell ⟨b9, 0, none⟩ (.int .i32 x)).setCell ⟨b9, 1, none⟩ (.int .i32 V)).drew b9 26 [.int .i32 x, .int .i32 V] := (((k9.other (a := ⟨b8, 0, none⟩) hn2 _).other (a := ⟨b8, 1, none⟩) hn2 _).set 0 _).set 1 _
      have gF : Gr w ((((W4.setCell ⟨b8, 0, none⟩ (.int .i32 (x - 1))).setCell ⟨b8, 1, none⟩ (.int .i32 V)).setCell ⟨b9, 0, none⟩ (.int .i32 x)).setCell ⟨b9, 1, none⟩ (.int .i32 V)).drew := ((((gW.setCell (p := ⟨b8, 0, none⟩) h8 (.int .i32 (x - 1))).setCell (p := ⟨b8, 1, none⟩) h8 (.int .i32 V)).setCell (p := ⟨b9, 0, none⟩) h9 (.int .i32 x)).setCell (p := ⟨b9, 1, none⟩) h9 (.int .i32 V)).drew
      clear a0 a1 a2 a3 z0 z1 z2 z3
      generalize ((((W4.setCell ⟨b8, 0, none⟩ (.int .i32 (x - 1))).setCell ⟨b8, 1, none⟩ (.int .i32 V)).setCell ⟨b9, 0, none⟩ (.int .i32 x)).setCell ⟨b9, 1, none⟩ (.int .i32 V)).drew = W6 at *
      obtain ⟨a0, a1⟩ := f8.two
      obtain ⟨a2, a3⟩ := f9.two
      go_wp2
      exact bodyPost_ret (v := .tuple #[pt (x - 1) V, pt x V]) (by simp [results, Try.results49, go_sem, a0, a1, a2, a3]) rfl ⟨rfl, gF⟩
end Go.Proofs.Ytmoddfikhipagaa
