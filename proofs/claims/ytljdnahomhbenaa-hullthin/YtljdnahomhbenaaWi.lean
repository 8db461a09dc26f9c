/- The reference's cmp of fractions, and Within. -/
import Derived.Test.YtljdnahomhbenaaOf2
namespace Go.Proofs.Ytljdnahomhbenaa
section
set_option linter.unusedSimpArgs false
set_option linter.unusedVariables false
open Go.RowKit Go.Sort
attribute [local go_sem] Oper.semAt_some wide_fn
attribute [local simp] wide_fn

set_option maxRecDepth 20000 in
def InvK (K : Nat) (W : World) (b4 b5 b6 b7 : Nat) (an ad bn bd : Int) (r1 : Bool) (o1 : Option Addr) (l1 c1 : Nat) (r2 : Bool) (o2 : Option Addr) (l2 c2 : Nat) (r3 : Bool) (o3 : Option Addr) (l3 c3 : Nat) (r4 : Bool) (o4 : Option Addr) (l4 c4 : Nat) (u0 u1 u2 u3 u4 u5 u6 u7 : Value) (d : Nat → Prop) (act : Act) (w : World) : Prop :=
  ∃ u8 u9 u10 u11 u12 u13 u14 u15 : Value, act = { tmps := (u0 :: u1 :: u2 :: u3 :: u4 :: u5 :: u6 :: u7 :: u8 :: u9 :: u10 :: u11 :: u12 :: u13 :: u14 :: u15 :: []).toArray, defers := [] } ∧ Below K W w
  ∧ Hid (Bk w b4 (.bool r1) (.slice o1 l1 c1))
  ∧ Hid (Bk w b5 (.bool r2) (.slice o2 l2 c2))
  ∧ Hid (Bk w b6 (.bool r3) (.slice o3 l3 c3))
  ∧ Hid (Bk w b7 (.bool r4) (.slice o4 l4 c4))
  ∧ Hid (Nm w (.agg #[.bool r1, .slice o1 l1 c1]) an)
  ∧ Hid (Nm w (.agg #[.bool r2, .slice o2 l2 c2]) ad)
  ∧ Hid (Nm w (.agg #[.bool r3, .slice o3 l3 c3]) bn)
  ∧ Hid (Nm w (.agg #[.bool r4, .slice o4 l4 c4]) bd)
  ∧ Hid (d 0 → u9 = .agg #[.bool r1, .slice o1 l1 c1])
  ∧ Hid (d 1 → u10 = .agg #[.bool r4, .slice o4 l4 c4])
  ∧ Hid (d 2 → Nm w u11 (an * bd))
  ∧ Hid (d 3 → u12 = .agg #[.bool r3, .slice o3 l3 c3])
  ∧ Hid (d 4 → u13 = .agg #[.bool r2, .slice o2 l2 c2])
  ∧ Hid (d 5 → Nm w u14 (bn * ad))
  ∧ Hid (d 6 → u15 = .int .i64 (cmpI (an * bd) (bn * ad)))
  ∧ Hid (d 7 → u8 = .int .i64 (cmpI (an * bd) (bn * ad)))

set_option maxRecDepth 20000 in
set_option maxHeartbeats 8000000 in
theorem rfcmp_any (x1 x2 x3 x4 : Value) (an ad bn bd : Int) (w : World) (m1 : Nm w x1 an) (m2 : Nm w x2 ad) (m3 : Nm w x3 bn) (m4 : Nm w x4 bd) (s1 : small an) (s2 : small ad) (s3 : small bn) (s4 : small bd) :
    Calls Try.prog 79 #[x1, x2, x3, x4] w fun e w' => e = .returned (.int .i64 (cmpI (an * bd) (bn * ad))) ∧ Below w.heap.size w w' := by
  obtain ⟨r1, o1, l1, c1, rfl, n1⟩ := m1.shape
  obtain ⟨r2, o2, l2, c2, rfl, n2⟩ := m2.shape
  obtain ⟨r3, o3, l3, c3, rfl, n3⟩ := m3.shape
  obtain ⟨r4, o4, l4, c4, rfl, n4⟩ := m4.shape
  clear m1 m2 m3 m4
  replace s1 := hid0 s1
  replace s2 := hid0 s2
  replace s3 := hid0 s3
  replace s4 := hid0 s4
  have hb : Below w.heap.size w ((((w.alloc (.cells #[.bool r1, .slice o1 l1 c1] 53)).alloc (.cells #[.bool r2, .slice o2 l2 c2] 53)).alloc (.cells #[.bool r3, .slice o3 l3 c3] 53)).alloc (.cells #[.bool r4, .slice o4 l4 c4] 53)) := (((((Gr.refl _).alloc _).alloc _).alloc _).alloc _).below
  have m1 := hid0 (n1.out.mono hb)
  have m2 := hid0 (n2.out.mono hb)
  have m3 := hid0 (n3.out.mono hb)
  have m4 := hid0 (n4.out.mono hb)
  have k4 : Hid (Bk ((((w.alloc (.cells #[.bool r1, .slice o1 l1 c1] 53)).alloc (.cells #[.bool r2, .slice o2 l2 c2] 53)).alloc (.cells #[.bool r3, .slice o3 l3 c3] 53)).alloc (.cells #[.bool r4, .slice o4 l4 c4] 53)) w.heap.size (.bool r1) (.slice o1 l1 c1)) := ((((Bk.new w _ _).alloc _).alloc _).alloc _)
  have k5 : Hid (Bk ((((w.alloc (.cells #[.bool r1, .slice o1 l1 c1] 53)).alloc (.cells #[.bool r2, .slice o2 l2 c2] 53)).alloc (.cells #[.bool r3, .slice o3 l3 c3] 53)).alloc (.cells #[.bool r4, .slice o4 l4 c4] 53)) (w.heap.size + 1) (.bool r2) (.slice o2 l2 c2)) := by unfold Hid; simpa using (((Bk.new (w.alloc (.cells #[.bool r1, .slice o1 l1 c1] 53)) (.bool r2) (.slice o2 l2 c2)).alloc (.cells #[.bool r3, .slice o3 l3 c3] 53)).alloc (.cells #[.bool r4, .slice o4 l4 c4] 53))
  have k6 : Hid (Bk ((((w.alloc (.cells #[.bool r1, .slice o1 l1 c1] 53)).alloc (.cells #[.bool r2, .slice o2 l2 c2] 53)).alloc (.cells #[.bool r3, .slice o3 l3 c3] 53)).alloc (.cells #[.bool r4, .slice o4 l4 c4] 53)) (w.heap.size + 1 + 1) (.bool r3) (.slice o3 l3 c3)) := by unfold Hid; simpa using ((Bk.new ((w.alloc (.cells #[.bool r1, .slice o1 l1 c1] 53)).alloc (.cells #[.bool r2, .slice o2 l2 c2] 53)) (.bool r3) (.slice o3 l3 c3)).alloc (.cells #[.bool r4, .slice o4 l4 c4] 53))
  have k7 : Hid (Bk ((((w.alloc (.cells #[.bool r1, .slice o1 l1 c1] 53)).alloc (.cells #[.bool r2, .slice o2 l2 c2] 53)).alloc (.cells #[.bool r3, .slice o3 l3 c3] 53)).alloc (.cells #[.bool r4, .slice o4 l4 c4] 53)) (w.heap.size + 1 + 1 + 1) (.bool r4) (.slice o4 l4 c4)) := by unfold Hid; simpa using Bk.new (((w.alloc (.cells #[.bool r1, .slice o1 l1 c1] 53)).alloc (.cells #[.bool r2, .slice o2 l2 c2] 53)).alloc (.cells #[.bool r3, .slice o3 l3 c3] 53)) (.bool r4) (.slice o4 l4 c4)
  clear n1 n2 n3 n4
  go_enter Try.func79, Try.ntmps79
  go_upto_region 1 with fail
  generalize ((((w.alloc (.cells #[.bool r1, .slice o1 l1 c1] 53)).alloc (.cells #[.bool r2, .slice o2 l2 c2] 53)).alloc (.cells #[.bool r3, .slice o3 l3 c3] 53)).alloc (.cells #[.bool r4, .slice o4 l4 c4] 53)) = W at *
  obtain ⟨b7, e7⟩ : ∃ b7, b7 = w.heap.size + 1 + 1 + 1 := ⟨_, rfl⟩
  obtain ⟨b6, e6⟩ : ∃ b6, b6 = w.heap.size + 1 + 1 := ⟨_, rfl⟩
  obtain ⟨b5, e5⟩ : ∃ b5, b5 = w.heap.size + 1 := ⟨_, rfl⟩
  obtain ⟨b4, e4⟩ : ∃ b4, b4 = w.heap.size := ⟨_, rfl⟩
  rw [← e7] at k7 ⊢
  rw [← e6] at k6 ⊢
  rw [← e5] at k5 ⊢
  rw [← e4] at k4 ⊢
  clear e4 e5 e6 e7
  obtain ⟨nF, hnF⟩ : ∃ nF : Nat, 5 ≤ nF := ⟨5, by omega⟩
  have h1n : 1 ≤ nF := by omega
  refine (wpIn_wide (n := nF)).1 ?_
  refine region_inv (by kernel_rfl) (by kernel_rfl) (InvK w.heap.size w b4 b5 b6 b7 an ad bn bd r1 o1 l1 c1 r2 o2 l2 c2 r3 o3 l3 c3 r4 o4 l4 c4 (.agg #[.bool r1, .slice o1 l1 c1]) (.agg #[.bool r2, .slice o2 l2 c2]) (.agg #[.bool r3, .slice o3 l3 c3]) (.agg #[.bool r4, .slice o4 l4 c4]) (.pointer (some ⟨b4, 0, none⟩)) (.pointer (some ⟨b5, 0, none⟩)) (.pointer (some ⟨b6, 0, none⟩)) (.pointer (some ⟨b7, 0, none⟩))) ?h0 ?hstep ?hend
  case h0 =>
    exact ⟨_, _, _, _, _, _, _, _, rfl, hb.drew, k4.out, k5.out, k6.out, k7.out, m1.out.drew, m2.out.drew, m3.out.drew, m4.out.drew, fun h => h.elim, fun h => h.elim, fun h => h.elim, fun h => h.elim, fun h => h.elim, fun h => h.elim, fun h => h.elim, fun h => h.elim⟩
  case hstep =>
    intro d' a' wI i o ho hnd D hdn hI
    have hi := (List.getElem?_eq_some_iff.1 ho).1
    simp only [List.length_cons, List.length_nil] at hi
    have : i = 0 ∨ i = 1 ∨ i = 2 ∨ i = 3 ∨ i = 4 ∨ i = 5 ∨ i = 6 ∨ i = 7 := by omega
    clear hi
    rcases this with rfl | rfl | rfl | rfl | rfl | rfl | rfl | rfl
    · -- 0
      cases ho
      obtain ⟨u8, u9, u10, u11, u12, u13, u14, u15, rfl, hb', k4, k5, k6, k7, m1, m2, m3, m4, f0, f1, f2, f3, f4, f5, f6, f7⟩ := hI
      have z0 := k4.out.c0
      have z1 := k4.out.c1
      gi_wp2
      exact ⟨_, _, _, _, _, _, _, _, rfl, hb', k4, k5, k6, k7, m1, m2, m3, m4, (fun _ => rfl), (fun h => f1.out (or_ne h (by decide))), (fun h => f2.out (or_ne h (by decide))), (fun h => f3.out (or_ne h (by decide))), (fun h => f4.out (or_ne h (by decide))), (fun h => f5.out (or_ne h (by decide))), (fun h => f6.out (or_ne h (by decide))), (fun h => f7.out (or_ne h (by decide)))⟩
    · -- 1
      cases ho
      obtain ⟨u8, u9, u10, u11, u12, u13, u14, u15, rfl, hb', k4, k5, k6, k7, m1, m2, m3, m4, f0, f1, f2, f3, f4, f5, f6, f7⟩ := hI
      have z0 := k7.out.c0
      have z1 := k7.out.c1
      gi_wp2
      exact ⟨_, _, _, _, _, _, _, _, rfl, hb', k4, k5, k6, k7, m1, m2, m3, m4, (fun h => f0.out (or_ne h (by decide))), (fun _ => rfl), (fun h => f2.out (or_ne h (by decide))), (fun h => f3.out (or_ne h (by decide))), (fun h => f4.out (or_ne h (by decide))), (fun h => f5.out (or_ne h (by decide))), (fun h => f6.out (or_ne h (by decide))), (fun h => f7.out (or_ne h (by decide)))⟩
    · -- 2
      cases ho
      obtain ⟨u8, u9, u10, u11, u12, u13, u14, u15, rfl, hb', k4, k5, k6, k7, m1, m2, m3, m4, f0, f1, f2, f3, f4, f5, f6, f7⟩ := hI
      have e0 := f0.out (D 0 (by kernel_rfl))
      subst e0
      have e1 := f1.out (D 1 (by kernel_rfl))
      subst e1
      gi_wp2_with (refine (callsIn_wide.2 (mul_num _ _ an bd _ m1.out m4.out s1.out s4.out)).mono ?_; rintro e w1 ⟨z, rfl, hz, h1⟩)
      exact ⟨_, _, _, _, _, _, _, _, rfl, (hb'.trans (h1.mono hb'.size)), (k4.out.mono h1 k4.out.lt), (k5.out.mono h1 k5.out.lt), (k6.out.mono h1 k6.out.lt), (k7.out.mono h1 k7.out.lt), (m1.out.mono h1), (m2.out.mono h1), (m3.out.mono h1), (m4.out.mono h1), (fun _ => rfl), (fun _ => rfl), (fun _ => hz), (fun h => f3.out (or_ne h (by decide))), (fun h => f4.out (or_ne h (by decide))), (fun h => (f5.out (or_ne h (by decide))).mono h1), (fun h => f6.out (or_ne h (by decide))), (fun h => f7.out (or_ne h (by decide)))⟩
    · -- 3
      cases ho
      obtain ⟨u8, u9, u10, u11, u12, u13, u14, u15, rfl, hb', k4, k5, k6, k7, m1, m2, m3, m4, f0, f1, f2, f3, f4, f5, f6, f7⟩ := hI
      have z0 := k6.out.c0
      have z1 := k6.out.c1
      gi_wp2
      exact ⟨_, _, _, _, _, _, _, _, rfl, hb', k4, k5, k6, k7, m1, m2, m3, m4, (fun h => f0.out (or_ne h (by decide))), (fun h => f1.out (or_ne h (by decide))), (fun h => f2.out (or_ne h (by decide))), (fun _ => rfl), (fun h => f4.out (or_ne h (by decide))), (fun h => f5.out (or_ne h (by decide))), (fun h => f6.out (or_ne h (by decide))), (fun h => f7.out (or_ne h (by decide)))⟩
    · -- 4
      cases ho
      obtain ⟨u8, u9, u10, u11, u12, u13, u14, u15, rfl, hb', k4, k5, k6, k7, m1, m2, m3, m4, f0, f1, f2, f3, f4, f5, f6, f7⟩ := hI
      have z0 := k5.out.c0
      have z1 := k5.out.c1
      gi_wp2
      exact ⟨_, _, _, _, _, _, _, _, rfl, hb', k4, k5, k6, k7, m1, m2, m3, m4, (fun h => f0.out (or_ne h (by decide))), (fun h => f1.out (or_ne h (by decide))), (fun h => f2.out (or_ne h (by decide))), (fun h => f3.out (or_ne h (by decide))), (fun _ => rfl), (fun h => f5.out (or_ne h (by decide))), (fun h => f6.out (or_ne h (by decide))), (fun h => f7.out (or_ne h (by decide)))⟩
    · -- 5
      cases ho
      obtain ⟨u8, u9, u10, u11, u12, u13, u14, u15, rfl, hb', k4, k5, k6, k7, m1, m2, m3, m4, f0, f1, f2, f3, f4, f5, f6, f7⟩ := hI
      have e3 := f3.out (D 3 (by kernel_rfl))
      subst e3
      have e4 := f4.out (D 4 (by kernel_rfl))
      subst e4
      gi_wp2_with (refine (callsIn_wide.2 (mul_num _ _ bn ad _ m3.out m2.out s3.out s2.out)).mono ?_; rintro e w1 ⟨z, rfl, hz, h1⟩)
      exact ⟨_, _, _, _, _, _, _, _, rfl, (hb'.trans (h1.mono hb'.size)), (k4.out.mono h1 k4.out.lt), (k5.out.mono h1 k5.out.lt), (k6.out.mono h1 k6.out.lt), (k7.out.mono h1 k7.out.lt), (m1.out.mono h1), (m2.out.mono h1), (m3.out.mono h1), (m4.out.mono h1), (fun h => f0.out (or_ne h (by decide))), (fun h => f1.out (or_ne h (by decide))), (fun h => (f2.out (or_ne h (by decide))).mono h1), (fun _ => rfl), (fun _ => rfl), (fun _ => hz), (fun h => f6.out (or_ne h (by decide))), (fun h => f7.out (or_ne h (by decide)))⟩
    · -- 6
      cases ho
      obtain ⟨u8, u9, u10, u11, u12, u13, u14, u15, rfl, hb', k4, k5, k6, k7, m1, m2, m3, m4, f0, f1, f2, f3, f4, f5, f6, f7⟩ := hI
      have e2 := f2.out (D 2 (by kernel_rfl))
      obtain ⟨r2, o2, l2, c2, rfl, e2'⟩ := e2.shape
      clear e2
      have e5 := f5.out (D 5 (by kernel_rfl))
      obtain ⟨r5, o5, l5, c5, rfl, e5'⟩ := e5.shape
      clear e5
      gi_wp2_with (refine (callsIn_wide.2 (cmp_num _ _ (an * bd) (bn * ad) _ e2'.out e5'.out)).mono ?_; rintro e w1 ⟨rfl, g1⟩; have h1 := g1.below)
      exact ⟨_, _, _, _, _, _, _, _, rfl, (hb'.trans (h1.mono hb'.size)), (k4.out.mono h1 k4.out.lt), (k5.out.mono h1 k5.out.lt), (k6.out.mono h1 k6.out.lt), (k7.out.mono h1 k7.out.lt), (m1.out.mono h1), (m2.out.mono h1), (m3.out.mono h1), (m4.out.mono h1), (fun h => f0.out (or_ne h (by decide))), (fun h => f1.out (or_ne h (by decide))), (fun _ => e2'.out.mono h1), (fun h => f3.out (or_ne h (by decide))), (fun h => f4.out (or_ne h (by decide))), (fun _ => e5'.out.mono h1), (fun _ => rfl), (fun h => f7.out (or_ne h (by decide)))⟩
    · -- 7
      cases ho
      obtain ⟨u8, u9, u10, u11, u12, u13, u14, u15, rfl, hb', k4, k5, k6, k7, m1, m2, m3, m4, f0, f1, f2, f3, f4, f5, f6, f7⟩ := hI
      have e6 := f6.out (D 6 (by kernel_rfl))
      subst e6
      gi_wp2
      exact ⟨_, _, _, _, _, _, _, _, rfl, hb', k4, k5, k6, k7, m1, m2, m3, m4, (fun h => f0.out (or_ne h (by decide))), (fun h => f1.out (or_ne h (by decide))), (fun h => f2.out (or_ne h (by decide))), (fun h => f3.out (or_ne h (by decide))), (fun h => f4.out (or_ne h (by decide))), (fun h => f5.out (or_ne h (by decide))), (fun _ => rfl), (fun _ => rfl)⟩
  case hend =>
    intro d' a' w' hall hI
    obtain ⟨u8, u9, u10, u11, u12, u13, u14, u15, rfl, hb', k4, k5, k6, k7, m1, m2, m3, m4, f0, f1, f2, f3, f4, f5, f6, f7⟩ := hI
    simp only [List.length_cons, List.length_nil] at hall
    have e7 := f7.out (hall 7 (by decide))
    subst e7
    clear hall f0 f1 f2 f3 f4 f5 f6 f7
    go_wp2
    go_ret
    exact ⟨rfl, hb'⟩
set_option maxRecDepth 20000 in
def InvW (K : Nat) (W : World) (b9 b10 b11 : Nat) (nn dd tol : Int) (r1 : Bool) (o1 : Option Addr) (l1 c1 : Nat) (r2 : Bool) (o2 : Option Addr) (l2 c2 : Nat) (r3 : Bool) (o3 : Option Addr) (l3 c3 : Nat) (u0 u1 u2 u3 u4 u5 u6 u7 u9 u10 u11 u12 u13 u14 u15 u16 u17 u18 u19 u20 : Value) (d : Nat → Prop) (act : Act) (w : World) : Prop :=
  ∃ u8 u21 u22 u23 u24 u25 u26 u27 u28 : Value, act = { tmps := (u0 :: u1 :: u2 :: u3 :: u4 :: u5 :: u6 :: u7 :: u8 :: u9 :: u10 :: u11 :: u12 :: u13 :: u14 :: u15 :: u16 :: u17 :: u18 :: u19 :: u20 :: u21 :: u22 :: u23 :: u24 :: u25 :: u26 :: u27 :: u28 :: []).toArray, defers := [] } ∧ Below K W w
  ∧ Hid (Bk w b9 (.bool r1) (.slice o1 l1 c1))
  ∧ Hid (Bk w b10 (.bool r2) (.slice o2 l2 c2))
  ∧ Hid (Bk w b11 (.bool r3) (.slice o3 l3 c3))
  ∧ Hid (Nm w (.agg #[.bool r1, .slice o1 l1 c1]) nn)
  ∧ Hid (Nm w (.agg #[.bool r2, .slice o2 l2 c2]) dd)
  ∧ Hid (Nm w (.agg #[.bool r3, .slice o3 l3 c3]) tol)
  ∧ Hid (d 0 → u21 = .agg #[.bool r1, .slice o1 l1 c1])
  ∧ Hid (d 1 → u22 = .agg #[.bool r2, .slice o2 l2 c2])
  ∧ Hid (d 2 → u23 = .agg #[.bool r3, .slice o3 l3 c3])
  ∧ Hid (d 3 → u24 = .agg #[.bool r3, .slice o3 l3 c3])
  ∧ Hid (d 4 → Nm w u25 (tol * tol))
  ∧ Hid (d 5 → Nm w u26 (1))
  ∧ Hid (d 6 → u27 = .int .i64 (cmpI nn (tol * tol * dd)))
  ∧ Hid (d 7 → u28 = .bool (decide (cmpI nn (tol * tol * dd) ≤ 0)))
  ∧ Hid (d 8 → u8 = .bool (decide (cmpI nn (tol * tol * dd) ≤ 0)))

theorem ref_bd {a b p : Int × Int} (ha : latP a) (hb : latP b) (hp : latP p) : small (refF a b p).1 ∧ small (refF a b p).2 := by
  have h1 := d2_bd ha hp
  have h2 := d2_bd hb hp
  have h3 := d2_bd ha hb
  have h4 := cr_bd ha hb hp
  have h5 : (cr a b p * cr a b p).natAbs ≤ 9223372019674906632 * 9223372019674906632 := by
    rw [Int.natAbs_mul]
    exact Nat.mul_le_mul (by omega) (by omega)
  unfold refF
  split
  · exact ⟨small_256 (by dsimp only; omega) (by dsimp only; omega), small_256 (by dsimp only; omega) (by dsimp only; omega)⟩
  · split
    · exact ⟨small_256 (by dsimp only; omega) (by dsimp only; omega), small_256 (by dsimp only; omega) (by dsimp only; omega)⟩
    · refine ⟨small_256 ?_ ?_, small_256 (by dsimp only; omega) (by dsimp only; omega)⟩
      · dsimp only
        generalize cr a b p * cr a b p = z at *
        omega
      · dsimp only
        generalize cr a b p * cr a b p = z at *
        omega
theorem cmp_le2 (x y : Int) : decide (cmpI x y ≤ 0) = decide (x ≤ y) := by
  unfold cmpI
  repeat' split
  all_goals (simp only [decide_eq_decide]; omega)
def witB (a b p : Int × Int) (tol : Int) : Bool := decide (offI a b p ≤ tol * tol * scl a b)
set_option maxRecDepth 20000 in
set_option maxHeartbeats 8000000 in
theorem rwithin_any (a b p : Int × Int) (tol : Int) (ha : latP a) (hb0 : latP b) (hp : latP p) (ht : 0 ≤ tol ∧ tol ≤ 3037000498) (w : World) :
    Calls Try.prog 80 #[pt a.1 a.2, pt b.1 b.2, pt p.1 p.2, .int .i64 tol] w fun e w' => e = .returned (.bool (witB a b p tol)) ∧ Below w.heap.size w w' := by
  have RO := hid0 (fun w => roff_any a b p ha hb0 hp w)
  have OT := hid0 (fun w => of_num tol w (by omega) (by omega))
  obtain ⟨s1', s2'⟩ := ref_bd ha hb0 hp
  have s1 := hid0 s1'
  have s2 := hid0 s2'
  have s3 : Hid (small tol) := small_256 (by omega) (by omega)
  have s4 : Hid (small (tol * tol)) := by
    have h := Int.mul_le_mul ht.2 ht.2 ht.1 (by omega : (0 : Int) ≤ 3037000498)
    have h' := Int.mul_nonneg ht.1 ht.1
    generalize tol * tol = z at *
    exact small_256 (by omega) (by omega)
  have s5 : Hid (small 1) := small_256 (by omega) (by omega)
  have EW : Hid (decide (cmpI (refF a b p).1 (tol * tol * (refF a b p).2) ≤ 0) = witB a b p tol) := by
    unfold Hid witB
    rw [cmp_le2, decide_eq_decide]
    exact within_scale a b p (tol * tol)
  clear s1' s2' ha hb0 hp ht
  generalize (refF a b p).1 = nn at *
  generalize (refF a b p).2 = dd at *
  generalize witB a b p tol = RES at *
  have g0 := ((((Gr.refl w).alloc (.cells #[.int .i32 a.1, .int .i32 a.2] 28)).alloc (.cells #[.int .i32 b.1, .int .i32 b.2] 28)).alloc (.cells #[.int .i32 p.1, .int .i32 p.2] 28))
  have h4 := ((Hs.new w 28 #[.int .i32 a.1, .int .i32 a.2]).gr ((Gr.refl _).alloc (.cells #[.int .i32 b.1, .int .i32 b.2] 28))).gr ((Gr.refl _).alloc (.cells #[.int .i32 p.1, .int .i32 p.2] 28))
  have h5 := (Hs.new (w.alloc (.cells #[.int .i32 a.1, .int .i32 a.2] 28)) 28 #[.int .i32 b.1, .int .i32 b.2]).gr ((Gr.refl _).alloc (.cells #[.int .i32 p.1, .int .i32 p.2] 28))
  have h6 := Hs.new ((w.alloc (.cells #[.int .i32 a.1, .int .i32 a.2] 28)).alloc (.cells #[.int .i32 b.1, .int .i32 b.2] 28)) 28 #[.int .i32 p.1, .int .i32 p.2]
  rw [World.size_alloc] at h5
  rw [World.size_alloc, World.size_alloc] at h6
  go_enter Try.func80, Try.ntmps80
  go_upto_region 1 with fail
  generalize (((w.alloc (.cells #[.int .i32 a.1, .int .i32 a.2] 28)).alloc (.cells #[.int .i32 b.1, .int .i32 b.2] 28)).alloc (.cells #[.int .i32 p.1, .int .i32 p.2] 28)) = W0 at *
  obtain ⟨b6, e6⟩ : ∃ b6, b6 = w.heap.size + 1 + 1 := ⟨_, rfl⟩
  obtain ⟨b5, e5⟩ : ∃ b5, b5 = w.heap.size + 1 := ⟨_, rfl⟩
  obtain ⟨b4, e4⟩ : ∃ b4, b4 = w.heap.size := ⟨_, rfl⟩
  rw [← e6] at h6 ⊢
  rw [← e5] at h5 ⊢
  rw [← e4] at h4 ⊢
  clear e4 e5 e6
  have z0 := h4.cell (i := 0) rfl
  have z1 := h4.cell (i := 1) rfl
  have y0 := h5.cell (i := 0) rfl
  have y1 := h5.cell (i := 1) rfl
  have x0 := h6.cell (i := 0) rfl
  have x1 := h6.cell (i := 1) rfl
  clear h4 h5 h6
  go_upto_region 2 with (go_at_call 78; refine (RO.out _).mono ?_; rintro e w1 ⟨v1, v2, rfl, n1, n2, g1⟩; obtain ⟨r1, o1, l1, c1, rfl, n1'⟩ := n1.shape; obtain ⟨r2, o2, l2, c2, rfl, n2'⟩ := n2.shape; clear RO n1 n2)
  clear z0 z1 y0 y1 x0 x1
  have gA := (((Gr.refl w1).alloc (.cells #[.bool r1, .slice o1 l1 c1] 53)).alloc (.cells #[.bool r2, .slice o2 l2 c2] 53)).below
  have k9 := hid0 ((Bk.new w1 (.bool r1) (.slice o1 l1 c1)).alloc (.cells #[.bool r2, .slice o2 l2 c2] 53))
  have k10 : Hid (Bk ((w1.alloc (.cells #[.bool r1, .slice o1 l1 c1] 53)).alloc (.cells #[.bool r2, .slice o2 l2 c2] 53)) (w1.heap.size + 1) (.bool r2) (.slice o2 l2 c2)) := by unfold Hid; simpa using Bk.new (w1.alloc (.cells #[.bool r1, .slice o1 l1 c1] 53)) (.bool r2) (.slice o2 l2 c2)
  have m1 := hid0 (n1'.out.mono gA)
  have m2 := hid0 (n2'.out.mono gA)
  have hb : Below w.heap.size w W0 := g0.below
  replace hb := hb.trans (g1.mono hb.size)
  replace hb := hb.trans (gA.mono hb.size)
  obtain ⟨b10, e10⟩ : ∃ b10, b10 = w1.heap.size + 1 := ⟨_, rfl⟩
  obtain ⟨b9, e9⟩ : ∃ b9, b9 = w1.heap.size := ⟨_, rfl⟩
  rw [← e10] at k10 ⊢
  rw [← e9] at k9 ⊢
  clear e9 e10 gA n1' n2' g1 g0
  generalize (w1.alloc (.cells #[.bool r1, .slice o1 l1 c1] 53)).alloc (.cells #[.bool r2, .slice o2 l2 c2] 53) = W2 at *
  go_upto_region 3 with (go_at_call 43; refine (OT.out _).mono ?_; rintro e w3 ⟨v3, rfl, n3, g3⟩; obtain ⟨r3, o3, l3, c3, rfl, n3'⟩ := n3.shape; clear OT n3)
  have gA := ((Gr.refl w3).alloc (.cells #[.bool r3, .slice o3 l3 c3] 53)).below
  have gB := g3.trans (gA.mono g3.size)
  have k11 := hid0 (Bk.new w3 (.bool r3) (.slice o3 l3 c3))
  replace k9 := hid0 (k9.out.mono gB k9.out.lt)
  replace k10 := hid0 (k10.out.mono gB k10.out.lt)
  replace m1 := hid0 (m1.out.mono gB)
  replace m2 := hid0 (m2.out.mono gB)
  have m3 := hid0 (n3'.out.mono gA)
  replace hb := hb.trans (gB.mono hb.size)
  obtain ⟨b11, e11⟩ : ∃ b11, b11 = w3.heap.size := ⟨_, rfl⟩
  rw [← e11] at k11 ⊢
  clear e11 gA gB g3 n3'
  generalize w3.alloc (.cells #[.bool r3, .slice o3 l3 c3] 53) = W3 at *
  obtain ⟨nF, hnF⟩ : ∃ nF : Nat, 5 ≤ nF := ⟨5, by omega⟩
  have h1n : 1 ≤ nF := by omega
  refine (wpIn_wide (n := nF)).1 ?_
  refine region_inv (by kernel_rfl) (by kernel_rfl) (InvW w.heap.size w b9 b10 b11 nn dd tol r1 o1 l1 c1 r2 o2 l2 c2 r3 o3 l3 c3 (pt a.1 a.2) (pt b.1 b.2) (pt p.1 p.2) (.int .i64 tol) (.pointer (some ⟨b4, 0, none⟩)) (.pointer (some ⟨b5, 0, none⟩)) (.pointer (some ⟨b6, 0, none⟩)) undef (.pointer (some ⟨b9, 0, none⟩)) (.pointer (some ⟨b10, 0, none⟩)) (.pointer (some ⟨b11, 0, none⟩)) (.tuple #[.agg #[.bool r1, .slice o1 l1 c1], .agg #[.bool r2, .slice o2 l2 c2]]) (pt a.1 a.2) (pt b.1 b.2) (pt p.1 p.2) (.tuple #[.agg #[.bool r1, .slice o1 l1 c1], .agg #[.bool r2, .slice o2 l2 c2]]) (.agg #[.bool r1, .slice o1 l1 c1]) (.agg #[.bool r2, .slice o2 l2 c2]) (.int .i64 tol) (.agg #[.bool r3, .slice o3 l3 c3])) ?h0 ?hstep ?hend
  case h0 =>
    exact ⟨_, _, _, _, _, _, _, _, _, rfl, hb.drew, k9.out, k10.out, k11.out, m1.out.drew, m2.out.drew, m3.out.drew, fun h => h.elim, fun h => h.elim, fun h => h.elim, fun h => h.elim, fun h => h.elim, fun h => h.elim, fun h => h.elim, fun h => h.elim, fun h => h.elim⟩
  case hstep =>
    intro d' a' wI i o ho hnd D hdn hI
    have hi := (List.getElem?_eq_some_iff.1 ho).1
    simp only [List.length_cons, List.length_nil] at hi
    have : i = 0 ∨ i = 1 ∨ i = 2 ∨ i = 3 ∨ i = 4 ∨ i = 5 ∨ i = 6 ∨ i = 7 ∨ i = 8 := by omega
    clear hi
    rcases this with rfl | rfl | rfl | rfl | rfl | rfl | rfl | rfl | rfl
    · -- 0
      cases ho
      obtain ⟨u8, u21, u22, u23, u24, u25, u26, u27, u28, rfl, hb', k9, k10, k11, m1, m2, m3, f0, f1, f2, f3, f4, f5, f6, f7, f8⟩ := hI
      have z0 := k9.out.c0
      have z1 := k9.out.c1
      gi_wp2
      exact ⟨_, _, _, _, _, _, _, _, _, rfl, hb', k9, k10, k11, m1, m2, m3, (fun _ => rfl), (fun h => f1.out (or_ne h (by decide))), (fun h => f2.out (or_ne h (by decide))), (fun h => f3.out (or_ne h (by decide))), (fun h => f4.out (or_ne h (by decide))), (fun h => f5.out (or_ne h (by decide))), (fun h => f6.out (or_ne h (by decide))), (fun h => f7.out (or_ne h (by decide))), (fun h => f8.out (or_ne h (by decide)))⟩
    · -- 1
      cases ho
      obtain ⟨u8, u21, u22, u23, u24, u25, u26, u27, u28, rfl, hb', k9, k10, k11, m1, m2, m3, f0, f1, f2, f3, f4, f5, f6, f7, f8⟩ := hI
      have z0 := k10.out.c0
      have z1 := k10.out.c1
      gi_wp2
      exact ⟨_, _, _, _, _, _, _, _, _, rfl, hb', k9, k10, k11, m1, m2, m3, (fun h => f0.out (or_ne h (by decide))), (fun _ => rfl), (fun h => f2.out (or_ne h (by decide))), (fun h => f3.out (or_ne h (by decide))), (fun h => f4.out (or_ne h (by decide))), (fun h => f5.out (or_ne h (by decide))), (fun h => f6.out (or_ne h (by decide))), (fun h => f7.out (or_ne h (by decide))), (fun h => f8.out (or_ne h (by decide)))⟩
    · -- 2
      cases ho
      obtain ⟨u8, u21, u22, u23, u24, u25, u26, u27, u28, rfl, hb', k9, k10, k11, m1, m2, m3, f0, f1, f2, f3, f4, f5, f6, f7, f8⟩ := hI
      have z0 := k11.out.c0
      have z1 := k11.out.c1
      gi_wp2
      exact ⟨_, _, _, _, _, _, _, _, _, rfl, hb', k9, k10, k11, m1, m2, m3, (fun h => f0.out (or_ne h (by decide))), (fun h => f1.out (or_ne h (by decide))), (fun _ => rfl), (fun h => f3.out (or_ne h (by decide))), (fun h => f4.out (or_ne h (by decide))), (fun h => f5.out (or_ne h (by decide))), (fun h => f6.out (or_ne h (by decide))), (fun h => f7.out (or_ne h (by decide))), (fun h => f8.out (or_ne h (by decide)))⟩
    · -- 3
      cases ho
      obtain ⟨u8, u21, u22, u23, u24, u25, u26, u27, u28, rfl, hb', k9, k10, k11, m1, m2, m3, f0, f1, f2, f3, f4, f5, f6, f7, f8⟩ := hI
      have z0 := k11.out.c0
      have z1 := k11.out.c1
      gi_wp2
      exact ⟨_, _, _, _, _, _, _, _, _, rfl, hb', k9, k10, k11, m1, m2, m3, (fun h => f0.out (or_ne h (by decide))), (fun h => f1.out (or_ne h (by decide))), (fun h => f2.out (or_ne h (by decide))), (fun _ => rfl), (fun h => f4.out (or_ne h (by decide))), (fun h => f5.out (or_ne h (by decide))), (fun h => f6.out (or_ne h (by decide))), (fun h => f7.out (or_ne h (by decide))), (fun h => f8.out (or_ne h (by decide)))⟩
    · -- 4
      cases ho
      obtain ⟨u8, u21, u22, u23, u24, u25, u26, u27, u28, rfl, hb', k9, k10, k11, m1, m2, m3, f0, f1, f2, f3, f4, f5, f6, f7, f8⟩ := hI
      have e2 := f2.out (D 2 (by kernel_rfl))
      subst e2
      have e3 := f3.out (D 3 (by kernel_rfl))
      subst e3
      gi_wp2_with (refine (callsIn_wide.2 (mul_num _ _ tol tol _ m3.out m3.out s3.out s3.out)).mono ?_; rintro e w1 ⟨z, rfl, hz, h1⟩)
      exact ⟨_, _, _, _, _, _, _, _, _, rfl, (hb'.trans (h1.mono hb'.size)), (k9.out.mono h1 k9.out.lt), (k10.out.mono h1 k10.out.lt), (k11.out.mono h1 k11.out.lt), (m1.out.mono h1), (m2.out.mono h1), (m3.out.mono h1), (fun h => f0.out (or_ne h (by decide))), (fun h => f1.out (or_ne h (by decide))), (fun _ => rfl), (fun _ => rfl), (fun _ => hz), (fun h => (f5.out (or_ne h (by decide))).mono h1), (fun h => f6.out (or_ne h (by decide))), (fun h => f7.out (or_ne h (by decide))), (fun h => f8.out (or_ne h (by decide)))⟩
    · -- 5
      cases ho
      obtain ⟨u8, u21, u22, u23, u24, u25, u26, u27, u28, rfl, hb', k9, k10, k11, m1, m2, m3, f0, f1, f2, f3, f4, f5, f6, f7, f8⟩ := hI
      gi_wp2_with (refine (callsIn_wide.2 (of_num 1 _ (by omega) (by omega))).mono ?_; rintro e w1 ⟨z, rfl, hz, h1⟩)
      exact ⟨_, _, _, _, _, _, _, _, _, rfl, (hb'.trans (h1.mono hb'.size)), (k9.out.mono h1 k9.out.lt), (k10.out.mono h1 k10.out.lt), (k11.out.mono h1 k11.out.lt), (m1.out.mono h1), (m2.out.mono h1), (m3.out.mono h1), (fun h => f0.out (or_ne h (by decide))), (fun h => f1.out (or_ne h (by decide))), (fun h => f2.out (or_ne h (by decide))), (fun h => f3.out (or_ne h (by decide))), (fun h => (f4.out (or_ne h (by decide))).mono h1), (fun _ => hz), (fun h => f6.out (or_ne h (by decide))), (fun h => f7.out (or_ne h (by decide))), (fun h => f8.out (or_ne h (by decide)))⟩
    · -- 6
      cases ho
      obtain ⟨u8, u21, u22, u23, u24, u25, u26, u27, u28, rfl, hb', k9, k10, k11, m1, m2, m3, f0, f1, f2, f3, f4, f5, f6, f7, f8⟩ := hI
      have e0 := f0.out (D 0 (by kernel_rfl))
      subst e0
      have e1 := f1.out (D 1 (by kernel_rfl))
      subst e1
      have e4 := f4.out (D 4 (by kernel_rfl))
      obtain ⟨r4, o4, l4, c4, rfl, e4'⟩ := e4.shape
      clear e4
      have e5 := f5.out (D 5 (by kernel_rfl))
      obtain ⟨r5, o5, l5, c5, rfl, e5'⟩ := e5.shape
      clear e5
      gi_wp2_with (refine (callsIn_wide.2 (rfcmp_any _ _ _ _ nn dd (tol * tol) 1 _ m1.out m2.out e4'.out e5'.out s1.out s2.out s4.out s5.out)).mono ?_; rintro e w1 ⟨rfl, h1⟩)
      exact ⟨_, _, _, _, _, _, _, _, _, rfl, (hb'.trans (h1.mono hb'.size)), (k9.out.mono h1 k9.out.lt), (k10.out.mono h1 k10.out.lt), (k11.out.mono h1 k11.out.lt), (m1.out.mono h1), (m2.out.mono h1), (m3.out.mono h1), (fun _ => rfl), (fun _ => rfl), (fun h => f2.out (or_ne h (by decide))), (fun h => f3.out (or_ne h (by decide))), (fun _ => e4'.out.mono h1), (fun _ => e5'.out.mono h1), (fun _ => rfl), (fun h => f7.out (or_ne h (by decide))), (fun h => f8.out (or_ne h (by decide)))⟩
    · -- 7
      cases ho
      obtain ⟨u8, u21, u22, u23, u24, u25, u26, u27, u28, rfl, hb', k9, k10, k11, m1, m2, m3, f0, f1, f2, f3, f4, f5, f6, f7, f8⟩ := hI
      have e6 := f6.out (D 6 (by kernel_rfl))
      subst e6
      gi_wp2
      exact ⟨_, _, _, _, _, _, _, _, _, rfl, hb', k9, k10, k11, m1, m2, m3, (fun h => f0.out (or_ne h (by decide))), (fun h => f1.out (or_ne h (by decide))), (fun h => f2.out (or_ne h (by decide))), (fun h => f3.out (or_ne h (by decide))), (fun h => f4.out (or_ne h (by decide))), (fun h => f5.out (or_ne h (by decide))), (fun _ => rfl), (fun _ => rfl), (fun h => f8.out (or_ne h (by decide)))⟩
    · -- 8
      cases ho
      obtain ⟨u8, u21, u22, u23, u24, u25, u26, u27, u28, rfl, hb', k9, k10, k11, m1, m2, m3, f0, f1, f2, f3, f4, f5, f6, f7, f8⟩ := hI
      have e7 := f7.out (D 7 (by kernel_rfl))
      subst e7
      gi_wp2
      exact ⟨_, _, _, _, _, _, _, _, _, rfl, hb', k9, k10, k11, m1, m2, m3, (fun h => f0.out (or_ne h (by decide))), (fun h => f1.out (or_ne h (by decide))), (fun h => f2.out (or_ne h (by decide))), (fun h => f3.out (or_ne h (by decide))), (fun h => f4.out (or_ne h (by decide))), (fun h => f5.out (or_ne h (by decide))), (fun h => f6.out (or_ne h (by decide))), (fun _ => rfl), (fun _ => rfl)⟩
  case hend =>
    intro d' a' w' hall hI
    obtain ⟨u8, u21, u22, u23, u24, u25, u26, u27, u28, rfl, hb', k9, k10, k11, m1, m2, m3, f0, f1, f2, f3, f4, f5, f6, f7, f8⟩ := hI
    simp only [List.length_cons, List.length_nil] at hall
    have e8 := f8.out (hall 8 (by decide))
    subst e8
    clear hall f0 f1 f2 f3 f4 f5 f6 f7 f8
    go_wp2
    go_ret
    exact ⟨by rw [← EW.out]; rfl, hb'⟩
end
end Go.Proofs.Ytljdnahomhbenaa
