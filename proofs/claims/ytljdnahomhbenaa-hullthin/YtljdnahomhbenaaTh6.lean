/- The program's cutAt: the first of those that are the furthest off, if it is further off than the tolerance. -/
import Derived.Test.YtljdnahomhbenaaTh3J
import Derived.Test.YtljdnahomhbenaaRg
namespace Go.Proofs.Ytljdnahomhbenaa
section
set_option linter.unusedSimpArgs false
set_option linter.unusedVariables false
open Go.RowKit Go.Sort
attribute [local go_sem] Oper.semAt_some wide_fn
attribute [local simp] wide_fn

set_option maxRecDepth 20000 in
def InvC (W : World) (b off cap nL : Nat) (A Z : Int × Int) (S : Int) (u0 u1 u2 u3 u4 u5 u6 u8 u9 u10 u11 u12 u13 u14 u23 u24 u25 u26 u27 u28 u29 u30 u31 u32 u33 u34 u35 u36 u37 u38 u39 u40 u41 u42 u43 u44 u45 u46 u47 u48 : Value) (d : Nat → Prop) (a : Act) (w : World) : Prop :=
  ∃ u7 u15 u16 u17 u18 u19 u20 u21 u22 : Value, a = { tmps := (u0 :: u1 :: u2 :: u3 :: u4 :: u5 :: u6 :: u7 :: u8 :: u9 :: u10 :: u11 :: u12 :: u13 :: u14 :: u15 :: u16 :: u17 :: u18 :: u19 :: u20 :: u21 :: u22 :: u23 :: u24 :: u25 :: u26 :: u27 :: u28 :: u29 :: u30 :: u31 :: u32 :: u33 :: u34 :: u35 :: u36 :: u37 :: u38 :: u39 :: u40 :: u41 :: u42 :: u43 :: u44 :: u45 :: u46 :: u47 :: u48 :: []).toArray, defers := [] } ∧ Gr W w
  ∧ Hid (d 0 → u15 = .slice (some ⟨b, off, none⟩) nL cap)
  ∧ Hid (d 1 → u16 = .pointer (some ⟨b, off, none⟩))
  ∧ Hid (d 2 → u17 = pt A.1 A.2)
  ∧ Hid (d 3 → u18 = .slice (some ⟨b, off, none⟩) nL cap)
  ∧ Hid (d 4 → u19 = .int .i64 ((nL : Int) - 1))
  ∧ Hid (d 5 → u20 = .pointer (some ⟨b, off + (nL - 1) * 2, none⟩))
  ∧ Hid (d 6 → u21 = pt Z.1 Z.2)
  ∧ Hid (d 7 → u22 = bsV A Z S)
  ∧ Hid (d 8 → ∃ (B : Nat) (x0 x1 x2 x3 x4 : Value), u7 = .pointer (some ⟨B, 0, none⟩) ∧ W.heap.size ≤ B ∧ Hs w B 111 #[x0, x1, x2, x3, x4] ∧ (d 9 → x0 = Value.int .i32 A.1 ∧ x1 = Value.int .i32 A.2 ∧ x2 = Value.int .i32 Z.1 ∧ x3 = Value.int .i32 Z.2 ∧ x4 = Value.int .i64 S))

set_option maxRecDepth 20000 in
set_option maxHeartbeats 16000000 in
theorem cutat_any (b off cap : Nat) (L : List (Int × Int)) (tol : Int) (w : World) (hl : L.length ≤ 17592186043904) (hn : 2 ≤ L.length) (hL : ∀ p ∈ L, latP p) (ht : 0 ≤ tol ∧ tol ≤ 3037000498) (hP : Pts w (some ⟨b, off, none⟩) L) :
    Calls Try.prog 77 #[.slice (some ⟨b, off, none⟩) L.length cap, .int .i64 tol] w fun e w' => e = .returned (.tuple #[.int .i64 (cutP L tol), .bool (decide (0 < cutP L tol))]) ∧ Gr w w' := by
  have HP := hid0 hP
  obtain ⟨b1, o1, e1, x0, x1⟩ := HP.out 0 (by omega)
  cases e1
  obtain ⟨b1, o1, e1, y0, y1⟩ := HP.out (L.length - 1) (by omega)
  cases e1
  simp only [Nat.zero_mul, Nat.add_zero] at x0 x1
  have la : latP (L.getD 0 (0, 0)) := hL _ (by simp [List.getD, show 0 < L.length by omega])
  have lz : latP (L.getD (L.length - 1) (0, 0)) := hL _ (by simp [List.getD, show L.length - 1 < L.length by omega])
  have HL := hid0 hL
  have tt : tol * tol ≤ 9223372024852248004 := by
    have := Int.mul_le_mul ht.2 ht.2 ht.1 (by omega : (0 : Int) ≤ 3037000498)
    omega
  have tt0 : 0 ≤ tol * tol := Int.mul_nonneg ht.1 ht.1
  have sb := scl_bd la lz
  have BA := hid0 (fun w => base_any (L.getD 0 (0, 0)) (L.getD (L.length - 1) (0, 0)) la lz w)
  have MU := hid0 (fun w => wmul_any (tol * tol) (scl (L.getD 0 (0, 0)) (L.getD (L.length - 1) (0, 0))) w (by omega) (by omega) (by omega) (by omega))
  have hw : wrap64 (tol * tol) = tol * tol := by unfold wrap64; omega
  have I0 : Hid (inI (tol * tol * scl (L.getD 0 (0, 0)) (L.getD (L.length - 1) (0, 0)))) := (mul_words (by omega) (by omega) (by omega) (by omega)).2.2.2.2.2
  have HC : Hid (cutP L tol = (cutS L (tol * tol * scl (L.getD 0 (0, 0)) (L.getD (L.length - 1) (0, 0))) (L.length - 2)).2) := rfl
  have OF : Hid (∀ k, k < L.length → ∀ w, Calls Try.prog 105 #[bsV (L.getD 0 (0, 0)) (L.getD (L.length - 1) (0, 0)) (scl (L.getD 0 (0, 0)) (L.getD (L.length - 1) (0, 0))), pt (L.getD k (0, 0)).1 (L.getD k (0, 0)).2] w fun e w' => e = .returned (wd (offI (L.getD 0 (0, 0)) (L.getD (L.length - 1) (0, 0)) (L.getD k (0, 0)))) ∧ Gr w w') := fun k hk w => off_any _ _ _ la lz (HL.out _ (by rw [show L.getD k (0, 0) = L[k] by simp [List.getD, hk]]; exact List.getElem_mem hk)) w
  have IQ : Hid (∀ k, k < L.length → inI (offI (L.getD 0 (0, 0)) (L.getD (L.length - 1) (0, 0)) (L.getD k (0, 0)))) := fun k hk => inI_off la lz (HL.out _ (by rw [show L.getD k (0, 0) = L[k] by simp [List.getD, hk]]; exact List.getElem_mem hk))
  have CS : Hid (∀ m0 k, cutS L m0 (k + 1) = if (cutS L m0 k).1 < offI (L.getD 0 (0, 0)) (L.getD (L.length - 1) (0, 0)) (L.getD (k + 1) (0, 0)) then (offI (L.getD 0 (0, 0)) (L.getD (L.length - 1) (0, 0)) (L.getD (k + 1) (0, 0)), k + 1) else cutS L m0 k) := fun m0 k => rfl
  have C0 : Hid (∀ m0, cutS L m0 0 = (m0, 0)) := fun _ => rfl
  obtain ⟨P, hPe⟩ : ∃ P, cutP L tol = P := ⟨_, rfl⟩
  rw [hPe] at HC ⊢
  generalize scl (L.getD 0 (0, 0)) (L.getD (L.length - 1) (0, 0)) = S at *
  generalize hoff : (fun k => offI (L.getD 0 (0, 0)) (L.getD (L.length - 1) (0, 0)) (L.getD k (0, 0))) = fO at *
  have ef : ∀ k, offI (L.getD 0 (0, 0)) (L.getD (L.length - 1) (0, 0)) (L.getD k (0, 0)) = fO k := fun k => by rw [← hoff]
  simp only [ef] at OF IQ CS
  obtain ⟨A, hA⟩ : ∃ A, L.getD 0 (0, 0) = A := ⟨_, rfl⟩
  obtain ⟨Z, hZ⟩ : ∃ Z, L.getD (L.length - 1) (0, 0) = Z := ⟨_, rfl⟩
  rw [hA] at x0 x1 BA OF
  rw [hZ] at y0 y1 BA OF
  clear hPe hoff ef hA hZ la lz ht hL hP
  obtain ⟨T2, hT2⟩ : ∃ T2, tol * tol = T2 := ⟨_, rfl⟩
  rw [hT2] at MU hw I0 HC tt tt0
  obtain ⟨nL, hnL⟩ : ∃ nL, L.length = nL := ⟨_, rfl⟩
  have HNL := hid0 hnL
  rw [hnL] at hl hn y0 y1 HC OF IQ ⊢
  clear hnL
  go_enter Try.func77, Try.ntmps77
  go_upto_region 2 with fail
  go_cut [7] (fun s w' => ∃ B7, s = .pointer (some ⟨B7, 0, none⟩) ∧ Hs w' B7 111 #[.int .i32 A.1, .int .i32 A.2, .int .i32 Z.1, .int .i32 Z.2, .int .i64 S] ∧ w.heap.size ≤ B7 ∧ Gr w w')
  case first =>
    clear MU I0 HC OF IQ CS C0
    obtain ⟨nF, hnF⟩ : ∃ nF : Nat, 5 ≤ nF := ⟨5, by omega⟩
    have h1n : 1 ≤ nF := by omega
    refine (wpIn_wide (n := nF)).1 ?_
    refine region_inv (by kernel_rfl) (by kernel_rfl) (InvC w b off cap nL A Z S (.slice (some ⟨b, off, none⟩) nL cap) (.int .i64 tol) undef undef (.int .i64 0) (.bool false) (.int .i64 ((nL : Int) - 1)) undef undef undef undef (.slice (some ⟨b, off, none⟩) nL cap) (.int .i64 nL) (.int .i64 ((nL : Int) - 1)) undef undef undef undef undef undef undef undef undef undef undef undef undef undef undef undef undef undef undef undef undef undef undef undef undef undef) ?h0 ?hstep ?hend
    case h0 =>
      exact ⟨_, _, _, _, _, _, _, _, _, rfl, (Gr.refl _).drew, fun h => h.elim, fun h => h.elim, fun h => h.elim, fun h => h.elim, fun h => h.elim, fun h => h.elim, fun h => h.elim, fun h => h.elim, fun h => h.elim⟩
    case hstep =>
      intro d' a' wI i o ho hnd D hdn hI
      have hi := (List.getElem?_eq_some_iff.1 ho).1
      simp only [List.length_cons, List.length_nil] at hi
      have : i = 0 ∨ i = 1 ∨ i = 2 ∨ i = 3 ∨ i = 4 ∨ i = 5 ∨ i = 6 ∨ i = 7 ∨ i = 8 ∨ i = 9 := by omega
      clear hi
      rcases this with rfl | rfl | rfl | rfl | rfl | rfl | rfl | rfl | rfl | rfl
      · -- 0
        cases ho
        obtain ⟨u7, u15, u16, u17, u18, u19, u20, u21, u22, rfl, hG, f0, f1, f2, f3, f4, f5, f6, f7, gA⟩ := hI
        gi_wp2
        exact ⟨_, _, _, _, _, _, _, _, _, rfl, hG, (fun _ => rfl), (fun h => f1.out (or_ne h (by decide))), (fun h => f2.out (or_ne h (by decide))), (fun h => f3.out (or_ne h (by decide))), (fun h => f4.out (or_ne h (by decide))), (fun h => f5.out (or_ne h (by decide))), (fun h => f6.out (or_ne h (by decide))), (fun h => f7.out (or_ne h (by decide))), (fun h => by obtain ⟨B, x0, x1, x2, x3, x4, q1, q2, q3, q4⟩ := gA.out (or_ne h (by decide)); exact ⟨B, x0, x1, x2, x3, x4, q1, q2, q3, fun h => q4 (or_ne h (by decide))⟩)⟩
      · -- 1
        cases ho
        obtain ⟨u7, u15, u16, u17, u18, u19, u20, u21, u22, rfl, hG, f0, f1, f2, f3, f4, f5, f6, f7, gA⟩ := hI
        have e0 := f0.out (D 0 (by kernel_rfl))
        subst e0
        gi_wp2
        exact ⟨_, _, _, _, _, _, _, _, _, rfl, hG, (fun _ => rfl), (fun _ => rfl), (fun h => f2.out (or_ne h (by decide))), (fun h => f3.out (or_ne h (by decide))), (fun h => f4.out (or_ne h (by decide))), (fun h => f5.out (or_ne h (by decide))), (fun h => f6.out (or_ne h (by decide))), (fun h => f7.out (or_ne h (by decide))), (fun h => by obtain ⟨B, x0, x1, x2, x3, x4, q1, q2, q3, q4⟩ := gA.out (or_ne h (by decide)); exact ⟨B, x0, x1, x2, x3, x4, q1, q2, q3, fun h => q4 (or_ne h (by decide))⟩)⟩
      · -- 2
        cases ho
        obtain ⟨u7, u15, u16, u17, u18, u19, u20, u21, u22, rfl, hG, f0, f1, f2, f3, f4, f5, f6, f7, gA⟩ := hI
        have e1 := f1.out (D 1 (by kernel_rfl))
        subst e1
        have x0' := below_cell x0 hG.below
        have x1' := below_cell x1 hG.below
        gi_wp2
        exact ⟨_, _, _, _, _, _, _, _, _, rfl, hG, (fun h => f0.out (or_ne h (by decide))), (fun _ => rfl), (fun _ => rfl), (fun h => f3.out (or_ne h (by decide))), (fun h => f4.out (or_ne h (by decide))), (fun h => f5.out (or_ne h (by decide))), (fun h => f6.out (or_ne h (by decide))), (fun h => f7.out (or_ne h (by decide))), (fun h => by obtain ⟨B, x0, x1, x2, x3, x4, q1, q2, q3, q4⟩ := gA.out (or_ne h (by decide)); exact ⟨B, x0, x1, x2, x3, x4, q1, q2, q3, fun h => q4 (or_ne h (by decide))⟩)⟩
      · -- 3
        cases ho
        obtain ⟨u7, u15, u16, u17, u18, u19, u20, u21, u22, rfl, hG, f0, f1, f2, f3, f4, f5, f6, f7, gA⟩ := hI
        gi_wp2
        exact ⟨_, _, _, _, _, _, _, _, _, rfl, hG, (fun h => f0.out (or_ne h (by decide))), (fun h => f1.out (or_ne h (by decide))), (fun h => f2.out (or_ne h (by decide))), (fun _ => rfl), (fun h => f4.out (or_ne h (by decide))), (fun h => f5.out (or_ne h (by decide))), (fun h => f6.out (or_ne h (by decide))), (fun h => f7.out (or_ne h (by decide))), (fun h => by obtain ⟨B, x0, x1, x2, x3, x4, q1, q2, q3, q4⟩ := gA.out (or_ne h (by decide)); exact ⟨B, x0, x1, x2, x3, x4, q1, q2, q3, fun h => q4 (or_ne h (by decide))⟩)⟩
      · -- 4
        cases ho
        obtain ⟨u7, u15, u16, u17, u18, u19, u20, u21, u22, rfl, hG, f0, f1, f2, f3, f4, f5, f6, f7, gA⟩ := hI
        gi_wp2
        exact ⟨_, _, _, _, _, _, _, _, _, rfl, hG, (fun h => f0.out (or_ne h (by decide))), (fun h => f1.out (or_ne h (by decide))), (fun h => f2.out (or_ne h (by decide))), (fun h => f3.out (or_ne h (by decide))), (fun _ => rfl), (fun h => f5.out (or_ne h (by decide))), (fun h => f6.out (or_ne h (by decide))), (fun h => f7.out (or_ne h (by decide))), (fun h => by obtain ⟨B, x0, x1, x2, x3, x4, q1, q2, q3, q4⟩ := gA.out (or_ne h (by decide)); exact ⟨B, x0, x1, x2, x3, x4, q1, q2, q3, fun h => q4 (or_ne h (by decide))⟩)⟩
      · -- 5
        cases ho
        obtain ⟨u7, u15, u16, u17, u18, u19, u20, u21, u22, rfl, hG, f0, f1, f2, f3, f4, f5, f6, f7, gA⟩ := hI
        have e3 := f3.out (D 3 (by kernel_rfl))
        subst e3
        have e4 := f4.out (D 4 (by kernel_rfl))
        subst e4
        gi_wp2
        exact ⟨_, _, _, _, _, _, _, _, _, rfl, hG, (fun h => f0.out (or_ne h (by decide))), (fun h => f1.out (or_ne h (by decide))), (fun h => f2.out (or_ne h (by decide))), (fun _ => rfl), (fun _ => rfl), (fun _ => rfl), (fun h => f6.out (or_ne h (by decide))), (fun h => f7.out (or_ne h (by decide))), (fun h => by obtain ⟨B, x0, x1, x2, x3, x4, q1, q2, q3, q4⟩ := gA.out (or_ne h (by decide)); exact ⟨B, x0, x1, x2, x3, x4, q1, q2, q3, fun h => q4 (or_ne h (by decide))⟩)⟩
      · -- 6
        cases ho
        obtain ⟨u7, u15, u16, u17, u18, u19, u20, u21, u22, rfl, hG, f0, f1, f2, f3, f4, f5, f6, f7, gA⟩ := hI
        have e5 := f5.out (D 5 (by kernel_rfl))
        subst e5
        have y0' := below_cell y0 hG.below
        have y1' := below_cell y1 hG.below
        gi_wp2
        exact ⟨_, _, _, _, _, _, _, _, _, rfl, hG, (fun h => f0.out (or_ne h (by decide))), (fun h => f1.out (or_ne h (by decide))), (fun h => f2.out (or_ne h (by decide))), (fun h => f3.out (or_ne h (by decide))), (fun h => f4.out (or_ne h (by decide))), (fun _ => rfl), (fun _ => rfl), (fun h => f7.out (or_ne h (by decide))), (fun h => by obtain ⟨B, x0, x1, x2, x3, x4, q1, q2, q3, q4⟩ := gA.out (or_ne h (by decide)); exact ⟨B, x0, x1, x2, x3, x4, q1, q2, q3, fun h => q4 (or_ne h (by decide))⟩)⟩
      · -- 7
        cases ho
        obtain ⟨u7, u15, u16, u17, u18, u19, u20, u21, u22, rfl, hG, f0, f1, f2, f3, f4, f5, f6, f7, gA⟩ := hI
        have e2 := f2.out (D 2 (by kernel_rfl))
        subst e2
        have e6 := f6.out (D 6 (by kernel_rfl))
        subst e6
        gi_wp2_with (refine (callsIn_wide.2 (BA.out _)).mono ?_; rintro e w1 ⟨rfl, h1⟩)
        have hG' := hG.trans h1
        exact ⟨_, _, _, _, _, _, _, _, _, rfl, hG', (fun h => f0.out (or_ne h (by decide))), (fun h => f1.out (or_ne h (by decide))), (fun _ => rfl), (fun h => f3.out (or_ne h (by decide))), (fun h => f4.out (or_ne h (by decide))), (fun h => f5.out (or_ne h (by decide))), (fun _ => rfl), (fun _ => rfl), (fun h => by obtain ⟨B, x0, x1, x2, x3, x4, q1, q2, q3, q4⟩ := gA.out (or_ne h (by decide)); exact ⟨B, x0, x1, x2, x3, x4, q1, q2, q3.gr h1, fun h => q4 (or_ne h (by decide))⟩)⟩
      · -- 8
        cases ho
        obtain ⟨u7, u15, u16, u17, u18, u19, u20, u21, u22, rfl, hG, f0, f1, f2, f3, f4, f5, f6, f7, gA⟩ := hI
        gi_wp2
        have h1 := (Gr.refl wI).alloc (.cells #[Value.int .i32 0, Value.int .i32 0, Value.int .i32 0, Value.int .i32 0, Value.int .i64 0] 111)
        have hG' := hG.trans h1
        exact ⟨_, _, _, _, _, _, _, _, _, rfl, hG', (fun h => f0.out (or_ne h (by decide))), (fun h => f1.out (or_ne h (by decide))), (fun h => f2.out (or_ne h (by decide))), (fun h => f3.out (or_ne h (by decide))), (fun h => f4.out (or_ne h (by decide))), (fun h => f5.out (or_ne h (by decide))), (fun h => f6.out (or_ne h (by decide))), (fun h => f7.out (or_ne h (by decide))), (fun _ => ⟨wI.heap.size, _, _, _, _, _, rfl, hG.size, Hs.new wI 111 _, fun h => absurd (hdn 9 _ rfl (or_ne h (by decide)) 8 (by kernel_rfl)) hnd⟩)⟩
      · -- 9
        cases ho
        obtain ⟨u7, u15, u16, u17, u18, u19, u20, u21, u22, rfl, hG, f0, f1, f2, f3, f4, f5, f6, f7, gA⟩ := hI
        have e7 := f7.out (D 7 (by kernel_rfl))
        subst e7
        obtain ⟨B, x0, x1, x2, x3, x4, eA, hB, kA, cA⟩ := gA.out (D 8 (by kernel_rfl))
        subst eA
        clear cA
        have z0 := kA.froz 0
        have y0 : wI.cell? ⟨B, 0, none⟩ = some x0 := kA.cell rfl
        have z1 := kA.froz 1
        have y1 : wI.cell? ⟨B, 1, none⟩ = some x1 := kA.cell rfl
        have z2 := kA.froz 2
        have y2 : wI.cell? ⟨B, 2, none⟩ = some x2 := kA.cell rfl
        have z3 := kA.froz 3
        have y3 : wI.cell? ⟨B, 3, none⟩ = some x3 := kA.cell rfl
        have z4 := kA.froz 4
        have y4 : wI.cell? ⟨B, 4, none⟩ = some x4 := kA.cell rfl
        gi_wp2
        have hG' := (((((hG.setCell (p := ⟨B, 0, none⟩) hB (Value.int .i32 A.1)).setCell (p := ⟨B, 1, none⟩) hB (Value.int .i32 A.2)).setCell (p := ⟨B, 2, none⟩) hB (Value.int .i32 Z.1)).setCell (p := ⟨B, 3, none⟩) hB (Value.int .i32 Z.2)).setCell (p := ⟨B, 4, none⟩) hB (Value.int .i64 S))
        exact ⟨_, _, _, _, _, _, _, _, _, rfl, hG', (fun h => f0.out (or_ne h (by decide))), (fun h => f1.out (or_ne h (by decide))), (fun h => f2.out (or_ne h (by decide))), (fun h => f3.out (or_ne h (by decide))), (fun h => f4.out (or_ne h (by decide))), (fun h => f5.out (or_ne h (by decide))), (fun h => f6.out (or_ne h (by decide))), (fun _ => rfl), (fun _ => ⟨B, _, _, _, _, _, rfl, hB, (((((kA.setAt 0 _).setAt 1 _).setAt 2 _).setAt 3 _).setAt 4 _), fun _ => ⟨rfl, rfl, rfl, rfl, rfl⟩⟩)⟩
    case hend =>
      intro d' a' w' hall hI
      obtain ⟨u7, u15, u16, u17, u18, u19, u20, u21, u22, rfl, hG, f0, f1, f2, f3, f4, f5, f6, f7, gA⟩ := hI
      simp only [List.length_cons, List.length_nil] at hall
      obtain ⟨B, x0, x1, x2, x3, x4, rfl, hB, kA, cA⟩ := gA.out (hall 8 (by decide))
      obtain ⟨rfl, rfl, rfl, rfl, rfl⟩ := cA (hall 9 (by decide))
      clear hall f0 f1 f2 f3 f4 f5 f6 f7 gA cA
      go_wp2
      go_meet
      case rel => exact ⟨B, rfl, kA, hB, hG⟩
  case rest =>
    obtain ⟨B7, rfl, k7, h7, hG⟩ := hcut
    have y4 : wc.cell? ⟨B7, 4, none⟩ = some (.int .i64 S) := k7.cell rfl
    clear BA x0 x1 y0 y1
    go_wp2_with fail
    refine (MU.out _).mono ?_
    rintro e w2 ⟨rfl, g2⟩
    replace k7 := k7.gr g2
    replace hG := hG.trans g2
    clear g2 MU y4 hw
    go_upto_region 4 with fail
    have h8 : w.heap.size ≤ w2.heap.size := hG.size
    have h78 : B7 ≠ w2.heap.size := by
      have := lt_of_block k7
      omega
    have k8 := Hs.new w2 71 #[.int .i64 (hiI (T2 * S)), .int .u64 (loI (T2 * S))]
    have gA := (Gr.refl w2).alloc (.cells #[.int .i64 (hiI (T2 * S)), .int .u64 (loI (T2 * S))] 71)
    replace k7 := k7.gr gA
    replace hG := hG.trans gA
    obtain ⟨B8, hB8⟩ : ∃ B8, B8 = w2.heap.size := ⟨_, rfl⟩
    rw [← hB8] at k8 h8 h78 ⊢
    clear hB8 gA
    generalize w2.alloc (.cells #[.int .i64 (hiI (T2 * S)), .int .u64 (loI (T2 * S))] 71) = W3 at *
    go_wp2
    go_loopw [9, 10] (fun p i wr => ∃ k : Nat, k + 2 ≤ nL ∧ p = .int .i64 ((cutS L (T2 * S) k).2 : Int) ∧ i = .int .i64 ((k : Int) + 1) ∧ Hid (inI (cutS L (T2 * S) k).1) ∧ Hs wr B7 111 #[.int .i32 A.1, .int .i32 A.2, .int .i32 Z.1, .int .i32 Z.2, .int .i64 S] ∧ Hs wr B8 71 #[.int .i64 (hiI (cutS L (T2 * S) k).1), .int .u64 (loI (cutS L (T2 * S) k).1)] ∧ Gr w wr) (fun _ i _ => nL - (intOf i).toNat)
    case atStart => exact ⟨0, by omega, rfl, rfl, I0, k7, k8, hG⟩
    case round =>
      clear k7 k8 hG
      obtain ⟨k, hk, rfl, rfl, hI, k7, k8, hG⟩ := hrel
      by_cases hlt : k + 1 < nL - 1
      · obtain ⟨b', o', eb, p0, p1⟩ := (HP.out.mono hG.below) (k + 1) (by rw [HNL.out]; omega)
        cases eb
        have OC := hid0 (OF.out (k + 1) (by omega))
        have IK := hid0 (IQ.out (k + 1) (by omega))
        have CK := hid0 (CS.out (T2 * S) k)
        obtain ⟨q, hq⟩ : ∃ q, L.getD (k + 1) (0, 0) = q := ⟨_, rfl⟩
        rw [hq] at p0 p1 OC
        clear hq
        obtain ⟨o, ho⟩ : ∃ o, fO (k + 1) = o := ⟨_, rfl⟩
        rw [ho] at OC IK CK
        clear ho
        obtain ⟨c, hc⟩ : ∃ c, cutS L (T2 * S) k = c := ⟨_, rfl⟩
        rw [hc] at hI k8 CK ⊢
        clear hc
        have CM := hid0 (fun w => cmp_any o c.1 IK.out hI.out w)
        have j0 : wr.cell? ⟨B7, 0, none⟩ = some (.int .i32 A.1) := k7.cell rfl
        have j0' := below_cell j0 ((Gr.refl wr).alloc (.cells #[.int .i64 0, .int .u64 0] 71)).below
        have j1 : wr.cell? ⟨B7, 1, none⟩ = some (.int .i32 A.2) := k7.cell rfl
        have j1' := below_cell j1 ((Gr.refl wr).alloc (.cells #[.int .i64 0, .int .u64 0] 71)).below
        have j2 : wr.cell? ⟨B7, 2, none⟩ = some (.int .i32 Z.1) := k7.cell rfl
        have j2' := below_cell j2 ((Gr.refl wr).alloc (.cells #[.int .i64 0, .int .u64 0] 71)).below
        have j3 : wr.cell? ⟨B7, 3, none⟩ = some (.int .i32 Z.2) := k7.cell rfl
        have j3' := below_cell j3 ((Gr.refl wr).alloc (.cells #[.int .i64 0, .int .u64 0] 71)).below
        have j4 : wr.cell? ⟨B7, 4, none⟩ = some (.int .i64 S) := k7.cell rfl
        have j4' := below_cell j4 ((Gr.refl wr).alloc (.cells #[.int .i64 0, .int .u64 0] 71)).below
        have p0' := below_cell p0 ((Gr.refl wr).alloc (.cells #[.int .i64 0, .int .u64 0] 71)).below
        have p1' := below_cell p1 ((Gr.refl wr).alloc (.cells #[.int .i64 0, .int .u64 0] 71)).below
        go_upto_region 8 with fail
        go_cut [11] (fun s w' => ∃ B, s = .pointer (some ⟨B, 0, none⟩) ∧ Hs w' B 71 #[.int .i64 (hiI o), .int .u64 (loI o)] ∧ wr.heap.size ≤ B ∧ Gr wr w')
        case first =>
          clear k7 k8 hI CM CK
          go_region_with (first
            | (go_at_call 105; refine (OC.out _).mono ?_; rintro e w1 ⟨rfl, g1⟩; try (have kx := ((Hs.new wr 71 #[.int .i64 0, .int .u64 0]).gr ((Gr.refl _).drew)).gr g1; have m0 := kx.cell (i := 0) rfl; have m1 := kx.cell (i := 1) rfl; have n0 := kx.froz 0; have n1 := kx.froz 1)))
          all_goals
            go_wp2
            go_meet
            case rel =>
              first
                | exact ⟨_, rfl, Hs.new _ _ _, (by have := g1.size; have e : wr.drew.heap.size = wr.heap.size := rfl; omega), (((Gr.refl wr).drew).trans g1).alloc _⟩
                | exact ⟨_, rfl, kx.set2 _ _, Nat.le_refl _, (((((Gr.refl wr).alloc _).drew).trans g1).setCell (Nat.le_refl _) _).setCell (Nat.le_refl _) _⟩
        case rest =>
          clear j0 j1 j2 j3 j4 j0' j1' j2' j3' j4' p0' p1'
          obtain ⟨B, rfl, k11, h11, g11⟩ := hcut
          replace k7 := k7.gr g11
          have h8r := lt_of_block k8
          replace k8 := k8.gr g11
          replace hG := hG.trans g11
          have u0 : wc.cell? ⟨B, 0, none⟩ = some (.int .i64 (hiI o)) := k11.cell rfl
          have u1 : wc.cell? ⟨B, 1, none⟩ = some (.int .u64 (loI o)) := k11.cell rfl
          have v0 : wc.cell? ⟨B8, 0, none⟩ = some (.int .i64 (hiI c.1)) := k8.cell rfl
          have v1 : wc.cell? ⟨B8, 1, none⟩ = some (.int .u64 (loI c.1)) := k8.cell rfl
          clear p0 p1 OC g11
          go_wp2_with fail
          refine (CM.out _).mono ?_
          rintro e w5 ⟨rfl, g5⟩
          replace k7 := k7.gr g5
          replace k8 := k8.gr g5
          replace k11 := k11.gr g5
          replace hG := hG.trans g5
          clear u0 u1 v0 v1 g5 CM
          by_cases hcmp : c.1 < o
          · have e1 : cmpI o c.1 = 1 := by unfold cmpI; rw [if_neg (by omega), if_pos hcmp]
            have eC : Hid (cutS L (T2 * S) (k + 1) = (o, k + 1)) := by unfold Hid; rw [CK.out, if_pos hcmp]
            have u0 : w5.cell? ⟨B, 0, none⟩ = some (.int .i64 (hiI o)) := k11.cell rfl
            have u1 : w5.cell? ⟨B, 1, none⟩ = some (.int .u64 (loI o)) := k11.cell rfl
            have v0 : w5.cell? ⟨B8, 0, none⟩ = some (.int .i64 (hiI c.1)) := k8.cell rfl
            have v1 : w5.cell? ⟨B8, 1, none⟩ = some (.int .u64 (loI c.1)) := k8.cell rfl
            have f0 := k8.froz 0
            have f1 := k8.froz 1
            rw [e1]
            go_wp2
            go_roundw
            case rel =>
              refine ⟨k + 1, by omega, by rw [eC.out]; simp, by go_num, by rw [eC.out]; exact IK, (k7.other h78 _).other h78 _, by rw [eC.out]; exact k8.set2 _ _, (hG.setCell h8 _).setCell h8 _⟩
            case measure => simp [intOf]; omega
          · have e1 : decide (0 < cmpI o c.1) = false := by
              rw [decide_eq_false_iff_not]
              unfold cmpI
              split <;> (try split) <;> omega
            have eC : Hid (cutS L (T2 * S) (k + 1) = c) := by unfold Hid; rw [CK.out, if_neg hcmp]
            generalize cmpI o c.1 = cc at *
            have e2 : ¬ 0 < cc := of_decide_eq_false e1
            go_wp2
            go_roundw
            case rel => exact ⟨k + 1, by omega, by rw [eC.out], by go_num, by rw [eC.out]; exact hI, k7, by rw [eC.out]; exact k8, hG⟩
            case measure => simp [intOf]; omega
      · have ek : k = nL - 2 := by omega
        have eP : ((cutS L (T2 * S) k).2 : Int) = (P : Int) := by rw [ek, HC.out]
        rw [eP]
        go_wp2
        go_ret2
        exact ⟨by simp, hG⟩
end
end Go.Proofs.Ytljdnahomhbenaa
