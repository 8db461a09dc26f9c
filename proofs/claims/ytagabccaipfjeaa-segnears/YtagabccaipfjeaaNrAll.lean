/- SegNears' walk: the law returns true. SegNears, proved: for every two segments, on the lattice or off it, and every radius the law returns true: the place of the foot of a point on a segment, in lowest terms, and whether a point or a segment is near a segment are what the reference says, which reckons in fractions of whole numbers of any length; the arguments read afterwards as they read before. No conditions. -/
import Derived.Test.YtagabccaipfjeaaNearAll
import Derived.Test.YtagabccaipfjeaaFrame
namespace Go.Proofs.Ytagabccaipfjeaa
section
open Go.RowKit Go.Sort

set_option maxRecDepth 20000 in
set_option maxHeartbeats 4000000 in
theorem nears_walk (ax ay bx by_ cx cy dx dy r : Int) (w : World) (hr : r ≤ 9223372036854775807) :
    Calls Try.prog 4 #[fourV ax ay bx by_ cx cy dx dy, .int .i64 r] w fun e w' => e = .returned (.bool true) ∧ Below w.heap.size w w' := by
  have hF : FourIs (w.alloc (.cells #[.int .i32 ax, .int .i32 ay, .int .i32 bx, .int .i32 by_, .int .i32 cx, .int .i32 cy, .int .i32 dx, .int .i32 dy] 25)) w.heap.size ax ay bx by_ cx cy dx dy := FourIs.new w ax ay bx by_ cx cy dx dy
  have hG : Below w.heap.size w (w.alloc (.cells #[.int .i32 ax, .int .i32 ay, .int .i32 bx, .int .i32 by_, .int .i32 cx, .int .i32 cy, .int .i32 dx, .int .i32 dy] 25)) := ((Gr.refl _).alloc _).below
  have P1 : Hid (∀ W, Calls Try.prog 11 #[pt ax ay, pt cx cy, pt dx dy] W fun e w' => e = .returned (frv (footA (ax, ay) (cx, cy) (dx, dy))) ∧ Gr W w') := fun W => Foot_any (ax, ay) (cx, cy) (dx, dy) W
  have P2 : Hid (∀ W, Calls Try.prog 11 #[pt ax ay, pt cx cy, pt cx cy] W fun e w' => e = .returned (frv (footA (ax, ay) (cx, cy) (cx, cy))) ∧ Gr W w') := fun W => Foot_any (ax, ay) (cx, cy) (cx, cy) W
  have R1 : Hid (∀ W, Calls Try.prog 12 #[pt ax ay, pt cx cy, pt dx dy] W fun e w' => e = .returned (frv (footA (ax, ay) (cx, cy) (dx, dy))) ∧ Below W.heap.size W w') := fun W => rfoot_any (ax, ay) (cx, cy) (dx, dy) W
  have R2 : Hid (∀ W, Calls Try.prog 12 #[pt ax ay, pt cx cy, pt cx cy] W fun e w' => e = .returned (frv (footA (ax, ay) (cx, cy) (cx, cy))) ∧ Below W.heap.size W w') := fun W => rfoot_any (ax, ay) (cx, cy) (cx, cy) W
  have P3 : Hid (∀ W, Calls Try.prog 13 #[pt ax ay, pt cx cy, pt dx dy, .int .i64 r] W fun e w' => e = .returned (.bool (nearA (ax, ay) (cx, cy) (dx, dy) r)) ∧ Gr W w') := fun W => Near_any (ax, ay) (cx, cy) (dx, dy) r W
  have R3 : Hid (∀ W, Calls Try.prog 14 #[pt ax ay, pt cx cy, pt dx dy, .int .i64 r] W fun e w' => e = .returned (.bool (nearA (ax, ay) (cx, cy) (dx, dy) r)) ∧ Below W.heap.size W w') := fun W => rnear_any (ax, ay) (cx, cy) (dx, dy) r W hr
  have P4 : Hid (∀ W, Calls Try.prog 15 #[pt ax ay, pt bx by_, pt cx cy, pt dx dy, .int .i64 r] W fun e w' => e = .returned (.bool (nearS (ax, ay) (bx, by_) (cx, cy) (dx, dy) r)) ∧ Gr W w') := fun W => NearSeg_any (ax, ay) (bx, by_) (cx, cy) (dx, dy) r W
  have R4 : Hid (∀ W, Calls Try.prog 16 #[pt ax ay, pt bx by_, pt cx cy, pt dx dy, .int .i64 r] W fun e w' => e = .returned (.bool (nearS (ax, ay) (bx, by_) (cx, cy) (dx, dy) r)) ∧ Below W.heap.size W w') := fun W => rnears_any (ax, ay) (bx, by_) (cx, cy) (dx, dy) r W hr
  have LV := hid' lives_any
  clear hr
  generalize footA (ax, ay) (cx, cy) (dx, dy) = f at *
  generalize footA (ax, ay) (cx, cy) (cx, cy) = g at *
  generalize nearA (ax, ay) (cx, cy) (dx, dy) r = nn at *
  generalize nearS (ax, ay) (bx, by_) (cx, cy) (dx, dy) r = ss at *
  obtain ⟨f1, f2⟩ := f
  obtain ⟨g1, g2⟩ := g
  have e1 : (f1 == f1) = true := by simp
  have e2 : (f2 == f2) = true := by simp
  have e3 : (g1 == g1) = true := by simp
  have e4 : (g2 == g2) = true := by simp
  have e5 : (nn == nn) = true := by simp
  have e6 : (ss == ss) = true := by simp
  go_enter Try.func4, Try.ntmps4
  go_upto_region 1 with fail
  generalize w.alloc (.cells #[.int .i32 ax, .int .i32 ay, .int .i32 bx, .int .i32 by_, .int .i32 cx, .int .i32 cy, .int .i32 dx, .int .i32 dy] 25) = W at *
  have hK : W.heap.size ≤ W.heap.size := Nat.le_refl _
  have hS0 : Hid (TC8 ⟨w.heap.size, 0, none⟩ ⟨w.heap.size, 1, none⟩ ⟨w.heap.size, 2, none⟩ ⟨w.heap.size, 3, none⟩ ⟨w.heap.size, 4, none⟩ ⟨w.heap.size, 5, none⟩ ⟨w.heap.size, 6, none⟩ ⟨w.heap.size, 7, none⟩ (.int .i32 ax) (.int .i32 ay) (.int .i32 bx) (.int .i32 by_) (.int .i32 cx) (.int .i32 cy) (.int .i32 dx) (.int .i32 dy) W.heap.size W W.drew) := ⟨hF.c0, hF.c1, hF.c2, hF.c3, hF.c4, hF.c5, hF.c6, hF.c7, (Below.refl _ _).drew⟩
  clear hF
  go_region_held3 (TC8 ⟨w.heap.size, 0, none⟩ ⟨w.heap.size, 1, none⟩ ⟨w.heap.size, 2, none⟩ ⟨w.heap.size, 3, none⟩ ⟨w.heap.size, 4, none⟩ ⟨w.heap.size, 5, none⟩ ⟨w.heap.size, 6, none⟩ ⟨w.heap.size, 7, none⟩ (.int .i32 ax) (.int .i32 ay) (.int .i32 bx) (.int .i32 by_) (.int .i32 cx) (.int .i32 cy) (.int .i32 dx) (.int .i32 dy) W.heap.size W)
    (first | with_reducible exact hS0.out | exact TC8.call (by assumption) hK (by assumption))
    (first
      | (go_at_call_of 11 (Value.int IntKind.i32 dx); refine (P1.out _).mono ?_; rintro e z0 ⟨rfl, hg0⟩; have hb0 := hg0.below)
      | (go_at_call_of 12 (Value.int IntKind.i32 dx); refine (R1.out _).mono ?_; rintro e z1 ⟨rfl, hb1⟩)
      | (go_at_call 11; refine (P2.out _).mono ?_; rintro e z2 ⟨rfl, hg2⟩; have hb2 := hg2.below)
      | (go_at_call 12; refine (R2.out _).mono ?_; rintro e z3 ⟨rfl, hb3⟩))
  have hT : TC8 ⟨w.heap.size, 0, none⟩ ⟨w.heap.size, 1, none⟩ ⟨w.heap.size, 2, none⟩ ⟨w.heap.size, 3, none⟩ ⟨w.heap.size, 4, none⟩ ⟨w.heap.size, 5, none⟩ ⟨w.heap.size, 6, none⟩ ⟨w.heap.size, 7, none⟩ (.int .i32 ax) (.int .i32 ay) (.int .i32 bx) (.int .i32 by_) (.int .i32 cx) (.int .i32 cy) (.int .i32 dx) (.int .i32 dy) W.heap.size W z3 := by assumption
  replace hT := hid' hT
  replace hG := hG.trans (hT.out.2.2.2.2.2.2.2.2.mono hG.size)
  clear hS0 P1 P2 R1 R2
  go_upto_region 3 with fail
  have hK' : z3.heap.size ≤ z3.heap.size := Nat.le_refl _
  have hS1 : Hid (TC8 ⟨w.heap.size, 0, none⟩ ⟨w.heap.size, 1, none⟩ ⟨w.heap.size, 2, none⟩ ⟨w.heap.size, 3, none⟩ ⟨w.heap.size, 4, none⟩ ⟨w.heap.size, 5, none⟩ ⟨w.heap.size, 6, none⟩ ⟨w.heap.size, 7, none⟩ (.int .i32 ax) (.int .i32 ay) (.int .i32 bx) (.int .i32 by_) (.int .i32 cx) (.int .i32 cy) (.int .i32 dx) (.int .i32 dy) z3.heap.size z3 z3.drew) := ⟨hT.out.1, hT.out.2.1, hT.out.2.2.1, hT.out.2.2.2.1, hT.out.2.2.2.2.1, hT.out.2.2.2.2.2.1, hT.out.2.2.2.2.2.2.1, hT.out.2.2.2.2.2.2.2.1, (Below.refl _ _).drew⟩
  clear hT hK hb0 hb1 hb2 hb3 hg0 hg2
  go_region_held3 (TC8 ⟨w.heap.size, 0, none⟩ ⟨w.heap.size, 1, none⟩ ⟨w.heap.size, 2, none⟩ ⟨w.heap.size, 3, none⟩ ⟨w.heap.size, 4, none⟩ ⟨w.heap.size, 5, none⟩ ⟨w.heap.size, 6, none⟩ ⟨w.heap.size, 7, none⟩ (.int .i32 ax) (.int .i32 ay) (.int .i32 bx) (.int .i32 by_) (.int .i32 cx) (.int .i32 cy) (.int .i32 dx) (.int .i32 dy) z3.heap.size z3)
    (first | with_reducible exact hS1.out | exact TC8.call (by assumption) hK' (by assumption))
    (first
      | (go_at_call 13; refine (P3.out _).mono ?_; rintro e y0 ⟨rfl, hg0⟩; have hb0 := hg0.below)
      | (go_at_call 14; refine (R3.out _).mono ?_; rintro e y1 ⟨rfl, hb1⟩)
      | (go_at_call 15; refine (P4.out _).mono ?_; rintro e y2 ⟨rfl, hg2⟩; have hb2 := hg2.below)
      | (go_at_call 16; refine (R4.out _).mono ?_; rintro e y3 ⟨rfl, hb3⟩)
      | (go_at_call 10; refine (LV.out _).mono ?_; rintro e y4 ⟨rfl, hg4⟩; have hb4 := hg4.below))
  have hU : TC8 ⟨w.heap.size, 0, none⟩ ⟨w.heap.size, 1, none⟩ ⟨w.heap.size, 2, none⟩ ⟨w.heap.size, 3, none⟩ ⟨w.heap.size, 4, none⟩ ⟨w.heap.size, 5, none⟩ ⟨w.heap.size, 6, none⟩ ⟨w.heap.size, 7, none⟩ (.int .i32 ax) (.int .i32 ay) (.int .i32 bx) (.int .i32 by_) (.int .i32 cx) (.int .i32 cy) (.int .i32 dx) (.int .i32 dy) z3.heap.size z3 y4 := by assumption
  have hW := hG.trans (hU.2.2.2.2.2.2.2.2.mono hG.size)
  clear hU
  go_wp2
  go_ret
  exact ⟨rfl, hW⟩
end
section
open Go.ChangeShapes Go.WideShapes Go.ChangeAt Go.RowKit Go.Joins

theorem wf_i64 {a : Int} (h : (Lit.int .i64 a).wf = true) : -9223372036854775808 ≤ a ∧ a ≤ 9223372036854775807 := by
  simpa [Lit.wf, IntKind.min, IntKind.max, IntKind.signed, IntKind.bits] using h
set_option maxRecDepth 100000 in
theorem nears_lifted (os : Os) (started : os.Started) (H : Type) (enc : TypeId × Value → H) :
    ReturnsInHanded {} Try.checked os 4 .any (Rows.segNearsSpec.pre6 enc Try.prog Try.f4 Rows.segNearsRow.domain false) (Rows.segNearsSpec.post enc Try.prog Try.f4 false true false false) := by
  refine returnsInHanded_of_change (C := Try.checked) own started (by kernel_rfl) Try.func4
    (ChangeSpec.witness6 (enc := enc) (C := Try.checked) false ⟨#[], #[.agg #[.int .i32 0, .int .i32 0, .int .i32 0, .int .i32 0, .int .i32 0, .int .i32 0, .int .i32 0, .int .i32 0], .int .i64 0], []⟩ 8 (by kernel_rfl) (by kernel_rfl) (by kernel_rfl) (by kernel_rfl)) ?_
  intro W base args ds gs before hval0 hW _ _
  have hval : ∀ (j : Nat) t v, Try.f4.params[j]? = some t → args[j]? = some v → Value.okWide Try.prog W .any base t v := hval0
  have hW' := hW
  obtain ⟨p, q, hA0, hV, rfl, _, _⟩ := hW
  have hA : DataW.TrodAll enc Try.prog W 0 (fun _ => true) true Try.f4.params.toList args.toList ds p := hA0
  rw [Try.params4] at hA hval
  obtain ⟨v0, v1, d0, d1, p0, p1, rfl, rfl, rfl, h0, h1⟩ := trodAll_two hA
  obtain ⟨rfl, rfl⟩ := trodVars_none hV
  obtain ⟨ox, oy, ax, ay, bx, by_, px, py, rfl, rfl, rfl, w0, w1, w2, w3⟩ := open_four (hval 0 25 v0 rfl rfl) h0
  obtain ⟨r, rfl, rfl, rfl, wr⟩ := open_int Try.underlying2 (hval 1 2 v1 rfl rfl) h1
  clear hA0 hval0
  simp only [List.append_nil] at hW'
  refine (nears_walk ox oy ax ay bx by_ px py r W (wf_i64 wr).2).mono fun e W' ⟨he, hg⟩ => ?_
  subst he
  exact ⟨_, rfl, _, _, _, [], [], [], hW', trodAll_mk1 (shut_bool Try.underlying4 _), trodAll_mk2 (shut_four w0 w1 w2 w3) (shut_int Try.underlying2 wr), rfl,
    hg.frame _, fun h => by cases h⟩

theorem nears_holds : Rows.SegNearsSaid :=
  OpenClaim.holds_of_wide 4 Try.f4 rfl rfl rfl rfl rfl rfl rfl ⟨rfl, rfl, rfl, rfl, rfl⟩ rfl rfl rfl rfl rfl (by kernel_rfl) Try.func4 (by kernel_rfl)
    (of_decide_eq_true (by kernel_rfl)) (by unfold Func.isWrapper; first | (rw [if_pos (by decide +kernel)]; kernel_rfl) | (rw [if_neg (by decide +kernel)]; exact ⟨rfl, rfl⟩))
    (fun os started H enc _ => nears_lifted os started H enc)
end
end Go.Proofs.Ytagabccaipfjeaa
