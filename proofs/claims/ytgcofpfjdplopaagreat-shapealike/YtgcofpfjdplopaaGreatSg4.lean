/- Contracts of the program's crossing, of two segments' ends. -/
import Derived.Test.YtgcofpfjdplopaaGreatSg3
import Derived.Test.YtgcofpfjdplopaaGreatFour
import Derived.Deep.CutBlock
namespace Go.Proofs.YtgcofpfjdplopaaGreat
section
open Go.RowKit Go.Sort

abbrev endv (a b c d : P2) : Value := .agg #[.int .i32 a.1, .int .i32 a.2, .int .i32 b.1, .int .i32 b.2, .int .i32 c.1, .int .i32 c.2, .int .i32 d.1, .int .i32 d.2]
theorem den_bd {a b c d : P2} (ha : lat a) (hb : lat b) (hc : lat c) (hd : lat d) : -9223372019674906632 ≤ crs c d a - crs c d b ∧ crs c d a - crs c d b ≤ 9223372019674906632 := by
  have e : crs c d a - crs c d b = (d.1 - c.1) * (a.2 - b.2) - (d.2 - c.2) * (a.1 - b.1) := by unfold crs; grind
  rw [e]
  unfold lat at *
  have x := lat_prod (x := d.1 - c.1) (y := a.2 - b.2) (by omega) (by omega)
  have y := lat_prod (x := d.2 - c.2) (y := a.1 - b.1) (by omega) (by omega)
  omega

/-- Eight cells of a block. -/
abbrev SE (B : Nat) (x0 x1 x2 x3 x4 x5 x6 x7 : Value) (w : World) : Prop := w.cell? ⟨B, 0, none⟩ = some x0 ∧ w.cell? ⟨B, 1, none⟩ = some x1 ∧ w.cell? ⟨B, 2, none⟩ = some x2 ∧ w.cell? ⟨B, 3, none⟩ = some x3 ∧ w.cell? ⟨B, 4, none⟩ = some x4 ∧ w.cell? ⟨B, 5, none⟩ = some x5 ∧ w.cell? ⟨B, 6, none⟩ = some x6 ∧ w.cell? ⟨B, 7, none⟩ = some x7
theorem SE.drew {B : Nat} {x0 x1 x2 x3 x4 x5 x6 x7 : Value} {w : World} (h : SE B x0 x1 x2 x3 x4 x5 x6 x7 w) : SE B x0 x1 x2 x3 x4 x5 x6 x7 w.drew := h
theorem SE.alloc {B : Nat} {x0 x1 x2 x3 x4 x5 x6 x7 : Value} {w : World} (h : SE B x0 x1 x2 x3 x4 x5 x6 x7 w) (o : Obj) : SE B x0 x1 x2 x3 x4 x5 x6 x7 (w.alloc o) :=
  have g : Below w.heap.size w (w.alloc o) := ((Gr.refl _).alloc _).below
  ⟨below_cell h.1 g, below_cell h.2.1 g, below_cell h.2.2.1 g, below_cell h.2.2.2.1 g, below_cell h.2.2.2.2.1 g, below_cell h.2.2.2.2.2.1 g, below_cell h.2.2.2.2.2.2.1 g, below_cell h.2.2.2.2.2.2.2 g⟩
theorem SE.set {B : Nat} {x0 x1 x2 x3 x4 x5 x6 x7 : Value} {w : World} (h : SE B x0 x1 x2 x3 x4 x5 x6 x7 w) {p : Addr} (hp : B ≠ p.block) (z : Value) : SE B x0 x1 x2 x3 x4 x5 x6 x7 (w.setCell p z) :=
  have f : ∀ k v, w.cell? ⟨B, k, none⟩ = some v → (w.setCell p z).cell? ⟨B, k, none⟩ = some v := fun k _ e => (World.cell?_setCell_far w p ⟨B, k, none⟩ z (Ne.symm hp)).trans e
  ⟨f _ _ h.1, f _ _ h.2.1, f _ _ h.2.2.1, f _ _ h.2.2.2.1, f _ _ h.2.2.2.2.1, f _ _ h.2.2.2.2.2.1, f _ _ h.2.2.2.2.2.2.1, f _ _ h.2.2.2.2.2.2.2⟩
def E8 (w : World) (b : Nat) (x0 x1 x2 x3 x4 x5 x6 x7 : Value) : Prop := w.heap[b]? = some (.cells #[x0, x1, x2, x3, x4, x5, x6, x7] 178 (0, 0))
section
variable {w w' : World} {b : Nat} {x0 x1 x2 x3 x4 x5 x6 x7 : Value}
theorem E8.lt (h : E8 w b x0 x1 x2 x3 x4 x5 x6 x7) : b < w.heap.size := lt_of_block h
theorem E8.c0 (h : E8 w b x0 x1 x2 x3 x4 x5 x6 x7) : w.cell? ⟨b, 0, none⟩ = some x0 := by unfold E8 at h; simp [World.cell?, h]
theorem E8.c1 (h : E8 w b x0 x1 x2 x3 x4 x5 x6 x7) : w.cell? ⟨b, 1, none⟩ = some x1 := by unfold E8 at h; simp [World.cell?, h]
theorem E8.c2 (h : E8 w b x0 x1 x2 x3 x4 x5 x6 x7) : w.cell? ⟨b, 2, none⟩ = some x2 := by unfold E8 at h; simp [World.cell?, h]
theorem E8.c3 (h : E8 w b x0 x1 x2 x3 x4 x5 x6 x7) : w.cell? ⟨b, 3, none⟩ = some x3 := by unfold E8 at h; simp [World.cell?, h]
theorem E8.c4 (h : E8 w b x0 x1 x2 x3 x4 x5 x6 x7) : w.cell? ⟨b, 4, none⟩ = some x4 := by unfold E8 at h; simp [World.cell?, h]
theorem E8.c5 (h : E8 w b x0 x1 x2 x3 x4 x5 x6 x7) : w.cell? ⟨b, 5, none⟩ = some x5 := by unfold E8 at h; simp [World.cell?, h]
theorem E8.c6 (h : E8 w b x0 x1 x2 x3 x4 x5 x6 x7) : w.cell? ⟨b, 6, none⟩ = some x6 := by unfold E8 at h; simp [World.cell?, h]
theorem E8.c7 (h : E8 w b x0 x1 x2 x3 x4 x5 x6 x7) : w.cell? ⟨b, 7, none⟩ = some x7 := by unfold E8 at h; simp [World.cell?, h]
theorem E8.f (h : E8 w b x0 x1 x2 x3 x4 x5 x6 x7) (o : Nat) : w.frozen? ⟨b, o, none⟩ = false := by unfold E8 at h; simp [World.frozen?, h]
theorem E8.at (h : E8 w b x0 x1 x2 x3 x4 x5 x6 x7) : w.heap[b]'(h.lt) = .cells #[x0, x1, x2, x3, x4, x5, x6, x7] 178 (0, 0) := by
  have hlt := h.lt
  unfold E8 at h; simpa [Array.getElem?_eq_getElem hlt] using h
theorem E8.s0 (h : E8 w b x0 x1 x2 x3 x4 x5 x6 x7) (z : Value) : E8 (w.setCell ⟨b, 0, none⟩ z) b z x1 x2 x3 x4 x5 x6 x7 := by
  have hlt := h.lt
  show (w.heap.modify b _)[b]? = _
  rw [Array.getElem?_eq_getElem (by simpa using hlt), Array.getElem_modify_self, h.at]; rfl
theorem E8.s1 (h : E8 w b x0 x1 x2 x3 x4 x5 x6 x7) (z : Value) : E8 (w.setCell ⟨b, 1, none⟩ z) b x0 z x2 x3 x4 x5 x6 x7 := by
  have hlt := h.lt
  show (w.heap.modify b _)[b]? = _
  rw [Array.getElem?_eq_getElem (by simpa using hlt), Array.getElem_modify_self, h.at]; rfl
theorem E8.s2 (h : E8 w b x0 x1 x2 x3 x4 x5 x6 x7) (z : Value) : E8 (w.setCell ⟨b, 2, none⟩ z) b x0 x1 z x3 x4 x5 x6 x7 := by
  have hlt := h.lt
  show (w.heap.modify b _)[b]? = _
  rw [Array.getElem?_eq_getElem (by simpa using hlt), Array.getElem_modify_self, h.at]; rfl
theorem E8.s3 (h : E8 w b x0 x1 x2 x3 x4 x5 x6 x7) (z : Value) : E8 (w.setCell ⟨b, 3, none⟩ z) b x0 x1 x2 z x4 x5 x6 x7 := by
  have hlt := h.lt
  show (w.heap.modify b _)[b]? = _
  rw [Array.getElem?_eq_getElem (by simpa using hlt), Array.getElem_modify_self, h.at]; rfl
theorem E8.s4 (h : E8 w b x0 x1 x2 x3 x4 x5 x6 x7) (z : Value) : E8 (w.setCell ⟨b, 4, none⟩ z) b x0 x1 x2 x3 z x5 x6 x7 := by
  have hlt := h.lt
  show (w.heap.modify b _)[b]? = _
  rw [Array.getElem?_eq_getElem (by simpa using hlt), Array.getElem_modify_self, h.at]; rfl
theorem E8.s5 (h : E8 w b x0 x1 x2 x3 x4 x5 x6 x7) (z : Value) : E8 (w.setCell ⟨b, 5, none⟩ z) b x0 x1 x2 x3 x4 z x6 x7 := by
  have hlt := h.lt
  show (w.heap.modify b _)[b]? = _
  rw [Array.getElem?_eq_getElem (by simpa using hlt), Array.getElem_modify_self, h.at]; rfl
theorem E8.s6 (h : E8 w b x0 x1 x2 x3 x4 x5 x6 x7) (z : Value) : E8 (w.setCell ⟨b, 6, none⟩ z) b x0 x1 x2 x3 x4 x5 z x7 := by
  have hlt := h.lt
  show (w.heap.modify b _)[b]? = _
  rw [Array.getElem?_eq_getElem (by simpa using hlt), Array.getElem_modify_self, h.at]; rfl
theorem E8.s7 (h : E8 w b x0 x1 x2 x3 x4 x5 x6 x7) (z : Value) : E8 (w.setCell ⟨b, 7, none⟩ z) b x0 x1 x2 x3 x4 x5 x6 z := by
  have hlt := h.lt
  show (w.heap.modify b _)[b]? = _
  rw [Array.getElem?_eq_getElem (by simpa using hlt), Array.getElem_modify_self, h.at]; rfl
theorem E8.mono {B : Nat} (h : E8 w b x0 x1 x2 x3 x4 x5 x6 x7) (g : Below B w w') (hb : b < B) : E8 w' b x0 x1 x2 x3 x4 x5 x6 x7 := by
  unfold E8; rw [g.block b hb]; exact h
theorem E8.other (h : E8 w b x0 x1 x2 x3 x4 x5 x6 x7) {p : Addr} (hp : b ≠ p.block) (z : Value) : E8 (w.setCell p z) b x0 x1 x2 x3 x4 x5 x6 x7 := by
  unfold E8; rw [Below.heap_setCell _ _ _ _ hp]; exact h
theorem E8.gr (h : E8 w b x0 x1 x2 x3 x4 x5 x6 x7) (g : Gr w w') : E8 w' b x0 x1 x2 x3 x4 x5 x6 x7 := h.mono g.below h.lt
end
theorem E8.new (w : World) (x0 x1 x2 x3 x4 x5 x6 x7 : Value) : E8 (w.alloc (.cells #[x0, x1, x2, x3, x4, x5, x6, x7] 178)) w.heap.size x0 x1 x2 x3 x4 x5 x6 x7 := heap_alloc_new w _
theorem E8.se {w : World} {b : Nat} {x0 x1 x2 x3 x4 x5 x6 x7 : Value} (h : E8 w b x0 x1 x2 x3 x4 x5 x6 x7) : SE b x0 x1 x2 x3 x4 x5 x6 x7 w := ⟨h.c0, h.c1, h.c2, h.c3, h.c4, h.c5, h.c6, h.c7⟩
theorem four0 (W : World) (a0 b0 a1 b1 a2 b2 a3 b3 : Int) : TwoIs ((((W.alloc (.cells #[.int .i32 a0, .int .i32 b0] 28)).alloc (.cells #[.int .i32 a1, .int .i32 b1] 28)).alloc (.cells #[.int .i32 a2, .int .i32 b2] 28)).alloc (.cells #[.int .i32 a3, .int .i32 b3] 28)).drew (W.heap.size) a0 b0 := ⟨by go_simp, by go_simp⟩
theorem four1 (W : World) (a0 b0 a1 b1 a2 b2 a3 b3 : Int) : TwoIs ((((W.alloc (.cells #[.int .i32 a0, .int .i32 b0] 28)).alloc (.cells #[.int .i32 a1, .int .i32 b1] 28)).alloc (.cells #[.int .i32 a2, .int .i32 b2] 28)).alloc (.cells #[.int .i32 a3, .int .i32 b3] 28)).drew (W.heap.size + 1) a1 b1 := ⟨by go_simp, by go_simp⟩
theorem four2 (W : World) (a0 b0 a1 b1 a2 b2 a3 b3 : Int) : TwoIs ((((W.alloc (.cells #[.int .i32 a0, .int .i32 b0] 28)).alloc (.cells #[.int .i32 a1, .int .i32 b1] 28)).alloc (.cells #[.int .i32 a2, .int .i32 b2] 28)).alloc (.cells #[.int .i32 a3, .int .i32 b3] 28)).drew (W.heap.size + 1 + 1) a2 b2 := ⟨by go_simp, by go_simp⟩
theorem four3 (W : World) (a0 b0 a1 b1 a2 b2 a3 b3 : Int) : TwoIs ((((W.alloc (.cells #[.int .i32 a0, .int .i32 b0] 28)).alloc (.cells #[.int .i32 a1, .int .i32 b1] 28)).alloc (.cells #[.int .i32 a2, .int .i32 b2] 28)).alloc (.cells #[.int .i32 a3, .int .i32 b3] 28)).drew (W.heap.size + 1 + 1 + 1) a3 b3 := ⟨by go_simp, by go_simp⟩
theorem fourG (W : World) (a0 b0 a1 b1 a2 b2 a3 b3 : Int) : Gr W ((((W.alloc (.cells #[.int .i32 a0, .int .i32 b0] 28)).alloc (.cells #[.int .i32 a1, .int .i32 b1] 28)).alloc (.cells #[.int .i32 a2, .int .i32 b2] 28)).alloc (.cells #[.int .i32 a3, .int .i32 b3] 28)).drew := (((((Gr.refl _).alloc _).alloc _).alloc _).alloc _).drew

set_option maxHeartbeats 2000000 in
theorem inside_any (a b c d : P2) (ha : lat a) (hb : lat b) (hc : lat c) (hd : lat d) (w : World) :
    Calls Tryz.prog 136 #[endv a b c d] w fun e w' => e = .returned (mtv (insideM a b c d)) ∧ Gr w w' := by
  have P1 : Hid (∀ w, Calls Tryz.prog 143 #[ptv a, ptv b, ptv c, ptv d] w fun e w' => e = .returned (.bool (oppS (crs a b c) (crs a b d))) ∧ Gr w w') := fun w => parts_any a b c d w ha.ins hb.ins hc.ins hd.ins
  have P2' : Hid (∀ w, Calls Tryz.prog 143 #[ptv c, ptv d, ptv a, ptv b] w fun e w' => e = .returned (.bool (oppS (crs c d a) (crs c d b))) ∧ Gr w w') := fun w => parts_any c d a b w hc.ins hd.ins ha.ins hb.ins
  have E : Hid (insideM a b c d = if oppS (crs a b c) (crs a b d) && oppS (crs c d a) (crs c d b) then (1, true, lowF (crs c d a) (crs c d a - crs c d b), lowF (crs c d a) (crs c d a - crs c d b)) else mt0) := rfl
  have Z : Hid (oppS (crs c d a) (crs c d b) = true → crs c d a - crs c d b ≠ 0) := fun h => by rw [oppS_iff] at h; omega
  have bA := crs_bd hc hd ha
  have bD := den_bd ha hb hc hd
  have wD : wrap64 (crs c d a - crs c d b) = crs c d a - crs c d b := w64_bd bD
  have C1 : Hid (∀ w, Calls Tryz.prog 144 #[ptv c, ptv d, ptv a] w fun e w' => e = .returned (.int .i64 (crs c d a)) ∧ Gr w w') := cross_lat c d a hc hd ha
  have C2 : Hid (∀ w, Calls Tryz.prog 144 #[ptv c, ptv d, ptv b] w fun e w' => e = .returned (.int .i64 (crs c d b)) ∧ Gr w w') := cross_lat c d b hc hd hb
  generalize oppS (crs a b c) (crs a b d) = B1 at *
  generalize oppS (crs c d a) (crs c d b) = B2 at *
  generalize crs c d a = A at *
  generalize crs c d b = B at *
  clear ha hb hc hd
  obtain ⟨ax, ay⟩ := a
  obtain ⟨bx, by_⟩ := b
  obtain ⟨cx, cy⟩ := c
  obtain ⟨dx, dy⟩ := d
  show Calls Tryz.prog 136 #[.agg #[.int .i32 ax, .int .i32 ay, .int .i32 bx, .int .i32 by_, .int .i32 cx, .int .i32 cy, .int .i32 dx, .int .i32 dy]] w _
  go_enter Tryz.func136, Tryz.ntmps136
  go_upto_region 1 with fail
  have hE : E8 ((w.alloc (.cells #[.int .i32 ax, .int .i32 ay, .int .i32 bx, .int .i32 by_, .int .i32 cx, .int .i32 cy, .int .i32 dx, .int .i32 dy] 178)).alloc (.cells #[.int .u8 0, .bool false, .int .i64 0, .int .i64 0, .int .i64 0, .int .i64 0] 173)) w.heap.size (.int .i32 ax) (.int .i32 ay) (.int .i32 bx) (.int .i32 by_) (.int .i32 cx) (.int .i32 cy) (.int .i32 dx) (.int .i32 dy) := (E8.new w (.int .i32 ax) (.int .i32 ay) (.int .i32 bx) (.int .i32 by_) (.int .i32 cx) (.int .i32 cy) (.int .i32 dx) (.int .i32 dy)).gr ((Gr.refl _).alloc _)
  have hR : M6 ((w.alloc (.cells #[.int .i32 ax, .int .i32 ay, .int .i32 bx, .int .i32 by_, .int .i32 cx, .int .i32 cy, .int .i32 dx, .int .i32 dy] 178)).alloc (.cells #[.int .u8 0, .bool false, .int .i64 0, .int .i64 0, .int .i64 0, .int .i64 0] 173)) (w.heap.size + 1) (.int .u8 0) (.bool false) (.int .i64 0) (.int .i64 0) (.int .i64 0) (.int .i64 0) := by
    have := M6.new (w.alloc (.cells #[.int .i32 ax, .int .i32 ay, .int .i32 bx, .int .i32 by_, .int .i32 cx, .int .i32 cy, .int .i32 dx, .int .i32 dy] 178)) (.int .u8 0) (.bool false) (.int .i64 0) (.int .i64 0) (.int .i64 0) (.int .i64 0)
    simpa using this
  have hG : Gr w ((w.alloc (.cells #[.int .i32 ax, .int .i32 ay, .int .i32 bx, .int .i32 by_, .int .i32 cx, .int .i32 cy, .int .i32 dx, .int .i32 dy] 178)).alloc (.cells #[.int .u8 0, .bool false, .int .i64 0, .int .i64 0, .int .i64 0, .int .i64 0] 173)) := ((Gr.refl _).alloc _).alloc _
  generalize ((w.alloc (.cells #[.int .i32 ax, .int .i32 ay, .int .i32 bx, .int .i32 by_, .int .i32 cx, .int .i32 cy, .int .i32 dx, .int .i32 dy] 178)).alloc (.cells #[.int .u8 0, .bool false, .int .i64 0, .int .i64 0, .int .i64 0, .int .i64 0] 173)) = W at *
  go_cut [3, 4, 5, 6] (fun s3 s4 s5 s6 w' => ∃ X3 X4 X5 X6, s3 = .pointer (some ⟨X3, 0, none⟩) ∧ s4 = .pointer (some ⟨X4, 0, none⟩) ∧ s5 = .pointer (some ⟨X5, 0, none⟩) ∧ s6 = .pointer (some ⟨X6, 0, none⟩) ∧ TwoIs w' X3 ax ay ∧ TwoIs w' X4 bx by_ ∧ TwoIs w' X5 cx cy ∧ TwoIs w' X6 dx dy ∧ Gr W w')
  case first =>
    have hS0 : Hid (SE w.heap.size (.int .i32 ax) (.int .i32 ay) (.int .i32 bx) (.int .i32 by_) (.int .i32 cx) (.int .i32 cy) (.int .i32 dx) (.int .i32 dy) W.drew) := hE.se
    have hSW : Hid (SE w.heap.size (.int .i32 ax) (.int .i32 ay) (.int .i32 bx) (.int .i32 by_) (.int .i32 cx) (.int .i32 cy) (.int .i32 dx) (.int .i32 dy) W) := hE.se
    have hlt := hE.lt
    go_region_held3 (SE w.heap.size (.int .i32 ax) (.int .i32 ay) (.int .i32 bx) (.int .i32 by_) (.int .i32 cx) (.int .i32 cy) (.int .i32 dx) (.int .i32 dy))
      (repeat (first | with_reducible exact hS0.out | with_reducible exact hSW.out | with_reducible refine SE.drew ?_ | with_reducible refine SE.alloc ?_ _ | (with_reducible refine SE.set ?_ (by simp only []; omega) _)))
      (fail)
    all_goals
      go_wp2
      go_meet
      case rel =>
        exact ⟨_, _, _, _, rfl, rfl, rfl, rfl, by (first | with_reducible exact four0 _ _ _ _ _ _ _ _ _ | with_reducible exact four1 _ _ _ _ _ _ _ _ _ | with_reducible exact four2 _ _ _ _ _ _ _ _ _ | with_reducible exact four3 _ _ _ _ _ _ _ _ _), by (first | with_reducible exact four0 _ _ _ _ _ _ _ _ _ | with_reducible exact four1 _ _ _ _ _ _ _ _ _ | with_reducible exact four2 _ _ _ _ _ _ _ _ _ | with_reducible exact four3 _ _ _ _ _ _ _ _ _), by (first | with_reducible exact four0 _ _ _ _ _ _ _ _ _ | with_reducible exact four1 _ _ _ _ _ _ _ _ _ | with_reducible exact four2 _ _ _ _ _ _ _ _ _ | with_reducible exact four3 _ _ _ _ _ _ _ _ _), by (first | with_reducible exact four0 _ _ _ _ _ _ _ _ _ | with_reducible exact four1 _ _ _ _ _ _ _ _ _ | with_reducible exact four2 _ _ _ _ _ _ _ _ _ | with_reducible exact four3 _ _ _ _ _ _ _ _ _), fourG _ _ _ _ _ _ _ _ _⟩
  case rest =>
    obtain ⟨X3, X4, X5, X6, rfl, rfl, rfl, rfl, k3, k4, k5, k6, gc⟩ := hcut
    replace hR := hR.gr gc
    replace hG := hG.trans gc
    clear hE gc
    have a0 := k3.c0
    have a1 := k3.c1
    have b0 := k4.c0
    have b1 := k4.c1
    have c0 := k5.c0
    have c1 := k5.c1
    have d0 := k6.c0
    have d1 := k6.c1
    go_wp2_with fail
    refine (P1.out _).mono ?_
    rintro e w1 ⟨rfl, q1⟩
    replace k3 := k3.gr q1
    replace k4 := k4.gr q1
    replace k5 := k5.gr q1
    replace k6 := k6.gr q1
    replace hR := hR.gr q1
    replace hG := hG.trans q1
    clear q1 a0 a1 b0 b1 c0 c1 d0 d1
    cases B1 with
    | false =>
      have r0 := hR.c0
      have r1 := hR.c1
      have r2 := hR.c2
      have r3 := hR.c3
      have r4 := hR.c4
      have r5 := hR.c5
      have rf := hR.f
      go_wp2
      refine bodyPost_ret (v := mtv mt0) (by simp [results, Tryz.results136, go_sem, mt0, r0, r1, r2, r3, r4, r5]) rfl ⟨by rw [E.out]; rfl, ?_⟩
      exact (((((hG.setCell (by simp) _).setCell (by simp) _).setCell (by simp) _).setCell (by simp) _).setCell (by simp) _).setCell (by simp) _
    | true =>
      have a0 := k3.c0
      have a1 := k3.c1
      have b0 := k4.c0
      have b1 := k4.c1
      have c0 := k5.c0
      have c1 := k5.c1
      have d0 := k6.c0
      have d1 := k6.c1
      go_wp2_with fail
      refine (P2'.out _).mono ?_
      rintro e w2 ⟨rfl, q2⟩
      replace k3 := k3.gr q2
      replace k4 := k4.gr q2
      replace k5 := k5.gr q2
      replace k6 := k6.gr q2
      replace hR := hR.gr q2
      replace hG := hG.trans q2
      clear q2 a0 a1 b0 b1 c0 c1 d0 d1
      cases B2 with
      | false =>
        have r0 := hR.c0
        have r1 := hR.c1
        have r2 := hR.c2
        have r3 := hR.c3
        have r4 := hR.c4
        have r5 := hR.c5
        have rf := hR.f
        go_wp2
        refine bodyPost_ret (v := mtv mt0) (by simp [results, Tryz.results136, go_sem, mt0, r0, r1, r2, r3, r4, r5]) rfl ⟨by rw [E.out]; rfl, ?_⟩
        exact (((((hG.setCell (by simp) _).setCell (by simp) _).setCell (by simp) _).setCell (by simp) _).setCell (by simp) _).setCell (by simp) _
      | true =>
        have hne := Z.out rfl
        have L : Hid (∀ w, Calls Tryz.prog 145 #[.int .i64 A, .int .i64 (A - B)] w fun e w' => e = .returned (frv (lowF A (A - B))) ∧ Gr w w') := fun w => lowest_any _ _ w (by omega) (by omega) (by omega) (by omega) hne
        generalize lowF A (A - B) = R at *
        have E2 : Hid (insideM (ax, ay) (bx, by_) (cx, cy) (dx, dy) = (1, true, R, R)) := E.out
        clear P1 P2' Z bA bD hne E
        have a0 := k3.c0
        have a1 := k3.c1
        have b0 := k4.c0
        have b1 := k4.c1
        have c0 := k5.c0
        have c1 := k5.c1
        have d0 := k6.c0
        have d1 := k6.c1
        go_wp2
        have x0 := cell_gr a0
        have x1 := cell_gr a1
        have x2 := cell_gr b0
        have x3 := cell_gr b1
        have x4 := cell_gr c0
        have x5 := cell_gr c1
        have x6 := cell_gr d0
        have x7 := cell_gr d1
        refine wp_region_quiet_grown (by kernel_rfl) (by kernel_rfl) ?_
        repeat (go_big_quiet_step (first | (go_at_call_of 144 (Value.int IntKind.i32 ay); exact Calls.grown_of (C1.out _)) | (go_at_call 144; exact Calls.grown_of (C2.out _))))
        refine wpQuiet_nil ?_
        intro _ hw'
        obtain ⟨⟨nq, osq⟩, hw''⟩ := hw'
        subst hw''
        have g : Gr w2 (grow (w2.drewN nq) osq) := ⟨nq, osq, rfl⟩
        replace hR := hR.gr g
        replace hG := hG.trans g
        clear x0 x1 x2 x3 x4 x5 x6 x7 a0 a1 b0 b1 c0 c1 d0 d1 k3 k4 k5 k6 g C1 C2
        generalize grow (w2.drewN nq) osq = W1 at *
        go_wp2_with fail
        refine (L.out _).mono ?_
        rintro e w3 ⟨rfl, q3⟩
        replace hR := hR.gr q3
        replace hG := hG.trans q3
        clear q3 L
        have r0 := fun o => (hR.gr ((Gr.refl _).alloc o)).c0
        have r1 := fun o => (hR.gr ((Gr.refl _).alloc o)).c1
        have r2 := fun o => (hR.gr ((Gr.refl _).alloc o)).c2
        have r3 := fun o => (hR.gr ((Gr.refl _).alloc o)).c3
        have r4 := fun o => (hR.gr ((Gr.refl _).alloc o)).c4
        have r5 := fun o => (hR.gr ((Gr.refl _).alloc o)).c5
        have rf := fun o => (hR.gr ((Gr.refl _).alloc o)).f
        obtain ⟨rn, rd⟩ := R
        go_wp2
        refine bodyPost_ret (v := mtv (1, true, (rn, rd), (rn, rd))) (by simp [results, Tryz.results136, go_sem, r0, r1, r2, r3, r4, r5]) rfl ⟨by rw [E2.out], ?_⟩
        exact ((((((hG.alloc _).setCell (by simp) _).setCell (by simp) _).setCell (by simp) _).setCell (by simp) _).setCell (by simp) _).setCell (by simp) _
end
end Go.Proofs.YtgcofpfjdplopaaGreat
