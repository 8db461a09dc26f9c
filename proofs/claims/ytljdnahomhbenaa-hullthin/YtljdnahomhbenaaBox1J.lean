/- Contracts of the program's On and Around, and of the law's own shifted point. Contracts of the program's Meet and Join, and of the reference's Right, Has, Meet. -/
import Derived.Test.YtljdnahomhbenaaBnd
import Derived.BigQuiet
import Derived.Deep.DeepMust
namespace Go.Proofs.Ytljdnahomhbenaa
section
open Go.RowKit Go.Sort

theorem cell_gr {W : World} {a : Addr} {x : Value} (h : W.cell? a = some x) : ∀ n os, (grow (W.drewN n) os).cell? a = some x :=
  fun n os => cell_grown (World.block_lt_of_cell? _ _ h) h n os

def aroundI (ox oy ax ay bx by_ : Int) : Int := if cmpI (halfI ox oy ax ay) (halfI ox oy bx by_) = 0 then -turnI ox oy ax ay bx by_ else cmpI (halfI ox oy ax ay) (halfI ox oy bx by_)
theorem turnI_bd (ox oy ax ay bx by_ : Int) : -1 ≤ turnI ox oy ax ay bx by_ ∧ turnI ox oy ax ay bx by_ ≤ 1 := cmpI_bd _ _

def boxOf (ax ay bx by_ : Int) : Int × Int × Int × Int := (minI ax bx, minI ay by_, maxI ax bx, maxI ay by_)
theorem bndL_two (ax ay bx by_ : Int) : bndL [(ax, ay), (bx, by_)] = boxOf ax ay bx by_ := rfl
theorem bounds_two (W : World) (ax ay bx by_ : Int) (x : Nat) (c0 : W.cell? ⟨x, 0, none⟩ = some (.int .i32 ax)) (c1 : W.cell? ⟨x, 1, none⟩ = some (.int .i32 ay)) (c2 : W.cell? ⟨x, 2, none⟩ = some (.int .i32 bx)) (c3 : W.cell? ⟨x, 3, none⟩ = some (.int .i32 by_)) :
    Calls Try.prog 61 #[.slice (some ⟨x, 0, none⟩) 2 2] W fun e w' => e = .returned (.tuple #[bxv (boxOf ax ay bx by_), .bool true]) ∧ Gr W w' :=
  bounds_any x 0 2 [(ax, ay), (bx, by_)] W (by simp) (by simp) (by simp) (fun i hi => by
    simp only [List.length_cons, List.length_nil] at hi
    have : i = 0 ∨ i = 1 := by omega
    rcases this with rfl | rfl
    · exact ⟨_, _, rfl, c0, c1⟩
    · exact ⟨_, _, rfl, c2, c3⟩)

def onB (px py ax ay bx by_ : Int) : Bool := hasB (minI ax bx) (minI ay by_) (maxI ax bx) (maxI ay by_) px py && (turnI ax ay bx by_ px py == 0)
set_option maxRecDepth 20000 in
set_option maxHeartbeats 1000000 in
theorem on_any (px py ax ay bx by_ : Int) (h1 : in32 px) (h2 : in32 py) (h3 : in32 ax) (h4 : in32 ay) (h5 : in32 bx) (h6 : in32 by_) (w : World) :
    Calls Try.prog 33 #[pt px py, pt ax ay, pt bx by_] w fun e w' => e = .returned (.bool (onB px py ax ay bx by_)) ∧ Gr w w' := by
  have C : Hid (∀ w, Calls Try.prog 63 #[pt ax ay, pt bx by_, pt px py] w fun e w' => e = .returned (.int .i64 (turnI ax ay bx by_ px py)) ∧ Gr w w') := turn_any ax ay bx by_ px py h3 h4 h5 h6 h1 h2
  have D : Hid (∀ w, Calls Try.prog 62 #[bxv (boxOf ax ay bx by_), pt px py] w fun e w' => e = .returned (.bool (hasB (minI ax bx) (minI ay by_) (maxI ax bx) (maxI ay by_) px py)) ∧ Gr w w') := has_any _ _ _ _ px py
  have E : Hid (onB px py ax ay bx by_ = (hasB (minI ax bx) (minI ay by_) (maxI ax bx) (maxI ay by_) px py && (turnI ax ay bx by_ px py == 0))) := rfl
  clear h1 h2 h3 h4 h5 h6
  generalize hasB (minI ax bx) (minI ay by_) (maxI ax bx) (maxI ay by_) px py = H at *
  generalize turnI ax ay bx by_ px py = T at *
  have B2 : Hid (∀ W x, W.cell? ⟨x, 0, none⟩ = some (.int .i32 ax) → W.cell? ⟨x, 1, none⟩ = some (.int .i32 ay) → W.cell? ⟨x, 2, none⟩ = some (.int .i32 bx) → W.cell? ⟨x, 3, none⟩ = some (.int .i32 by_) →
    Calls Try.prog 61 #[.slice (some ⟨x, 0, none⟩) 2 2] W fun e w' => e = .returned (.tuple #[bxv (boxOf ax ay bx by_), .bool true]) ∧ Gr W w') := fun W x c0 c1 c2 c3 => bounds_two W ax ay bx by_ x c0 c1 c2 c3
  generalize boxOf ax ay bx by_ = R at *
  go_enter Try.func33, Try.ntmps33
  go_wp2_with fail
  refine (B2.out _ _ ?_ ?_ ?_ ?_).mono ?_
  · go_simp
  · go_simp
  · go_simp
  · go_simp
  rintro e w1 ⟨rfl, g1⟩
  obtain ⟨c1, f1⟩ := g1.cells
  have z1 := g1.size
  simp only [World.size_alloc] at z1
  have n1 : w.heap.size < w1.heap.size := by omega
  have n2 : w.heap.size + 1 < w1.heap.size := by omega
  have n3 : w.heap.size + 1 + 1 < w1.heap.size := by omega
  go_wp2_with fail
  refine (D.out _).mono ?_
  rintro e w2 ⟨rfl, g2⟩
  obtain ⟨c2, f2⟩ := g2.cells
  have z2 := g2.size
  simp only [World.size_alloc] at z2
  have y0 : w2.cell? ⟨w.heap.size, 0, none⟩ = some (.int .i32 px) := by rw [c2 _ _ (by simp; omega)]; go_simp
  have y1 : w2.cell? ⟨w.heap.size, 1, none⟩ = some (.int .i32 py) := by rw [c2 _ _ (by simp; omega)]; go_simp
  have y2 : w2.cell? ⟨w.heap.size + 1, 0, none⟩ = some (.int .i32 ax) := by rw [c2 _ _ (by simp; omega)]; go_simp
  have y3 : w2.cell? ⟨w.heap.size + 1, 1, none⟩ = some (.int .i32 ay) := by rw [c2 _ _ (by simp; omega)]; go_simp
  have y4 : w2.cell? ⟨w.heap.size + 1 + 1, 0, none⟩ = some (.int .i32 bx) := by rw [c2 _ _ (by simp; omega)]; go_simp
  have y5 : w2.cell? ⟨w.heap.size + 1 + 1, 1, none⟩ = some (.int .i32 by_) := by rw [c2 _ _ (by simp; omega)]; go_simp
  have hG : Gr w w2 := (((((((Gr.refl _).alloc _).alloc _).alloc _).alloc _).trans g1).alloc _).trans g2
  clear c1 f1 c2 f2 g1 g2 z1 z2 n1 n2 n3
  cases H with
  | true =>
    go_wp2_with fail
    refine (C.out _).mono ?_
    rintro e w3 ⟨rfl, g3⟩
    go_wp2
    go_ret
    exact ⟨by rw [E.out]; rfl, hG.trans g3⟩
  | false =>
    go_wp2
    go_ret
    exact ⟨by rw [E.out]; rfl, hG⟩
end
section
open Go.RowKit Go.Sort

/-- Eight cells of two boxes. -/
structure BoxesAre (W : World) (b : Nat) (a0 a1 a2 a3 b0 b1 b2 b3 : Int) : Prop where
  c0 : W.cell? ⟨b, 0, none⟩ = some (.int .i32 a0)
  c1 : W.cell? ⟨b, 1, none⟩ = some (.int .i32 a1)
  c2 : W.cell? ⟨b, 2, none⟩ = some (.int .i32 a2)
  c3 : W.cell? ⟨b, 3, none⟩ = some (.int .i32 a3)
  c4 : W.cell? ⟨b + 1, 0, none⟩ = some (.int .i32 b0)
  c5 : W.cell? ⟨b + 1, 1, none⟩ = some (.int .i32 b1)
  c6 : W.cell? ⟨b + 1, 2, none⟩ = some (.int .i32 b2)
  c7 : W.cell? ⟨b + 1, 3, none⟩ = some (.int .i32 b3)
theorem BoxesAre.gr {W W' : World} {b : Nat} {a0 a1 a2 a3 b0 b1 b2 b3 : Int} (h : BoxesAre W b a0 a1 a2 a3 b0 b1 b2 b3) (g : Below W.heap.size W W') : BoxesAre W' b a0 a1 a2 a3 b0 b1 b2 b3 :=
  ⟨below_cell h.c0 g, below_cell h.c1 g, below_cell h.c2 g, below_cell h.c3 g, below_cell h.c4 g, below_cell h.c5 g, below_cell h.c6 g, below_cell h.c7 g⟩
theorem BoxesAre.new (w : World) (a0 a1 a2 a3 b0 b1 b2 b3 : Int) : BoxesAre ((w.alloc (.cells #[.int .i32 a0, .int .i32 a1, .int .i32 a2, .int .i32 a3] 65)).alloc (.cells #[.int .i32 b0, .int .i32 b1, .int .i32 b2, .int .i32 b3] 65)) w.heap.size a0 a1 a2 a3 b0 b1 b2 b3 :=
  ⟨by go_simp, by go_simp, by go_simp, by go_simp, by go_simp, by go_simp, by go_simp, by go_simp⟩

/-- Whether two boxes meet. -/
def meetB (a0 a1 a2 a3 b0 b1 b2 b3 : Int) : Bool := rightB (maxI a0 b0) (maxI a1 b1) (minI a2 b2) (minI a3 b3)
theorem meet_apart (a0 a1 a2 a3 b0 b1 b2 b3 : Int) : meetB a0 a1 a2 a3 b0 b1 b2 b3 = (rightB a0 a1 a2 a3 && rightB b0 b1 b2 b3 && !(decide (a2 < b0) || decide (b2 < a0) || decide (a3 < b1) || decide (b3 < a1))) := by
  unfold meetB rightB maxI minI
  grind
end
end Go.Proofs.Ytljdnahomhbenaa
