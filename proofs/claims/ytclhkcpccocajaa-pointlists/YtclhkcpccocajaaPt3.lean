/- Contracts of the program's On and Around, and of the law's own shifted point. -/
import Derived.Test.YtclhkcpccocajaaBnd
import Derived.BigQuiet
import Derived.Deep.DeepMust
namespace Go.Proofs.Ytclhkcpccocajaa
open Go.RowKit Go.Sort

theorem cell_gr {W : World} {a : Addr} {x : Value} (h : W.cell? a = some x) : ∀ n os, (grow (W.drewN n) os).cell? a = some x :=
  fun n os => cell_grown (World.block_lt_of_cell? _ _ h) h n os

theorem cmpN_gr (a b : Int) (w : World) : Calls Try.prog 52 #[.int .i64 a, .int .i64 b] w fun e w' => e = .returned (.int .i64 (cmpI a b)) ∧ Gr w w' :=
  (cmpN_any a b w).mono fun _ _ ⟨h, k⟩ => ⟨h, k ▸ Gr.refl _⟩

def aroundI (ox oy ax ay bx by_ : Int) : Int := if cmpI (halfI ox oy ax ay) (halfI ox oy bx by_) = 0 then -turnI ox oy ax ay bx by_ else cmpI (halfI ox oy ax ay) (halfI ox oy bx by_)
theorem turnI_bd (ox oy ax ay bx by_ : Int) : -1 ≤ turnI ox oy ax ay bx by_ ∧ turnI ox oy ax ay bx by_ ≤ 1 := cmpI_bd _ _

set_option maxRecDepth 20000 in
set_option maxHeartbeats 1000000 in
theorem around_any (ox oy ax ay bx by_ : Int) (h1 : in32 ox) (h2 : in32 oy) (h3 : in32 ax) (h4 : in32 ay) (h5 : in32 bx) (h6 : in32 by_) (w : World) :
    Calls Try.prog 22 #[pt ox oy, pt ax ay, pt bx by_] w fun e w' => e = .returned (.int .i64 (aroundI ox oy ax ay bx by_)) ∧ Gr w w' := by
  have C : Hid (∀ w, Calls Try.prog 20 #[pt ox oy, pt ax ay, pt bx by_] w fun e w' => e = .returned (.int .i64 (turnI ox oy ax ay bx by_)) ∧ Gr w w') := turn_any ox oy ax ay bx by_ h1 h2 h3 h4 h5 h6
  have tb := turnI_bd ox oy ax ay bx by_
  have E : Hid (aroundI ox oy ax ay bx by_ = if cmpI (halfI ox oy ax ay) (halfI ox oy bx by_) = 0 then -turnI ox oy ax ay bx by_ else cmpI (halfI ox oy ax ay) (halfI ox oy bx by_)) := rfl
  clear h1 h2 h3 h4 h5 h6
  generalize turnI ox oy ax ay bx by_ = T at *
  go_enter Try.func22, Try.ntmps22
  go_wp2
  have hG : Gr w (((w.alloc (.cells #[.int .i32 ox, .int .i32 oy] 23)).alloc (.cells #[.int .i32 ax, .int .i32 ay] 23)).alloc (.cells #[.int .i32 bx, .int .i32 by_] 23)) := (((Gr.refl _).alloc _).alloc _).alloc _
  have x0 := cell_gr (show (((w.alloc (.cells #[.int .i32 ox, .int .i32 oy] 23)).alloc (.cells #[.int .i32 ax, .int .i32 ay] 23)).alloc (.cells #[.int .i32 bx, .int .i32 by_] 23)).cell? ⟨w.heap.size, 0, none⟩ = some (.int .i32 ox) by go_simp)
  have x1 := cell_gr (show (((w.alloc (.cells #[.int .i32 ox, .int .i32 oy] 23)).alloc (.cells #[.int .i32 ax, .int .i32 ay] 23)).alloc (.cells #[.int .i32 bx, .int .i32 by_] 23)).cell? ⟨w.heap.size, 1, none⟩ = some (.int .i32 oy) by go_simp)
  have x2 := cell_gr (show (((w.alloc (.cells #[.int .i32 ox, .int .i32 oy] 23)).alloc (.cells #[.int .i32 ax, .int .i32 ay] 23)).alloc (.cells #[.int .i32 bx, .int .i32 by_] 23)).cell? ⟨w.heap.size + 1, 0, none⟩ = some (.int .i32 ax) by go_simp)
  have x3 := cell_gr (show (((w.alloc (.cells #[.int .i32 ox, .int .i32 oy] 23)).alloc (.cells #[.int .i32 ax, .int .i32 ay] 23)).alloc (.cells #[.int .i32 bx, .int .i32 by_] 23)).cell? ⟨w.heap.size + 1, 1, none⟩ = some (.int .i32 ay) by go_simp)
  have x4 := cell_gr (show (((w.alloc (.cells #[.int .i32 ox, .int .i32 oy] 23)).alloc (.cells #[.int .i32 ax, .int .i32 ay] 23)).alloc (.cells #[.int .i32 bx, .int .i32 by_] 23)).cell? ⟨w.heap.size + 1 + 1, 0, none⟩ = some (.int .i32 bx) by go_simp)
  have x5 := cell_gr (show (((w.alloc (.cells #[.int .i32 ox, .int .i32 oy] 23)).alloc (.cells #[.int .i32 ax, .int .i32 ay] 23)).alloc (.cells #[.int .i32 bx, .int .i32 by_] 23)).cell? ⟨w.heap.size + 1 + 1, 1, none⟩ = some (.int .i32 by_) by go_simp)
  generalize ((w.alloc (.cells #[.int .i32 ox, .int .i32 oy] 23)).alloc (.cells #[.int .i32 ax, .int .i32 ay] 23)).alloc (.cells #[.int .i32 bx, .int .i32 by_] 23) = W at *
  refine wp_region_quiet_grown (by kernel_rfl) (by kernel_rfl) ?_
  repeat (go_big_quiet_step (first | (go_at_call 53; exact Calls.grown_of (half_any _ _ _ _ _)) | (go_at_call 52; exact Calls.grown_of (cmpN_gr _ _ _))))
  refine wpQuiet_nil ?_
  intro _ hw'
  obtain ⟨⟨nq, osq⟩, hw''⟩ := hw'
  subst hw''
  have g := hG.trans ⟨nq, osq, rfl⟩
  generalize halfI ox oy ax ay = A at *
  generalize halfI ox oy bx by_ = B at *
  by_cases hz : cmpI A B = 0
  · have hz' : (cmpI A B != 0) = false := by simp [hz]
    rw [if_pos hz] at E
    clear hz
    generalize cmpI A B = D at *
    have y0 := x0 nq osq
    have y1 := x1 nq osq
    have y2 := x2 nq osq
    have y3 := x3 nq osq
    have y4 := x4 nq osq
    have y5 := x5 nq osq
    clear x0 x1 x2 x3 x4 x5 hG
    generalize grow (W.drewN nq) osq = W1 at *
    have e64 : wrap64 (-T) = -T := by unfold wrap64; omega
    go_wp2_with fail
    refine (C.out _).mono ?_
    rintro e w1 ⟨rfl, g1⟩
    go_wp2
    go_ret
    refine ⟨?_, g.trans g1⟩
    rw [E.out]
    first | rfl | (rw [← e64]; rfl)
  · have hz' : (cmpI A B != 0) = true := by simp [hz]
    rw [if_neg hz] at E
    clear hz
    go_wp2
    go_ret
    exact ⟨by rw [E.out]; rfl, g⟩

def boxOf (ax ay bx by_ : Int) : Int × Int × Int × Int := (minI ax bx, minI ay by_, maxI ax bx, maxI ay by_)
theorem bndL_two (ax ay bx by_ : Int) : bndL [(ax, ay), (bx, by_)] = boxOf ax ay bx by_ := rfl
theorem bounds_two (W : World) (ax ay bx by_ : Int) (x : Nat) (c0 : W.cell? ⟨x, 0, none⟩ = some (.int .i32 ax)) (c1 : W.cell? ⟨x, 1, none⟩ = some (.int .i32 ay)) (c2 : W.cell? ⟨x, 2, none⟩ = some (.int .i32 bx)) (c3 : W.cell? ⟨x, 3, none⟩ = some (.int .i32 by_)) :
    Calls Try.prog 40 #[.slice (some ⟨x, 0, none⟩) 2 2] W fun e w' => e = .returned (.tuple #[bxv (boxOf ax ay bx by_), .bool true]) ∧ Gr W w' :=
  bounds_any x 0 2 [(ax, ay), (bx, by_)] W (by simp) (by simp) (by simp) (fun i hi => by
    simp only [List.length_cons, List.length_nil] at hi
    have : i = 0 ∨ i = 1 := by omega
    rcases this with rfl | rfl
    · exact ⟨_, _, rfl, c0, c1⟩
    · exact ⟨_, _, rfl, c2, c3⟩)

def onB (px py ax ay bx by_ : Int) : Bool := hasB (minI ax bx) (minI ay by_) (maxI ax bx) (maxI ay by_) px py && (turnI ax ay bx by_ px py == 0)
set_option maxRecDepth 20000 in
set_option maxHeartbeats 1000000 in
theorem on_any (px py ax ay bx by_ : Int) (h1 : in32 px) (h2 : in32 py) (h3 : in32 ax) (h4 : in32 ay) (h5 : in32 bx) (h6 : in32 by_) (w : World) :
    Calls Try.prog 24 #[pt px py, pt ax ay, pt bx by_] w fun e w' => e = .returned (.bool (onB px py ax ay bx by_)) ∧ Gr w w' := by
  have C : Hid (∀ w, Calls Try.prog 20 #[pt ax ay, pt bx by_, pt px py] w fun e w' => e = .returned (.int .i64 (turnI ax ay bx by_ px py)) ∧ Gr w w') := turn_any ax ay bx by_ px py h3 h4 h5 h6 h1 h2
  have D : Hid (∀ w, Calls Try.prog 28 #[bxv (boxOf ax ay bx by_), pt px py] w fun e w' => e = .returned (.bool (hasB (minI ax bx) (minI ay by_) (maxI ax bx) (maxI ay by_) px py)) ∧ Gr w w') := has_any _ _ _ _ px py
  have E : Hid (onB px py ax ay bx by_ = (hasB (minI ax bx) (minI ay by_) (maxI ax bx) (maxI ay by_) px py && (turnI ax ay bx by_ px py == 0))) := rfl
  clear h1 h2 h3 h4 h5 h6
  generalize hasB (minI ax bx) (minI ay by_) (maxI ax bx) (maxI ay by_) px py = H at *
  generalize turnI ax ay bx by_ px py = T at *
  have B2 : Hid (∀ W x, W.cell? ⟨x, 0, none⟩ = some (.int .i32 ax) → W.cell? ⟨x, 1, none⟩ = some (.int .i32 ay) → W.cell? ⟨x, 2, none⟩ = some (.int .i32 bx) → W.cell? ⟨x, 3, none⟩ = some (.int .i32 by_) →
    Calls Try.prog 40 #[.slice (some ⟨x, 0, none⟩) 2 2] W fun e w' => e = .returned (.tuple #[bxv (boxOf ax ay bx by_), .bool true]) ∧ Gr W w') := fun W x c0 c1 c2 c3 => bounds_two W ax ay bx by_ x c0 c1 c2 c3
  generalize boxOf ax ay bx by_ = R at *
  go_enter Try.func24, Try.ntmps24
  go_wp2_with fail
  refine (B2.out _ _ ?_ ?_ ?_ ?_).mono ?_
  · go_simp
  · go_simp
  · go_simp
  · go_simp
  rintro e w1 ⟨rfl, g1⟩
  obtain ⟨c1, f1⟩ := g1.cells
  have z1 := g1.size
  simp only [World.size_alloc] at z1
  have n1 : w.heap.size < w1.heap.size := by omega
  have n2 : w.heap.size + 1 < w1.heap.size := by omega
  have n3 : w.heap.size + 1 + 1 < w1.heap.size := by omega
  go_wp2_with fail
  refine (D.out _).mono ?_
  rintro e w2 ⟨rfl, g2⟩
  obtain ⟨c2, f2⟩ := g2.cells
  have z2 := g2.size
  simp only [World.size_alloc] at z2
  have y0 : w2.cell? ⟨w.heap.size, 0, none⟩ = some (.int .i32 px) := by rw [c2 _ _ (by simp; omega)]; go_simp
  have y1 : w2.cell? ⟨w.heap.size, 1, none⟩ = some (.int .i32 py) := by rw [c2 _ _ (by simp; omega)]; go_simp
  have y2 : w2.cell? ⟨w.heap.size + 1, 0, none⟩ = some (.int .i32 ax) := by rw [c2 _ _ (by simp; omega)]; go_simp
  have y3 : w2.cell? ⟨w.heap.size + 1, 1, none⟩ = some (.int .i32 ay) := by rw [c2 _ _ (by simp; omega)]; go_simp
  have y4 : w2.cell? ⟨w.heap.size + 1 + 1, 0, none⟩ = some (.int .i32 bx) := by rw [c2 _ _ (by simp; omega)]; go_simp
  have y5 : w2.cell? ⟨w.heap.size + 1 + 1, 1, none⟩ = some (.int .i32 by_) := by rw [c2 _ _ (by simp; omega)]; go_simp
  have hG : Gr w w2 := (((((((Gr.refl _).alloc _).alloc _).alloc _).alloc _).trans g1).alloc _).trans g2
  clear c1 f1 c2 f2 g1 g2 z1 z2 n1 n2 n3
  cases H with
  | true =>
    go_wp2_with fail
    refine (C.out _).mono ?_
    rintro e w3 ⟨rfl, g3⟩
    go_wp2
    go_ret
    exact ⟨by rw [E.out]; rfl, hG.trans g3⟩
  | false =>
    go_wp2
    go_ret
    exact ⟨by rw [E.out]; rfl, hG⟩
end Go.Proofs.Ytclhkcpccocajaa
