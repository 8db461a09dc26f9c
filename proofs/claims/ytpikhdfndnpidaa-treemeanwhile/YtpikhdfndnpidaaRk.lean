/- The reference's Crossing. -/
import Derived.Test.YtpikhdfndnpidaaRBnd
import Derived.Test.YtpikhdfndnpidaaRc
import Derived.Test.YtpikhdfndnpidaaTa
set_option linter.unusedSimpArgs false
set_option linter.unusedVariables false
namespace Go.Proofs.Ytpikhdfndnpidaa
open Go.RowKit Go.Sort Go.Shelf
theorem rbounds_two (W : World) (ax ay bx by_ : Int) (x : Nat) (c0 : W.cell? ⟨x, 0, none⟩ = some (.int .i32 ax)) (c1 : W.cell? ⟨x, 1, none⟩ = some (.int .i32 ay)) (c2 : W.cell? ⟨x, 2, none⟩ = some (.int .i32 bx)) (c3 : W.cell? ⟨x, 3, none⟩ = some (.int .i32 by_)) :
    Calls Try.prog 43 #[.slice (some ⟨x, 0, none⟩) 2 2] W fun e w' => e = .returned (.tuple #[bv (boxOf ax ay bx by_), .bool true]) ∧ Gr W w' :=
  rbounds_any (some ⟨x, 0, none⟩) 2 [(ax, ay), (bx, by_)] W (by simp) (fun i hi => by
    simp only [List.length_cons, List.length_nil] at hi
    have : i = 0 ∨ i = 1 := by omega
    rcases this with rfl | rfl
    · exact ⟨_, _, rfl, c0, c1⟩
    · exact ⟨_, _, rfl, c2, c3⟩)
set_option maxHeartbeats 1000000 in
theorem rcrossing_any (base R : Nat) (l : List E) (px py qx qy : Int) (w : World) (h : RefIs w base R l) (hl : l.length ≤ 1000000) : Calls Try.prog 29 #[.pointer (some ⟨R, 0, none⟩), pt px py, pt qx qy] w fun e w' => ∃ u, e = .returned u ∧ Hid (Reads w' u (rngL (boxOf px py qx qy) l)) ∧ Below w.heap.size w w' := by
  have RR := hid0 (fun W (H : RefIs W base R l) => rrange_any base R l (boxOf px py qx qy) W H hl)
  have B2 : Hid (∀ W x, W.cell? ⟨x, 0, none⟩ = some (.int .i32 px) → W.cell? ⟨x, 1, none⟩ = some (.int .i32 py) → W.cell? ⟨x, 2, none⟩ = some (.int .i32 qx) → W.cell? ⟨x, 3, none⟩ = some (.int .i32 qy) → Calls Try.prog 43 #[.slice (some ⟨x, 0, none⟩) 2 2] W fun e w' => e = .returned (.tuple #[bv (boxOf px py qx qy), .bool true]) ∧ Gr W w') := fun W x c0 c1 c2 c3 => rbounds_two W px py qx qy x c0 c1 c2 c3
  generalize boxOf px py qx qy = Q at *
  have g0 := ((Gr.refl w).alloc (.cells #[.int .i32 px, .int .i32 py] 34)).alloc (.cells #[.int .i32 qx, .int .i32 qy] 34)
  have H0 := hid0 (h.gr g0)
  obtain ⟨c0, c1⟩ := ((Bk.new w 34 [.int .i32 px, .int .i32 py]).alloc (.cells #[.int .i32 qx, .int .i32 qy] 34)).two
  have d := (Bk.new (w.alloc (.cells #[.int .i32 px, .int .i32 py] 34)) 34 [.int .i32 qx, .int .i32 qy]).two
  rw [World.size_alloc] at d
  obtain ⟨d0, d1⟩ := d
  have BE0 : BW w ((w.alloc (.cells #[.int .i32 px, .int .i32 py] 34)).alloc (.cells #[.int .i32 qx, .int .i32 qy] 34)) := g0.below
  dsimp only [bv, bx] at RR B2
  clear h
  go_enter Try.func29, Try.ntmps29
  go_upto_region 1 with fail
  generalize (w.alloc (.cells #[.int .i32 px, .int .i32 py] 34)).alloc (.cells #[.int .i32 qx, .int .i32 qy] 34) = W at *
  obtain ⟨BE, hBE⟩ : ∃ BE, BE = w.heap.size := ⟨_, rfl⟩
  rw [← hBE] at c0 c1 d0 d1 ⊢
  clear hBE
  go_wp2_with fail
  obtain ⟨s0, s1, s2, s3⟩ := slice_two W (.int .i32 px) (.int .i32 py) (.int .i32 qx) (.int .i32 qy)
  refine (B2.out _ _ s0 s1 s2 s3).mono ?_
  rintro e w1 ⟨rfl, g1⟩
  have gA := ((Gr.refl W).alloc (.cells #[.int .i32 px, .int .i32 py, .int .i32 qx, .int .i32 qy] 34)).trans g1
  have k7 := Bk.new w1 36 [.int .i32 Q.1, .int .i32 Q.2.1, .int .i32 Q.2.2.1, .int .i32 Q.2.2.2]
  clear B2 s0 s1 s2 s3 c0 c1 d0 d1 g1
  go_upto_region 2 with fail
  have gB := gA.alloc (.cells #[.int .i32 Q.1, .int .i32 Q.2.1, .int .i32 Q.2.2.1, .int .i32 Q.2.2.2] 36)
  obtain ⟨y0, y1, y2, y3⟩ := k7.four
  have R1 := hid0 (RR.out _ (H0.out.gr gB))
  have BB := hid0 (BE0.gr gB)
  clear RR H0
  generalize w1.alloc (.cells #[.int .i32 Q.1, .int .i32 Q.2.1, .int .i32 Q.2.2.1, .int .i32 Q.2.2.2] 36) = W1 at *
  generalize w1.heap.size = BX at *
  go_wp2_with (go_at_call 22; refine R1.out.mono ?_; rintro e w2 ⟨u, rfl, hI, g2⟩)
  go_ret
  exact ⟨u, rfl, hI, BB.out.tr g2⟩
end Go.Proofs.Ytpikhdfndnpidaa
