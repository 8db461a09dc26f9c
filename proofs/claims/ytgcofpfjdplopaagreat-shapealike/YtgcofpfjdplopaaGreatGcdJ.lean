/- Contracts of the program's On and Around, and of the law's own shifted point. Contracts of the program's and the reference's greatest common divisor, and of the reference's products held against one another. -/
import Derived.Test.YtgcofpfjdplopaaGreatBnd
import Derived.BigQuiet
import Derived.Deep.DeepMust
import Derived.Test.YtgcofpfjdplopaaGreatPt1J
import Derived.Test.YtgcofpfjdplopaaGreatBaseJ
namespace Go.Proofs.YtgcofpfjdplopaaGreat
section
open Go.RowKit Go.Sort

theorem cell_gr {W : World} {a : Addr} {x : Value} (h : W.cell? a = some x) : ∀ n os, (grow (W.drewN n) os).cell? a = some x :=
  fun n os => cell_grown (World.block_lt_of_cell? _ _ h) h n os

def aroundI (ox oy ax ay bx by_ : Int) : Int := if cmpI (halfI ox oy ax ay) (halfI ox oy bx by_) = 0 then -turnI ox oy ax ay bx by_ else cmpI (halfI ox oy ax ay) (halfI ox oy bx by_)
theorem turnI_bd (ox oy ax ay bx by_ : Int) : -1 ≤ turnI ox oy ax ay bx by_ ∧ turnI ox oy ax ay bx by_ ≤ 1 := cmpI_bd _ _

def boxOf (ax ay bx by_ : Int) : Int × Int × Int × Int := (minI ax bx, minI ay by_, maxI ax bx, maxI ay by_)
theorem bndL_two (ax ay bx by_ : Int) : bndL [(ax, ay), (bx, by_)] = boxOf ax ay bx by_ := rfl
theorem bounds_two (W : World) (ax ay bx by_ : Int) (x : Nat) (c0 : W.cell? ⟨x, 0, none⟩ = some (.int .i32 ax)) (c1 : W.cell? ⟨x, 1, none⟩ = some (.int .i32 ay)) (c2 : W.cell? ⟨x, 2, none⟩ = some (.int .i32 bx)) (c3 : W.cell? ⟨x, 3, none⟩ = some (.int .i32 by_)) :
    Calls Tryz.prog 138 #[.slice (some ⟨x, 0, none⟩) 2 2] W fun e w' => e = .returned (.tuple #[bxv (boxOf ax ay bx by_), .bool true]) ∧ Gr W w' :=
  bounds_any x 0 2 [(ax, ay), (bx, by_)] W (by simp) (by simp) (by simp) (fun i hi => by
    simp only [List.length_cons, List.length_nil] at hi
    have : i = 0 ∨ i = 1 := by omega
    rcases this with rfl | rfl
    · exact ⟨_, _, rfl, c0, c1⟩
    · exact ⟨_, _, rfl, c2, c3⟩)

def onB (px py ax ay bx by_ : Int) : Bool := hasB (minI ax bx) (minI ay by_) (maxI ax bx) (maxI ay by_) px py && (turnI ax ay bx by_ px py == 0)
set_option maxRecDepth 20000 in
set_option maxHeartbeats 1000000 in
theorem on_any (px py ax ay bx by_ : Int) (h1 : in32 px) (h2 : in32 py) (h3 : in32 ax) (h4 : in32 ay) (h5 : in32 bx) (h6 : in32 by_) (w : World) :
    Calls Tryz.prog 130 #[pt px py, pt ax ay, pt bx by_] w fun e w' => e = .returned (.bool (onB px py ax ay bx by_)) ∧ Gr w w' := by
  have C : Hid (∀ w, Calls Tryz.prog 140 #[pt ax ay, pt bx by_, pt px py] w fun e w' => e = .returned (.int .i64 (turnI ax ay bx by_ px py)) ∧ Gr w w') := turn_any ax ay bx by_ px py h3 h4 h5 h6 h1 h2
  have D : Hid (∀ w, Calls Tryz.prog 139 #[bxv (boxOf ax ay bx by_), pt px py] w fun e w' => e = .returned (.bool (hasB (minI ax bx) (minI ay by_) (maxI ax bx) (maxI ay by_) px py)) ∧ Gr w w') := has_any _ _ _ _ px py
  have E : Hid (onB px py ax ay bx by_ = (hasB (minI ax bx) (minI ay by_) (maxI ax bx) (maxI ay by_) px py && (turnI ax ay bx by_ px py == 0))) := rfl
  clear h1 h2 h3 h4 h5 h6
  generalize hasB (minI ax bx) (minI ay by_) (maxI ax bx) (maxI ay by_) px py = H at *
  generalize turnI ax ay bx by_ px py = T at *
  have B2 : Hid (∀ W x, W.cell? ⟨x, 0, none⟩ = some (.int .i32 ax) → W.cell? ⟨x, 1, none⟩ = some (.int .i32 ay) → W.cell? ⟨x, 2, none⟩ = some (.int .i32 bx) → W.cell? ⟨x, 3, none⟩ = some (.int .i32 by_) →
    Calls Tryz.prog 138 #[.slice (some ⟨x, 0, none⟩) 2 2] W fun e w' => e = .returned (.tuple #[bxv (boxOf ax ay bx by_), .bool true]) ∧ Gr W w') := fun W x c0 c1 c2 c3 => bounds_two W ax ay bx by_ x c0 c1 c2 c3
  generalize boxOf ax ay bx by_ = R at *
  go_enter Tryz.func130, Tryz.ntmps130
  go_wp2_with fail
  refine (B2.out _ _ ?_ ?_ ?_ ?_).mono ?_
  · go_simp
  · go_simp
  · go_simp
  · go_simp
  rintro e w1 ⟨rfl, g1⟩
  obtain ⟨c1, f1⟩ := g1.cells
  have z1 := g1.size
  simp only [World.size_alloc] at z1
  have n1 : w.heap.size < w1.heap.size := by omega
  have n2 : w.heap.size + 1 < w1.heap.size := by omega
  have n3 : w.heap.size + 1 + 1 < w1.heap.size := by omega
  go_wp2_with fail
  refine (D.out _).mono ?_
  rintro e w2 ⟨rfl, g2⟩
  obtain ⟨c2, f2⟩ := g2.cells
  have z2 := g2.size
  simp only [World.size_alloc] at z2
  have y0 : w2.cell? ⟨w.heap.size, 0, none⟩ = some (.int .i32 px) := by rw [c2 _ _ (by simp; omega)]; go_simp
  have y1 : w2.cell? ⟨w.heap.size, 1, none⟩ = some (.int .i32 py) := by rw [c2 _ _ (by simp; omega)]; go_simp
  have y2 : w2.cell? ⟨w.heap.size + 1, 0, none⟩ = some (.int .i32 ax) := by rw [c2 _ _ (by simp; omega)]; go_simp
  have y3 : w2.cell? ⟨w.heap.size + 1, 1, none⟩ = some (.int .i32 ay) := by rw [c2 _ _ (by simp; omega)]; go_simp
  have y4 : w2.cell? ⟨w.heap.size + 1 + 1, 0, none⟩ = some (.int .i32 bx) := by rw [c2 _ _ (by simp; omega)]; go_simp
  have y5 : w2.cell? ⟨w.heap.size + 1 + 1, 1, none⟩ = some (.int .i32 by_) := by rw [c2 _ _ (by simp; omega)]; go_simp
  have hG : Gr w w2 := (((((((Gr.refl _).alloc _).alloc _).alloc _).alloc _).trans g1).alloc _).trans g2
  clear c1 f1 c2 f2 g1 g2 z1 z2 n1 n2 n3
  cases H with
  | true =>
    go_wp2_with fail
    refine (C.out _).mono ?_
    rintro e w3 ⟨rfl, g3⟩
    go_wp2
    go_ret
    exact ⟨by rw [E.out]; rfl, hG.trans g3⟩
  | false =>
    go_wp2
    go_ret
    exact ⟨by rw [E.out]; rfl, hG⟩
end
section
open Go.RowKit Go.Sort

/-- The greatest common divisor of two numbers' sizes. -/
def gcdI (a b : Int) : Int := (Nat.gcd (absI a).toNat (absI b).toNat : Nat)

set_option maxHeartbeats 1000000 in
theorem wgcd_any (a b : Int) (w : World) (ha0 : -9223372036854775808 ≤ a) (ha1 : a ≤ 9223372036854775807) (hb0 : -9223372036854775808 ≤ b) (hb1 : b ≤ 9223372036854775807) :
    Calls Tryz.prog 154 #[.int .i64 a, .int .i64 b] w fun e w' => e = .returned (.int .u64 (gcdI a b)) ∧ Gr w w' := by
  obtain ⟨x1, x2⟩ := absI_bd ha0 ha1
  obtain ⟨y1, y2⟩ := absI_bd hb0 hb1
  unfold gcdI
  obtain ⟨X, hX⟩ := Int.eq_ofNat_of_zero_le x1
  obtain ⟨Y, hY⟩ := Int.eq_ofNat_of_zero_le y1
  rw [hX, hY, Int.toNat_natCast, Int.toNat_natCast]
  have HX : Hid (absI a = X) := hX
  have HY : Hid (absI b = Y) := hY
  have bX : X ≤ 9223372036854775808 := by omega
  have bY : Y ≤ 9223372036854775808 := by omega
  clear hX hY x1 x2 y1 y2
  go_enter Tryz.func154, Tryz.ntmps154
  go_wp2_with (go_at_call 157; refine (size64_any _ _ ?_ ?_).mono ?_; omega; omega; rintro e w' ⟨rfl, rfl⟩)
  rw [HX.out, HY.out]
  go_loopw [5, 6] (fun v5 v6 wr => ∃ P Q : Nat, P ≤ 9223372036854775808 ∧ Q ≤ 9223372036854775808 ∧ v5 = .int .u64 P ∧ v6 = .int .u64 Q ∧ Hid (Nat.gcd P Q = Nat.gcd X Y) ∧ Gr w' wr) (fun _ v6 _ => (intOf v6).toNat)
  case atStart => exact ⟨X, Y, bX, bY, rfl, rfl, rfl, Gr.refl _⟩
  case round =>
    obtain ⟨P, Q, hP, hQ, rfl, rfl, hE, hg⟩ := hrel
    by_cases h0 : Q = 0
    · subst h0
      have E : Hid (Nat.gcd X Y = P) := by have := hE.out; rw [Nat.gcd_zero_right] at this; exact this.symm
      go_wp2
      go_ret
      exact ⟨by rw [E.out]; rfl, hg⟩
    · have h1 : ((Q : Int) != 0) = true := by simp; omega
      have h3 : ((Q : Int) == 0) = false := by simp; omega
      have hM : Hid (((P % Q : Nat) : Int) = (P : Int) % (Q : Int)) := Int.natCast_emod P Q
      have hR : P % Q < Q := Nat.mod_lt _ (by omega)
      have h2 : (0 : Int) < (Q : Int) := by omega
      have E : Hid (Nat.gcd Q (P % Q) = Nat.gcd X Y) := by unfold Hid; rw [← hE.out, Nat.gcd_comm P Q, Nat.gcd_rec Q P, Nat.gcd_comm]
      clear hE h0
      go_wp2
      go_quiet (fail)
      go_wp2
      go_roundw
      case rel => exact ⟨Q, P % Q, hQ, by omega, rfl, by rw [hM.out], E, hg.trans ⟨nq, #[], by rw [grow_empty]⟩⟩
      case measure =>
        show (((P : Int) % (Q : Int)).toNat < ((Q : Int)).toNat)
        rw [← hM.out, Int.toNat_natCast, Int.toNat_natCast]; exact hR
end
end Go.Proofs.YtgcofpfjdplopaaGreat
