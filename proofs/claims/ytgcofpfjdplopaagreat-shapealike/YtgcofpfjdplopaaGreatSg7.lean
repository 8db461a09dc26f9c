/- Contracts of Foot and Near: on the lattice and off it. -/
import Derived.Test.YtgcofpfjdplopaaGreatSg6
namespace Go.Proofs.YtgcofpfjdplopaaGreat
section
open Go.RowKit Go.Sort

theorem ofl3 (W : World) (p a b : P2) (x cap : Nat) (c0 : W.cell? ⟨x, 0, none⟩ = some (.int .i32 p.1)) (c1 : W.cell? ⟨x, 1, none⟩ = some (.int .i32 p.2)) (c2 : W.cell? ⟨x, 2, none⟩ = some (.int .i32 a.1)) (c3 : W.cell? ⟨x, 3, none⟩ = some (.int .i32 a.2)) (c4 : W.cell? ⟨x, 4, none⟩ = some (.int .i32 b.1)) (c5 : W.cell? ⟨x, 5, none⟩ = some (.int .i32 b.2)) :
    Calls Tryz.prog 134 #[.slice (some ⟨x, 0, none⟩) 3 cap] W fun e w' => e = .returned (.bool (latP p && latP a && latP b)) ∧ Gr W w' := by
  have h := ofLat_any x 0 cap [p, a, b] W (by simp) (fun i hi => by
    refine ⟨x, 0, rfl, ?_⟩
    have hi' : i < 3 := hi
    match i, hi' with
    | 0, _ => exact ⟨by simpa using c0, by simpa using c1⟩
    | 1, _ => exact ⟨by simpa using c2, by simpa using c3⟩
    | 2, _ => exact ⟨by simpa using c4, by simpa using c5⟩
    )
  have e : [p, a, b].all latP = (latP p && latP a && latP b) := by simp [Bool.and_assoc]
  rw [e] at h
  exact h
theorem ofl4 (W : World) (a b c d : P2) (x cap : Nat) (c0 : W.cell? ⟨x, 0, none⟩ = some (.int .i32 a.1)) (c1 : W.cell? ⟨x, 1, none⟩ = some (.int .i32 a.2)) (c2 : W.cell? ⟨x, 2, none⟩ = some (.int .i32 b.1)) (c3 : W.cell? ⟨x, 3, none⟩ = some (.int .i32 b.2)) (c4 : W.cell? ⟨x, 4, none⟩ = some (.int .i32 c.1)) (c5 : W.cell? ⟨x, 5, none⟩ = some (.int .i32 c.2)) (c6 : W.cell? ⟨x, 6, none⟩ = some (.int .i32 d.1)) (c7 : W.cell? ⟨x, 7, none⟩ = some (.int .i32 d.2)) :
    Calls Tryz.prog 134 #[.slice (some ⟨x, 0, none⟩) 4 cap] W fun e w' => e = .returned (.bool (latP a && latP b && latP c && latP d)) ∧ Gr W w' := by
  have h := ofLat_any x 0 cap [a, b, c, d] W (by simp) (fun i hi => by
    refine ⟨x, 0, rfl, ?_⟩
    have hi' : i < 4 := hi
    match i, hi' with
    | 0, _ => exact ⟨by simpa using c0, by simpa using c1⟩
    | 1, _ => exact ⟨by simpa using c2, by simpa using c3⟩
    | 2, _ => exact ⟨by simpa using c4, by simpa using c5⟩
    | 3, _ => exact ⟨by simpa using c6, by simpa using c7⟩
    )
  have e : [a, b, c, d].all latP = (latP a && latP b && latP c && latP d) := by simp [Bool.and_assoc]
  rw [e] at h
  exact h

/-- Foot, of any points. -/
def footA (p a b : P2) : Fr := if latP p && latP a && latP b then footF p a b else (0, 1)
theorem foot_any' (p a b : P2) (hp : lat p) (ha : lat a) (hb : lat b) (w : World) : Calls Tryz.prog 142 #[ptv p, ptv a, ptv b] w fun e w' => e = .returned (frv (footF p a b)) ∧ Gr w w' := by
  by_cases h : a = b
  · subst h; exact foot_same p a w
  · exact foot_two p a b hp ha hb h w
/-- Near, of any points and radius. -/
def nearA (p a b : P2) (r : Int) : Bool := decide (0 ≤ r) && (latP p && latP a && latP b) && nearB p a b r
set_option maxHeartbeats 1000000 in
theorem Near_any (p a b : P2) (r : Int) (w : World) : Calls Tryz.prog 197 #[ptv p, ptv a, ptv b, .int .i64 r] w fun e w' => e = .returned (.bool (nearA p a b r)) ∧ Gr w w' := by
  have E : Hid (nearA p a b r = (decide (0 ≤ r) && (latP p && latP a && latP b) && nearB p a b r)) := rfl
  have F : Hid ((latP p && latP a && latP b) = true → 0 ≤ r → ∀ w, Calls Tryz.prog 198 #[ptv p, ptv a, ptv b, .int .i64 r] w fun e w' => e = .returned (.bool (nearB p a b r)) ∧ Gr w w') := fun h hr => by
    rw [Bool.and_eq_true, Bool.and_eq_true, latP_iff, latP_iff, latP_iff] at h
    exact near_any p a b r h.1.1 h.1.2 h.2 hr
  have O : Hid (∀ (W : World) (x : Nat), W.cell? ⟨x, 0, none⟩ = some (.int .i32 p.1) → W.cell? ⟨x, 1, none⟩ = some (.int .i32 p.2) → W.cell? ⟨x, 2, none⟩ = some (.int .i32 a.1) → W.cell? ⟨x, 3, none⟩ = some (.int .i32 a.2) → W.cell? ⟨x, 4, none⟩ = some (.int .i32 b.1) → W.cell? ⟨x, 5, none⟩ = some (.int .i32 b.2) → Calls Tryz.prog 134 #[.slice (some ⟨x, 0, none⟩) 3 3] W fun e w' => e = .returned (.bool (latP p && latP a && latP b)) ∧ Gr W w') := fun W x c0 c1 c2 c3 c4 c5 => ofl3 W p a b x 3 c0 c1 c2 c3 c4 c5
  generalize (latP p && latP a && latP b) = B at *
  generalize nearB p a b r = R at *
  obtain ⟨px, py⟩ := p
  obtain ⟨ax, ay⟩ := a
  obtain ⟨bx, by_⟩ := b
  show Calls Tryz.prog 197 #[pt px py, pt ax ay, pt bx by_, .int .i64 r] w _
  by_cases hr : 0 ≤ r
  · have hd : decide (0 ≤ r) = true := decide_eq_true hr
    go_enter Tryz.func197, Tryz.ntmps197
    go_wp2_with fail
    refine (O.out _ _ ?_ ?_ ?_ ?_ ?_ ?_).mono ?_
    · go_simp
    · go_simp
    · go_simp
    · go_simp
    · go_simp
    · go_simp
    rintro e w1 ⟨rfl, q1⟩
    have hG : Gr w w1 := ((((((Gr.refl _).alloc _).alloc _).alloc _).alloc _)).trans q1
    obtain ⟨c1, f1⟩ := q1.cells
    have n1 := q1.size
    simp only [World.size_alloc] at n1
    have p0 : w1.cell? ⟨w.heap.size, 0, none⟩ = some (.int .i32 px) := by rw [c1 _ _ (by simp only [World.size_alloc]; omega)]; go_simp
    have p1 : w1.cell? ⟨w.heap.size, 1, none⟩ = some (.int .i32 py) := by rw [c1 _ _ (by simp only [World.size_alloc]; omega)]; go_simp
    have p2 : w1.cell? ⟨w.heap.size + 1, 0, none⟩ = some (.int .i32 ax) := by rw [c1 _ _ (by simp only [World.size_alloc]; omega)]; go_simp
    have p3 : w1.cell? ⟨w.heap.size + 1, 1, none⟩ = some (.int .i32 ay) := by rw [c1 _ _ (by simp only [World.size_alloc]; omega)]; go_simp
    have p4 : w1.cell? ⟨w.heap.size + 1 + 1, 0, none⟩ = some (.int .i32 bx) := by rw [c1 _ _ (by simp only [World.size_alloc]; omega)]; go_simp
    have p5 : w1.cell? ⟨w.heap.size + 1 + 1, 1, none⟩ = some (.int .i32 by_) := by rw [c1 _ _ (by simp only [World.size_alloc]; omega)]; go_simp
    clear c1 f1 q1
    cases B with
    | false =>
      go_wp2
      go_ret
      exact ⟨by rw [E.out, hd]; rfl, hG⟩
    | true =>
      have F' := hid' (F.out rfl hr)
      go_wp2_with fail
      refine (F'.out _).mono ?_
      rintro e w2 ⟨rfl, q2⟩
      go_wp2
      go_ret
      exact ⟨by rw [E.out, hd]; rfl, hG.trans q2⟩
  · have hd : decide (0 ≤ r) = false := decide_eq_false hr
    go_enter Tryz.func197, Tryz.ntmps197
    go_wp2
    go_ret
    exact ⟨by rw [E.out, hd]; rfl, ((((Gr.refl _).alloc _).alloc _).alloc _)⟩
end
end Go.Proofs.YtgcofpfjdplopaaGreat
