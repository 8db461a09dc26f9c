/- Contracts of the program's fractions and feet: what each answers; the memory that was there is as it was. -/
import Derived.Test.YtgcofpfjdplopaaGreatGcdJ
import Derived.Test.YtgcofpfjdplopaaGreatSegM
namespace Go.Proofs.YtgcofpfjdplopaaGreat
section
open Go.RowKit Go.Sort

abbrev frv (f : Fr) : Value := .agg #[.int .i64 f.1, .int .i64 f.2]
abbrev ptv (p : P2) : Value := pt p.1 p.2
def ins (p : P2) : Prop := in32 p.1 ∧ in32 p.2

theorem gcdI_eq (n d : Int) : gcdI n d = (Int.gcd n d : Int) := by
  unfold gcdI Int.gcd
  have e : ∀ v : Int, (absI v).toNat = v.natAbs := fun v => by unfold absI; split <;> omega
  rw [e, e]
theorem gcd_bd {n d : Int} (hd : d ≠ 0) : 0 < gcdI n d ∧ gcdI n d ≤ absI d := by
  rw [gcdI_eq]
  have h1 : 0 < Int.gcd n d := by
    rcases Nat.eq_zero_or_pos (Int.gcd n d) with h | h
    · exact absurd (Int.gcd_eq_zero_iff.mp h).2 hd
    · exact h
  have h2 : Int.gcd n d ≤ d.natAbs := Nat.le_of_dvd (by omega) (Int.gcd_dvd_natAbs_right n d)
  unfold absI; split <;> omega

set_option maxHeartbeats 1000000 in
theorem lowest_any (n d : Int) (w : World) (h0 : -9223372036854775807 ≤ n) (h1 : n ≤ 9223372036854775807) (h2 : -9223372036854775807 ≤ d) (h3 : d ≤ 9223372036854775807) (hd : d ≠ 0) :
    Calls Tryz.prog 145 #[.int .i64 n, .int .i64 d] w fun e w' => e = .returned (frv (lowF n d)) ∧ Gr w w' := by
  have G : Hid (∀ w, Calls Tryz.prog 154 #[.int .i64 n, .int .i64 d] w fun e w' => e = .returned (.int .u64 (gcdI n d)) ∧ Gr w w') := fun w => wgcd_any n d w (by omega) h1 (by omega) h3
  obtain ⟨g0, g1⟩ := gcd_bd (n := n) hd
  have E : Hid (lowF n d = (Int.tdiv n (sgI d * gcdI n d), Int.tdiv d (sgI d * gcdI n d))) := by unfold Hid lowF; rw [gcdI_eq]
  have g2 : gcdI n d ≤ 9223372036854775807 := by unfold absI at g1; split at g1 <;> omega
  generalize gcdI n d = g at *
  have w1 : wrap64 g = g := by unfold wrap64; omega
  clear g1
  have w2 : wrap64 (-g) = -g := by unfold wrap64; omega
  have tb : ∀ x : Int, -9223372036854775807 ≤ x → x ≤ 9223372036854775807 → wrap64 (Int.tdiv x g) = Int.tdiv x g ∧ wrap64 (-Int.tdiv x g) = -Int.tdiv x g := by
    intro x a b
    have := Int.natAbs_tdiv_le_natAbs x g
    unfold wrap64; constructor <;> omega
  obtain ⟨b1, b2⟩ := tb n h0 h1
  obtain ⟨b3, b4⟩ := tb d h2 h3
  clear tb
  have z0 : ¬ g = 0 := by omega
  by_cases hn : d < 0
  · have z1 : ((-g : Int) == 0) = false := by simp; omega
    have E2 : Hid (lowF n d = (Int.tdiv n (-g), Int.tdiv d (-g))) := by
      unfold Hid; rw [E.out]; unfold sgI; rw [if_pos hn, Int.neg_one_mul]
    have d1 : Int.tdiv n (-g) = -Int.tdiv n g := Int.tdiv_neg n g
    have d2 : Int.tdiv d (-g) = -Int.tdiv d g := Int.tdiv_neg d g
    generalize -Int.tdiv n g = N' at *
    generalize -Int.tdiv d g = D' at *
    clear E b1 b3
    go_enter Tryz.func145, Tryz.ntmps145
    go_wp2_with fail
    refine (G.out _).mono ?_
    rintro e w1 ⟨rfl, q1⟩
    obtain ⟨c1, f1⟩ := q1.cells
    have n1 : w.heap.size < w1.heap.size := by have := q1.size; simp at this; omega
    go_wp2
    go_region
    go_wp2
    refine bodyPost_ret (v := frv (N', D')) (by simp [results, Tryz.results145, go_sem, c1]) rfl ⟨by rw [E2.out, d1, d2], ?_⟩
    exact (((((Gr.refl _).alloc _).trans q1).drew).setCell (by simp) _).setCell (by simp) _
  · have z1 : ((g : Int) == 0) = false := by simp; omega
    have E2 : Hid (lowF n d = (Int.tdiv n g, Int.tdiv d g)) := by
      unfold Hid; rw [E.out]; unfold sgI; rw [if_neg hn, Int.one_mul]
    clear E b2 b4
    go_enter Tryz.func145, Tryz.ntmps145
    go_wp2_with fail
    refine (G.out _).mono ?_
    rintro e w1 ⟨rfl, q1⟩
    obtain ⟨c1, f1⟩ := q1.cells
    have n1 : w.heap.size < w1.heap.size := by have := q1.size; simp at this; omega
    go_wp2
    go_region
    go_wp2
    refine bodyPost_ret (v := frv (Int.tdiv n g, Int.tdiv d g)) (by simp [results, Tryz.results145, go_sem, c1]; exact (Int.tdiv_eq_ediv_of_nonneg (by omega)).symm) rfl ⟨by rw [E2.out], ?_⟩
    exact (((((Gr.refl _).alloc _).trans q1).drew).setCell (by simp) _).setCell (by simp) _

def frOk (f : Fr) : Prop := -9223372036854775807 ≤ f.1 ∧ f.1 ≤ 9223372036854775807 ∧ -9223372036854775807 ≤ f.2 ∧ f.2 ≤ 9223372036854775807
set_option maxHeartbeats 1000000 in
theorem fless_any (x y : Fr) (w : World) (hx : frOk x) (hy : frOk y) :
    Calls Tryz.prog 151 #[frv x, frv y] w fun e w' => e = .returned (.bool (ltF x y)) ∧ Gr w w' := by
  obtain ⟨a, b⟩ := x
  obtain ⟨c, d⟩ := y
  unfold frOk at hx hy
  simp only at hx hy
  have C : Hid (∀ w, Calls Tryz.prog 150 #[.int .i64 a, .int .i64 d, .int .i64 c, .int .i64 b] w fun e w' => e = .returned (.int .i64 (cmpI (a * d) (c * b))) ∧ Gr w w') := fun w => cmpmul_any a d c b w (by omega) (by omega) (by omega) (by omega) (by omega) (by omega) (by omega) (by omega)
  have E : Hid (ltF (a, b) (c, d) = decide (cmpI (a * d) (c * b) < 0)) := by
    unfold Hid ltF cmpI; simp only; rw [decide_eq_decide]; split <;> (try split) <;> omega
  generalize cmpI (a * d) (c * b) = T at *
  show Calls Tryz.prog 151 #[.agg #[.int .i64 a, .int .i64 b], .agg #[.int .i64 c, .int .i64 d]] w _
  go_enter Tryz.func151, Tryz.ntmps151
  go_wp2_with fail
  refine (C.out _).mono ?_
  rintro e w1 ⟨rfl, q1⟩
  go_wp2
  go_ret
  exact ⟨by rw [E.out]; rfl, (((Gr.refl _).alloc _).alloc _).trans q1⟩

theorem turn_sign (A : Int) : ∀ m n : Int, m - n = A → cmpI m n = if A < 0 then -1 else if 0 < A then 1 else 0 := by
  intro m n h; unfold cmpI; split <;> split <;> (try split) <;> (try split) <;> omega
theorem turn_mul (A B : Int) : ((if A < 0 then -1 else if 0 < A then 1 else 0 : Int) * (if B < 0 then -1 else if 0 < B then 1 else 0 : Int) < 0) ↔ oppS A B = true := by
  rw [oppS_iff]
  by_cases h1 : A < 0 <;> by_cases h2 : 0 < A <;> by_cases h3 : B < 0 <;> by_cases h4 : 0 < B <;> simp [h1, h2, h3, h4] <;> omega
theorem turn_g (ox oy ax ay bx by_ : Int) (w : World) (h1 : in32 ox) (h2 : in32 oy) (h3 : in32 ax) (h4 : in32 ay) (h5 : in32 bx) (h6 : in32 by_) :
    Calls Tryz.prog 140 #[pt ox oy, pt ax ay, pt bx by_] w fun e w' => e = .returned (.int .i64 (turnI ox oy ax ay bx by_)) ∧ Gr w w' := turn_any ox oy ax ay bx by_ h1 h2 h3 h4 h5 h6 w
set_option maxHeartbeats 1000000 in
theorem parts_any (a b p q : P2) (w : World) (ha : ins a) (hb : ins b) (hp : ins p) (hq : ins q) :
    Calls Tryz.prog 143 #[ptv a, ptv b, ptv p, ptv q] w fun e w' => e = .returned (.bool (oppS (crs a b p) (crs a b q))) ∧ Gr w w' := by
  obtain ⟨ax, ay⟩ := a
  obtain ⟨bx, by_⟩ := b
  obtain ⟨px, py⟩ := p
  obtain ⟨qx, qy⟩ := q
  obtain ⟨i1, i2⟩ := ha
  obtain ⟨i3, i4⟩ := hb
  obtain ⟨i5, i6⟩ := hp
  obtain ⟨i7, i8⟩ := hq
  simp only at i1 i2 i3 i4 i5 i6 i7 i8
  have E : Hid (oppS (crs (ax, ay) (bx, by_) (px, py)) (crs (ax, ay) (bx, by_) (qx, qy)) = decide (turnI ax ay bx by_ px py * turnI ax ay bx by_ qx qy < 0)) := by
    unfold Hid turnI
    rw [turn_sign (crs (ax, ay) (bx, by_) (px, py)) _ _ rfl, turn_sign (crs (ax, ay) (bx, by_) (qx, qy)) _ _ rfl, Bool.eq_iff_iff, decide_eq_true_iff, turn_mul]
  have bd1 : -1 ≤ turnI ax ay bx by_ px py ∧ turnI ax ay bx by_ px py ≤ 1 := cmpI_bd _ _
  have bd2 : -1 ≤ turnI ax ay bx by_ qx qy ∧ turnI ax ay bx by_ qx qy ≤ 1 := cmpI_bd _ _
  have wm : ∀ x y : Int, (-1 ≤ x ∧ x ≤ 1) → (-1 ≤ y ∧ y ≤ 1) → wrap64 (x * y) = x * y := by
    intro x y hx hy
    have : x = -1 ∨ x = 0 ∨ x = 1 := by omega
    rcases this with rfl | rfl | rfl <;> unfold wrap64 <;> omega
  have wm' := wm _ _ bd1 bd2
  clear wm bd1 bd2
  show Calls Tryz.prog 143 #[pt ax ay, pt bx by_, pt px py, pt qx qy] w _
  go_enter Tryz.func143, Tryz.ntmps143
  go_wp2
  have hG : Gr w ((((w.alloc (.cells #[.int .i32 ax, .int .i32 ay] 28)).alloc (.cells #[.int .i32 bx, .int .i32 by_] 28)).alloc (.cells #[.int .i32 px, .int .i32 py] 28)).alloc (.cells #[.int .i32 qx, .int .i32 qy] 28)) := (((((Gr.refl _).alloc _).alloc _).alloc _).alloc _)
  have x0 := cell_gr (show ((((w.alloc (.cells #[.int .i32 ax, .int .i32 ay] 28)).alloc (.cells #[.int .i32 bx, .int .i32 by_] 28)).alloc (.cells #[.int .i32 px, .int .i32 py] 28)).alloc (.cells #[.int .i32 qx, .int .i32 qy] 28)).cell? ⟨w.heap.size, 0, none⟩ = some (.int .i32 ax) by go_simp)
  have x1 := cell_gr (show ((((w.alloc (.cells #[.int .i32 ax, .int .i32 ay] 28)).alloc (.cells #[.int .i32 bx, .int .i32 by_] 28)).alloc (.cells #[.int .i32 px, .int .i32 py] 28)).alloc (.cells #[.int .i32 qx, .int .i32 qy] 28)).cell? ⟨w.heap.size, 1, none⟩ = some (.int .i32 ay) by go_simp)
  have x2 := cell_gr (show ((((w.alloc (.cells #[.int .i32 ax, .int .i32 ay] 28)).alloc (.cells #[.int .i32 bx, .int .i32 by_] 28)).alloc (.cells #[.int .i32 px, .int .i32 py] 28)).alloc (.cells #[.int .i32 qx, .int .i32 qy] 28)).cell? ⟨w.heap.size + 1, 0, none⟩ = some (.int .i32 bx) by go_simp)
  have x3 := cell_gr (show ((((w.alloc (.cells #[.int .i32 ax, .int .i32 ay] 28)).alloc (.cells #[.int .i32 bx, .int .i32 by_] 28)).alloc (.cells #[.int .i32 px, .int .i32 py] 28)).alloc (.cells #[.int .i32 qx, .int .i32 qy] 28)).cell? ⟨w.heap.size + 1, 1, none⟩ = some (.int .i32 by_) by go_simp)
  have x4 := cell_gr (show ((((w.alloc (.cells #[.int .i32 ax, .int .i32 ay] 28)).alloc (.cells #[.int .i32 bx, .int .i32 by_] 28)).alloc (.cells #[.int .i32 px, .int .i32 py] 28)).alloc (.cells #[.int .i32 qx, .int .i32 qy] 28)).cell? ⟨w.heap.size + 1 + 1, 0, none⟩ = some (.int .i32 px) by go_simp)
  have x5 := cell_gr (show ((((w.alloc (.cells #[.int .i32 ax, .int .i32 ay] 28)).alloc (.cells #[.int .i32 bx, .int .i32 by_] 28)).alloc (.cells #[.int .i32 px, .int .i32 py] 28)).alloc (.cells #[.int .i32 qx, .int .i32 qy] 28)).cell? ⟨w.heap.size + 1 + 1, 1, none⟩ = some (.int .i32 py) by go_simp)
  have x6 := cell_gr (show ((((w.alloc (.cells #[.int .i32 ax, .int .i32 ay] 28)).alloc (.cells #[.int .i32 bx, .int .i32 by_] 28)).alloc (.cells #[.int .i32 px, .int .i32 py] 28)).alloc (.cells #[.int .i32 qx, .int .i32 qy] 28)).cell? ⟨w.heap.size + 1 + 1 + 1, 0, none⟩ = some (.int .i32 qx) by go_simp)
  have x7 := cell_gr (show ((((w.alloc (.cells #[.int .i32 ax, .int .i32 ay] 28)).alloc (.cells #[.int .i32 bx, .int .i32 by_] 28)).alloc (.cells #[.int .i32 px, .int .i32 py] 28)).alloc (.cells #[.int .i32 qx, .int .i32 qy] 28)).cell? ⟨w.heap.size + 1 + 1 + 1, 1, none⟩ = some (.int .i32 qy) by go_simp)
  generalize ((((w.alloc (.cells #[.int .i32 ax, .int .i32 ay] 28)).alloc (.cells #[.int .i32 bx, .int .i32 by_] 28)).alloc (.cells #[.int .i32 px, .int .i32 py] 28)).alloc (.cells #[.int .i32 qx, .int .i32 qy] 28)) = W at *
  refine wp_region_quiet_grown (by kernel_rfl) (by kernel_rfl) ?_
  repeat (go_big_quiet_step (first | (go_at_call 140; exact Calls.grown_of (turn_g _ _ _ _ _ _ _ (by assumption) (by assumption) (by assumption) (by assumption) (by assumption) (by assumption)))))
  refine wpQuiet_nil ?_
  intro _ hw'
  obtain ⟨⟨nq, osq⟩, hw''⟩ := hw'
  subst hw''
  have g := hG.trans ⟨nq, osq, rfl⟩
  go_wp2
  go_ret
  exact ⟨by rw [E.out]; rfl, g⟩
end
end Go.Proofs.YtgcofpfjdplopaaGreat
