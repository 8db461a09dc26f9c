/- Check of a polygon without holes. Plain facts on turns: a turn told from another point on, backwards, shifted; what is on a segment; products of the lattice. -/
import Derived.Test.YtgcofpfjdplopaaGreatNp9J
import Derived.Test.YtgcofpfjdplopaaGreatCkJ
import Derived.Test.YtgcofpfjdplopaaGreatPf
import Derived.Test.YtgcofpfjdplopaaGreatGcdJ
namespace Go.Proofs.YtgcofpfjdplopaaGreat
section
set_option linter.unusedSimpArgs false
open Go.RowKit Go.Shelf Go.Sort

set_option maxRecDepth 20000 in
set_option maxHeartbeats 8000000 in
theorem within0 (vo ho : Option Addr) (m vc hc : Nat) (w : World) : Calls Tryz.prog 78 #[.slice vo m vc, .slice ho 0 hc] w fun e w' => e = .returned (.bool true) ∧ w' = w := by
  go_enter Tryz.func78, Tryz.ntmps78
  go_wp2
  go_loopw [6, 9] (fun _ i wr => i = .int .i64 0 ∧ wr = w) (fun _ _ _ => 0)
  case atStart => exact ⟨rfl, rfl⟩
  case round =>
    obtain ⟨rfl, rfl⟩ := hrel
    go_wp2
    go_ret
    exact ⟨rfl, rfl⟩
set_option maxRecDepth 20000 in
set_option maxHeartbeats 8000000 in
theorem apart0 (ho : Option Addr) (hc : Nat) (w : World) : Calls Tryz.prog 79 #[.slice ho 0 hc] w fun e w' => e = .returned (.bool true) ∧ w' = w := by
  go_enter Tryz.func79, Tryz.ntmps79
  go_wp2
  go_loopw [3, 4, 6, 9] (fun _ _ _ i wr => i = .int .i64 0 ∧ wr = w) (fun _ _ _ _ _ => 0)
  case atStart => exact ⟨rfl, rfl⟩
  case round =>
    obtain ⟨rfl, rfl⟩ := hrel
    go_wp2
    go_ret
    exact ⟨rfl, rfl⟩

theorem pf_range (L : List (Int × Int)) (i j : Nat) : -9223372036854775808 ≤ pfI L i j ∧ pfI L i j ≤ 9223372036854775807 := by
  unfold pfI; split <;> split <;> omega

set_option maxRecDepth 20000 in
set_option maxHeartbeats 8000000 in
theorem fault0 (vo ho : Option Addr) (l : List (Int × Int)) (vc hc : Nat) (hl : l.length ≤ 17592186043904) (hno : vo = none → l.length = 0 ∧ vc = 0) (hg : ∀ r, CheckIs (pfI l) l r → r = (0, 0, 0)) (w : World) (hP : Pts w vo l) :
    Calls Tryz.prog 40 #[.slice vo l.length vc, .slice ho 0 hc] w fun e w' => e = .returned (.int .i64 0) ∧ Below w.heap.size w w' := by
  have RC : Hid (Calls Tryz.prog 77 #[.slice vo l.length vc] w fun e w' => e = .returned (.tuple #[.int .i64 0, .int .i64 0, .int .i64 0]) ∧ Below w.heap.size w w') := (check_any (pfI l) (pf_range l) vo vc l hl hno w hP (fun W i j hW hij hj => pair_any vo vc l hl i j (by omega) hj W (hP.mono hW))).mono (fun e w' ⟨r, h1, h2, h3⟩ => by rw [hg r h2] at h1; exact ⟨h1, h3⟩)
  have WI := hid' (within0 vo ho l.length vc hc)
  have AP := hid' (apart0 ho hc)
  clear hP hno hg
  go_enter Tryz.func40, Tryz.ntmps40
  go_wp2_with (go_at_call 77; refine RC.out.mono ?_; rintro e w3 ⟨rfl, g3⟩; replace g3 := hid' g3)
  go_loopw [9, 10, 11, 12, 27] (fun _ _ _ _ i wr => i = .int .i64 0 ∧ Hid (wr = w3)) (fun _ _ _ _ _ _ => 0)
  case atStart => exact ⟨rfl, by exact rfl⟩
  case round =>
    obtain ⟨rfl, hw⟩ := hrel
    go_wp2_with (first
      | (go_at_call 78; refine (WI.out _).mono ?_; rintro e w4 ⟨rfl, rfl⟩)
      | (go_at_call 79; refine (AP.out _).mono ?_; rintro e w5 ⟨rfl, rfl⟩))
    go_ret
    exact ⟨rfl, by rw [hw.out]; exact g3.out⟩

theorem for1 {m n : Nat} : forB 1 m n 0 = false := by unfold forB; simp
set_option maxRecDepth 20000 in
set_option maxHeartbeats 8000000 in
theorem check_poly0 (vo ho : Option Addr) (l : List (Int × Int)) (vc hc : Nat) (hl : l.length ≤ 17592186043904) (hno : vo = none → l.length = 0 ∧ vc = 0) (hg : ∀ r, CheckIs (pfI l) l r → r = (0, 0, 0)) (w : World) (hP : Pts w vo l) :
    Calls Tryz.prog 14 #[shp 1 0 vo ho l.length vc 0 hc] w fun e w' => e = .returned (.int .i64 0) ∧ Below w.heap.size w w' := by
  obtain ⟨W, hW⟩ : ∃ W, W = w.alloc (.cells #[.int .u8 1, .slice vo l.length vc, .slice ho 0 hc, .int .i32 0] 26) := ⟨_, rfl⟩
  have g : Gr w W := by rw [hW]; exact (Gr.refl _).alloc _
  have kS : Bl W w.heap.size 26 #[.int .u8 1, .slice vo l.length vc, .slice ho 0 hc, .int .i32 0] := by rw [hW]; exact Bl.new w 26 _
  have FO : Hid (∀ W', Calls Tryz.prog 39 #[shp 1 0 vo ho l.length vc 0 hc] W' fun e w' => e = .returned (.bool false) ∧ Gr W' w') := fun W' => by have := foreign_any 1 vo ho l.length 0 vc hc 0 hl (by omega) W'; rwa [for1] at this
  have PF : Hid (∀ W', Below W.heap.size W W' → Calls Tryz.prog 40 #[.slice vo l.length vc, .slice ho 0 hc] W' fun e w' => e = .returned (.int .i64 0) ∧ Below W'.heap.size W' w') := fun W' h' => fault0 vo ho l vc hc hl hno hg W' ((hP.mono g.below).mono h')
  obtain ⟨p0, p1, p2, p3⟩ := four_below9 kS
  have x0 := p0 W (Below.refl _ _)
  have x1 := p1 W (Below.refl _ _)
  have x2 := p2 W (Below.refl _ _)
  have x3 := p3 W (Below.refl _ _)
  have gb : Hid (Below w.heap.size w W) := g.below
  have gs : Hid (w.heap.size ≤ W.heap.size) := g.size
  clear g kS hP hno hg
  go_enter Tryz.func14, Tryz.ntmps14
  go_upto_region 1 with fail
  rw [← hW]
  clear hW
  go_wp2_with (first
    | (go_at_call 39; refine (FO.out _).mono ?_; rintro e w3 ⟨rfl, g3⟩; have y0 := p0 _ g3.below; have y1 := p1 _ g3.below; have y2 := p2 _ g3.below; have y3 := p3 _ g3.below)
    | (go_at_call 40; refine (PF.out _ g3.below).mono ?_; rintro e w4 ⟨rfl, g4⟩))
  go_ret
  exact ⟨rfl, gb.out.trans ((g3.below.trans (g4.mono g3.size)).mono gs.out)⟩
end
section
open Go.RowKit Go.Sort

theorem cmpI_sub {m n m' n' : Int} (h : m - n = m' - n') : cmpI m n = cmpI m' n' := by
  unfold cmpI; split <;> split <;> (try split) <;> (try split) <;> omega
theorem turn_cyc (ox oy ax ay bx by_ : Int) : turnI ax ay bx by_ ox oy = turnI ox oy ax ay bx by_ := by
  unfold turnI; apply cmpI_sub; grind
theorem turn_back (ox oy ax ay bx by_ : Int) : turnI ox oy bx by_ ax ay = -turnI ox oy ax ay bx by_ := by
  unfold turnI
  rw [← cmpI_neg]
  apply cmpI_sub; grind
theorem turn_oo (ox oy ax ay : Int) : turnI ox oy ox oy ax ay = 0 := by
  unfold turnI; rw [cmpI_zero]; grind
theorem turn_aa (ox oy ax ay : Int) : turnI ox oy ax ay ax ay = 0 := by
  unfold turnI; rw [cmpI_zero]; grind
theorem turn_aba (ax ay bx by_ : Int) : turnI ax ay bx by_ ax ay = 0 := by
  unfold turnI; rw [cmpI_zero]; grind
theorem on_a (ax ay bx by_ : Int) : onB ax ay ax ay bx by_ = true := by
  unfold onB; rw [turn_aba]
  unfold hasB rightB minI maxI; grind
theorem on_b (ax ay bx by_ : Int) : onB bx by_ ax ay bx by_ = true := by
  unfold onB; rw [turn_aa]
  unfold hasB rightB minI maxI; grind

theorem prod_bd' {x y M : Int} (h1 : -M ≤ x) (h2 : x ≤ M) (h3 : -M ≤ y) (h4 : y ≤ M) : -(M * M) ≤ x * y ∧ x * y ≤ M * M := by
  have a : x.natAbs ≤ M.toNat := by omega
  have b : y.natAbs ≤ M.toNat := by omega
  have c : (x * y).natAbs ≤ M.toNat * M.toNat := by rw [Int.natAbs_mul]; exact Nat.mul_le_mul a b
  have d : ((M.toNat * M.toNat : Nat) : Int) = M * M := by rw [Int.natCast_mul, Int.toNat_of_nonneg (by omega)]
  omega
theorem lat_bd {v : Int} (h : latB v = true) : -1073741823 ≤ v ∧ v ≤ 1073741823 := by unfold latB at h; simpa using h
theorem cross_fits {ox oy ax ay bx by_ : Int} (h1 : latB ox = true) (h2 : latB oy = true) (h3 : latB ax = true) (h4 : latB ay = true) (h5 : latB bx = true) (h6 : latB by_ = true) :
    wrap64 ((ax - ox) * (by_ - oy) - (ay - oy) * (bx - ox)) = (ax - ox) * (by_ - oy) - (ay - oy) * (bx - ox) := by
  have := lat_bd h1; have := lat_bd h2; have := lat_bd h3; have := lat_bd h4; have := lat_bd h5; have := lat_bd h6
  have p := prod_bd' (x := ax - ox) (y := by_ - oy) (M := 2147483646) (by omega) (by omega) (by omega) (by omega)
  have q := prod_bd' (x := ay - oy) (y := bx - ox) (M := 2147483646) (by omega) (by omega) (by omega) (by omega)
  unfold wrap64; omega
theorem cross_sign (ox oy ax ay bx by_ : Int) : ((0 < (ax - ox) * (by_ - oy) - (ay - oy) * (bx - ox)) ↔ 0 < turnI ox oy ax ay bx by_) ∧ (((ax - ox) * (by_ - oy) - (ay - oy) * (bx - ox) < 0) ↔ turnI ox oy ax ay bx by_ < 0) := by
  unfold turnI cmpI
  constructor <;> split <;> (try split) <;> omega
theorem sq_nonneg (x : Int) : 0 ≤ x * x := by
  rcases Int.le_total 0 x with h | h
  · exact Int.mul_nonneg h h
  · have := Int.mul_nonneg (show (0 : Int) ≤ -x by omega) (show (0 : Int) ≤ -x by omega)
    rwa [Int.neg_mul_neg] at this
theorem sq_zero {x : Int} (h : x * x = 0) : x = 0 := by rcases Int.mul_eq_zero.mp h with h | h <;> exact h
theorem dist_fits {ox oy ax ay : Int} (h1 : latB ox = true) (h2 : latB oy = true) (h3 : latB ax = true) (h4 : latB ay = true) :
    wrap64 ((ax - ox) * (ax - ox) + (ay - oy) * (ay - oy)) = (ax - ox) * (ax - ox) + (ay - oy) * (ay - oy) := by
  have := lat_bd h1; have := lat_bd h2; have := lat_bd h3; have := lat_bd h4
  have p := prod_bd' (x := ax - ox) (y := ax - ox) (M := 2147483646) (by omega) (by omega) (by omega) (by omega)
  have q := prod_bd' (x := ay - oy) (y := ay - oy) (M := 2147483646) (by omega) (by omega) (by omega) (by omega)
  unfold wrap64; omega
theorem dist_zero (ox oy ax ay : Int) : (((ax - ox) * (ax - ox) + (ay - oy) * (ay - oy)) == 0) = (ox == ax && oy == ay) := by
  have p := sq_nonneg (ax - ox)
  have q := sq_nonneg (ay - oy)
  by_cases h : (ax - ox) * (ax - ox) + (ay - oy) * (ay - oy) = 0
  · have h1 := sq_zero (x := ax - ox) (by omega)
    have h2 := sq_zero (x := ay - oy) (by omega)
    rw [show ((ax - ox) * (ax - ox) + (ay - oy) * (ay - oy) == 0) = true by simp [h], show (ox == ax) = true by simp; omega, show (oy == ay) = true by simp; omega]
    rfl
  · rw [show ((ax - ox) * (ax - ox) + (ay - oy) * (ay - oy) == 0) = false by simp [h]]
    by_cases h1 : ox = ax
    · by_cases h2 : oy = ay
      · subst h1 h2; simp at h
      · simp [h2]
    · simp [h1]
theorem dist_nonneg (ox oy ax ay : Int) : 0 ≤ (ax - ox) * (ax - ox) + (ay - oy) * (ay - oy) := by
  have p := sq_nonneg (ax - ox)
  have q := sq_nonneg (ay - oy)
  omega
theorem turn_shift (ox oy ax ay bx by_ u v : Int) : turnI (ox + u) (oy + v) (ax + u) (ay + v) (bx + u) (by_ + v) = turnI ox oy ax ay bx by_ := by
  unfold turnI
  rw [show ax + u - (ox + u) = ax - ox by omega, show by_ + v - (oy + v) = by_ - oy by omega, show ay + v - (oy + v) = ay - oy by omega, show bx + u - (ox + u) = bx - ox by omega]
end
end Go.Proofs.YtgcofpfjdplopaaGreat
