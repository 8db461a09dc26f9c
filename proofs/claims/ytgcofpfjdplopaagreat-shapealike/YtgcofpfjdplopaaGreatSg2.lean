/- Contracts of the program's feet and meetings, on the lattice. -/
import Derived.Test.YtgcofpfjdplopaaGreatSg1
namespace Go.Proofs.YtgcofpfjdplopaaGreat
section
open Go.RowKit Go.Sort

def lat (p : P2) : Prop := (-1073741823 ≤ p.1 ∧ p.1 ≤ 1073741823) ∧ (-1073741823 ≤ p.2 ∧ p.2 ≤ 1073741823)
theorem lat.ins {p : P2} (h : lat p) : ins p := by unfold lat at h; unfold Go.Proofs.YtgcofpfjdplopaaGreat.ins in32; omega
theorem prod_bd {x y M : Int} (hx : -M ≤ x ∧ x ≤ M) (hy : -M ≤ y ∧ y ≤ M) : -(M * M) ≤ x * y ∧ x * y ≤ M * M := by
  have a : 0 ≤ (M - x) * (M + y) := nn_mul (by omega) (by omega)
  have b : 0 ≤ (M + x) * (M - y) := nn_mul (by omega) (by omega)
  have c : 0 ≤ (M - x) * (M - y) := nn_mul (by omega) (by omega)
  have d : 0 ≤ (M + x) * (M + y) := nn_mul (by omega) (by omega)
  constructor <;> grind
theorem lat_prod {x y : Int} (hx : -2147483646 ≤ x ∧ x ≤ 2147483646) (hy : -2147483646 ≤ y ∧ y ≤ 2147483646) : -4611686009837453316 ≤ x * y ∧ x * y ≤ 4611686009837453316 := prod_bd hx hy
theorem crs_bd {o a b : P2} (ho : lat o) (ha : lat a) (hb : lat b) : -9223372019674906632 ≤ crs o a b ∧ crs o a b ≤ 9223372019674906632 := by
  unfold lat at *; unfold crs
  have x := lat_prod (x := a.1 - o.1) (y := b.2 - o.2) (by omega) (by omega)
  have y := lat_prod (x := a.2 - o.2) (y := b.1 - o.1) (by omega) (by omega)
  omega
theorem dtt_bd {o a b : P2} (ho : lat o) (ha : lat a) (hb : lat b) : -9223372019674906632 ≤ dtt o a b ∧ dtt o a b ≤ 9223372019674906632 := by
  unfold lat at *; unfold dtt
  have x := lat_prod (x := a.1 - o.1) (y := b.1 - o.1) (by omega) (by omega)
  have y := lat_prod (x := a.2 - o.2) (y := b.2 - o.2) (by omega) (by omega)
  omega
theorem dd_bd {a b : P2} (ha : lat a) (hb : lat b) : 0 ≤ dd a b ∧ dd a b ≤ 9223372019674906632 := by
  have n := dd_nn a b
  unfold lat at *; unfold dd at *
  have x := lat_prod (x := b.1 - a.1) (y := b.1 - a.1) (by omega) (by omega)
  have y := lat_prod (x := b.2 - a.2) (y := b.2 - a.2) (by omega) (by omega)
  omega
theorem w64_bd {x : Int} (h : -9223372019674906632 ≤ x ∧ x ≤ 9223372019674906632) : wrap64 x = x := by unfold wrap64; omega
theorem cross_lat (o a b : P2) (ho : lat o) (ha : lat a) (hb : lat b) (w : World) : Calls Tryz.prog 144 #[ptv o, ptv a, ptv b] w fun e w' => e = .returned (.int .i64 (crs o a b)) ∧ Gr w w' := by
  have h := cross_any o.1 o.2 a.1 a.2 b.1 b.2 ho.ins.1 ho.ins.2 ha.ins.1 ha.ins.2 hb.ins.1 hb.ins.2 w
  rw [show (a.1 - o.1) * (b.2 - o.2) - (a.2 - o.2) * (b.1 - o.1) = crs o a b from rfl, w64_bd (crs_bd ho ha hb)] at h
  exact h
theorem dot_lat (o a b : P2) (ho : lat o) (ha : lat a) (hb : lat b) (w : World) : Calls Tryz.prog 152 #[ptv o, ptv a, ptv b] w fun e w' => e = .returned (.int .i64 (dtt o a b)) ∧ Gr w w' := by
  have h := dot_any o.1 o.2 a.1 a.2 b.1 b.2 ho.ins.1 ho.ins.2 ha.ins.1 ha.ins.2 hb.ins.1 hb.ins.2 w
  rw [show (a.1 - o.1) * (b.1 - o.1) + (a.2 - o.2) * (b.2 - o.2) = dtt o a b from rfl, w64_bd (dtt_bd ho ha hb)] at h
  exact h
theorem dist_lat (a b : P2) (ha : lat a) (hb : lat b) (w : World) : Calls Tryz.prog 153 #[ptv a, ptv b] w fun e w' => e = .returned (.int .i64 (dd a b)) ∧ Gr w w' := by
  have h := dist2_any a.1 a.2 b.1 b.2 ha.ins.1 ha.ins.2 hb.ins.1 hb.ins.2 w
  have bd := dd_bd ha hb
  rw [show (b.1 - a.1) * (b.1 - a.1) + (b.2 - a.2) * (b.2 - a.2) = dd a b from rfl, w64_bd (by omega)] at h
  exact h
theorem onB_eq (p a b : P2) : onB p.1 p.2 a.1 a.2 b.1 b.2 = onP p a b := by
  rw [Bool.eq_iff_iff, onP_iff]
  unfold onB On hasB rightB
  have z : turnI a.1 a.2 b.1 b.2 p.1 p.2 = 0 ↔ crs a b p = 0 := by unfold turnI; rw [cmpI_zero]; unfold crs; omega
  simp only [Bool.and_eq_true, decide_eq_true_eq, beq_iff_eq, z]
  unfold minI maxI
  constructor
  · rintro ⟨⟨⟨h1, h2⟩, h3, h4⟩, hc⟩
    refine ⟨hc, ?_, ?_⟩ <;> (split at h1 <;> split at h2 <;> split at h3 <;> split at h4 <;> omega)
  · rintro ⟨hc, h1, h2⟩
    refine ⟨⟨⟨?_, ?_⟩, ?_, ?_⟩, hc⟩ <;> split <;> omega
theorem on_lat (p a b : P2) (hp : ins p) (ha : ins a) (hb : ins b) (w : World) : Calls Tryz.prog 130 #[ptv p, ptv a, ptv b] w fun e w' => e = .returned (.bool (onP p a b)) ∧ Gr w w' := by
  have h := on_any p.1 p.2 a.1 a.2 b.1 b.2 hp.1 hp.2 ha.1 ha.2 hb.1 hb.2 w
  rw [onB_eq] at h
  exact h

set_option maxHeartbeats 1000000 in
theorem foot_same (p a : P2) (w : World) : Calls Tryz.prog 142 #[ptv p, ptv a, ptv a] w fun e w' => e = .returned (frv (footF p a a)) ∧ Gr w w' := by
  have E : footF p a a = (0, 1) := by unfold footF; rw [if_pos rfl]
  rw [E]
  clear E
  obtain ⟨px, py⟩ := p
  obtain ⟨ax, ay⟩ := a
  show Calls Tryz.prog 142 #[pt px py, pt ax ay, pt ax ay] w _
  have e1 : (ax == ax) = true := by simp
  have e2 : (ay == ay) = true := by simp
  go_enter Tryz.func142, Tryz.ntmps142
  go_wp2
  refine bodyPost_ret (v := frv (0, 1)) (by simp [results, Tryz.results142, go_sem]) rfl ⟨rfl, ?_⟩
  exact ((((Gr.refl _).alloc _).alloc _).alloc _).alloc _
set_option maxHeartbeats 1000000 in
theorem foot_two (p a b : P2) (hp : lat p) (ha : lat a) (hb : lat b) (hab : a ≠ b) (w : World) : Calls Tryz.prog 142 #[ptv p, ptv a, ptv b] w fun e w' => e = .returned (frv (footF p a b)) ∧ Gr w w' := by
  have E : Hid (footF p a b = lowF (clampT p a b) (dd a b)) := by unfold Hid footF; rw [if_neg hab]
  have D : Hid (∀ w, Calls Tryz.prog 152 #[ptv a, ptv b, ptv p] w fun e w' => e = .returned (.int .i64 (dtt a b p)) ∧ Gr w w') := dot_lat a b p ha hb hp
  have F : Hid (∀ w, Calls Tryz.prog 153 #[ptv a, ptv b] w fun e w' => e = .returned (.int .i64 (dd a b)) ∧ Gr w w') := dist_lat a b ha hb
  have tb := dtt_bd ha hb hp
  have nb := dd_bd ha hb
  have np := dd_pos hab
  have L : Hid (∀ w, Calls Tryz.prog 145 #[.int .i64 (clampT p a b), .int .i64 (dd a b)] w fun e w' => e = .returned (frv (lowF (clampT p a b) (dd a b))) ∧ Gr w w') := fun w => lowest_any _ _ w (by unfold clampT; omega) (by unfold clampT; omega) (by omega) (by omega) (by omega)
  have cl : clampT p a b = min (max (dtt a b p) 0) (dd a b) := rfl
  generalize lowF (clampT p a b) (dd a b) = R at *
  generalize clampT p a b = K at *
  generalize dtt a b p = T at *
  generalize dd a b = N at *
  obtain ⟨px, py⟩ := p
  obtain ⟨ax, ay⟩ := a
  obtain ⟨bx, by_⟩ := b
  have D' : Hid (∀ w, Calls Tryz.prog 152 #[pt ax ay, pt bx by_, pt px py] w fun e w' => e = .returned (.int .i64 T) ∧ Gr w w') := D
  have F' : Hid (∀ w, Calls Tryz.prog 153 #[pt ax ay, pt bx by_] w fun e w' => e = .returned (.int .i64 N) ∧ Gr w w') := F
  clear D F
  show Calls Tryz.prog 142 #[pt px py, pt ax ay, pt bx by_] w _
  have hne : (ax == bx) = false ∨ ((ax == bx) = true ∧ (ay == by_) = false) := by
    by_cases h : ax = bx
    · right; subst h; exact ⟨by simp, by simp; intro h; exact hab (by rw [h])⟩
    · left; simp [h]
  clear hp ha hb hab
  rcases hne with h1 | ⟨h1, h2⟩
  · go_enter Tryz.func142, Tryz.ntmps142
    go_wp2
    have hG : Gr w ((((w.alloc (.cells #[.int .i32 px, .int .i32 py] 28)).alloc (.cells #[.int .i32 ax, .int .i32 ay] 28)).alloc (.cells #[.int .i32 bx, .int .i32 by_] 28)).alloc (.cells #[.int .i64 0, .int .i64 0] 171)) := (((((Gr.refl _).alloc _).alloc _).alloc _).alloc _)
    have hS : ((((w.alloc (.cells #[.int .i32 px, .int .i32 py] 28)).alloc (.cells #[.int .i32 ax, .int .i32 ay] 28)).alloc (.cells #[.int .i32 bx, .int .i32 by_] 28)).alloc (.cells #[.int .i64 0, .int .i64 0] 171)).heap.size = w.heap.size + 1 + 1 + 1 + 1 := by simp
    have x0 := cell_gr (show ((((w.alloc (.cells #[.int .i32 px, .int .i32 py] 28)).alloc (.cells #[.int .i32 ax, .int .i32 ay] 28)).alloc (.cells #[.int .i32 bx, .int .i32 by_] 28)).alloc (.cells #[.int .i64 0, .int .i64 0] 171)).cell? ⟨w.heap.size, 0, none⟩ = some (.int .i32 px) by go_simp)
    have x1 := cell_gr (show ((((w.alloc (.cells #[.int .i32 px, .int .i32 py] 28)).alloc (.cells #[.int .i32 ax, .int .i32 ay] 28)).alloc (.cells #[.int .i32 bx, .int .i32 by_] 28)).alloc (.cells #[.int .i64 0, .int .i64 0] 171)).cell? ⟨w.heap.size, 1, none⟩ = some (.int .i32 py) by go_simp)
    have x2 := cell_gr (show ((((w.alloc (.cells #[.int .i32 px, .int .i32 py] 28)).alloc (.cells #[.int .i32 ax, .int .i32 ay] 28)).alloc (.cells #[.int .i32 bx, .int .i32 by_] 28)).alloc (.cells #[.int .i64 0, .int .i64 0] 171)).cell? ⟨w.heap.size + 1, 0, none⟩ = some (.int .i32 ax) by go_simp)
    have x3 := cell_gr (show ((((w.alloc (.cells #[.int .i32 px, .int .i32 py] 28)).alloc (.cells #[.int .i32 ax, .int .i32 ay] 28)).alloc (.cells #[.int .i32 bx, .int .i32 by_] 28)).alloc (.cells #[.int .i64 0, .int .i64 0] 171)).cell? ⟨w.heap.size + 1, 1, none⟩ = some (.int .i32 ay) by go_simp)
    have x4 := cell_gr (show ((((w.alloc (.cells #[.int .i32 px, .int .i32 py] 28)).alloc (.cells #[.int .i32 ax, .int .i32 ay] 28)).alloc (.cells #[.int .i32 bx, .int .i32 by_] 28)).alloc (.cells #[.int .i64 0, .int .i64 0] 171)).cell? ⟨w.heap.size + 1 + 1, 0, none⟩ = some (.int .i32 bx) by go_simp)
    have x5 := cell_gr (show ((((w.alloc (.cells #[.int .i32 px, .int .i32 py] 28)).alloc (.cells #[.int .i32 ax, .int .i32 ay] 28)).alloc (.cells #[.int .i32 bx, .int .i32 by_] 28)).alloc (.cells #[.int .i64 0, .int .i64 0] 171)).cell? ⟨w.heap.size + 1 + 1, 1, none⟩ = some (.int .i32 by_) by go_simp)
    have x6 := cell_gr (show ((((w.alloc (.cells #[.int .i32 px, .int .i32 py] 28)).alloc (.cells #[.int .i32 ax, .int .i32 ay] 28)).alloc (.cells #[.int .i32 bx, .int .i32 by_] 28)).alloc (.cells #[.int .i64 0, .int .i64 0] 171)).cell? ⟨w.heap.size + 1 + 1 + 1, 0, none⟩ = some (.int .i64 0) by go_simp)
    have x7 := cell_gr (show ((((w.alloc (.cells #[.int .i32 px, .int .i32 py] 28)).alloc (.cells #[.int .i32 ax, .int .i32 ay] 28)).alloc (.cells #[.int .i32 bx, .int .i32 by_] 28)).alloc (.cells #[.int .i64 0, .int .i64 0] 171)).cell? ⟨w.heap.size + 1 + 1 + 1, 1, none⟩ = some (.int .i64 0) by go_simp)
    have y0 : ((((w.alloc (.cells #[.int .i32 px, .int .i32 py] 28)).alloc (.cells #[.int .i32 ax, .int .i32 ay] 28)).alloc (.cells #[.int .i32 bx, .int .i32 by_] 28)).alloc (.cells #[.int .i64 0, .int .i64 0] 171)).frozen? ⟨w.heap.size + 1 + 1 + 1, 0, none⟩ = false := by go_simp
    have y1 : ((((w.alloc (.cells #[.int .i32 px, .int .i32 py] 28)).alloc (.cells #[.int .i32 ax, .int .i32 ay] 28)).alloc (.cells #[.int .i32 bx, .int .i32 by_] 28)).alloc (.cells #[.int .i64 0, .int .i64 0] 171)).frozen? ⟨w.heap.size + 1 + 1 + 1, 1, none⟩ = false := by go_simp
    generalize ((((w.alloc (.cells #[.int .i32 px, .int .i32 py] 28)).alloc (.cells #[.int .i32 ax, .int .i32 ay] 28)).alloc (.cells #[.int .i32 bx, .int .i32 by_] 28)).alloc (.cells #[.int .i64 0, .int .i64 0] 171)) = W at *
    refine wp_region_quiet_grown (by kernel_rfl) (by kernel_rfl) ?_
    repeat (go_big_quiet_step (first | (go_at_call 152; exact Calls.grown_of (D'.out _)) | (go_at_call 153; exact Calls.grown_of (F'.out _))))
    refine wpQuiet_nil ?_
    intro _ hw'
    obtain ⟨⟨nq, osq⟩, hw''⟩ := hw'
    subst hw''
    have g := hG.trans ⟨nq, osq, rfl⟩
    have gW : Gr W (grow (W.drewN nq) osq) := ⟨nq, osq, rfl⟩
    have z6 := x6 nq osq
    have z7 := x7 nq osq
    have z8 := (gW.cells.2 (w.heap.size + 1 + 1 + 1) 0 (by omega)).trans y0
    have z9 := (gW.cells.2 (w.heap.size + 1 + 1 + 1) 1 (by omega)).trans y1
    have hS1 := gW.size
    clear x0 x1 x2 x3 x4 x5 x6 x7 y0 y1 D' F' gW hG
    generalize grow (W.drewN nq) osq = W1 at *
    by_cases h : T < 0
    · have t2 : K = 0 := by omega
      subst t2
      clear cl
      go_wp2_with fail
      refine (L.out _).mono ?_
      rintro e w1 ⟨rfl, q1⟩
      obtain ⟨c1, f1⟩ := q1.cells
      have n1 : w.heap.size + 1 + 1 + 1 < w1.heap.size := by have := q1.size; omega
      have k0 : w1.cell? ⟨w.heap.size + 1 + 1 + 1, 0, none⟩ = some (.int .i64 0) := (c1 _ _ (by omega)).trans z6
      have k1 : w1.cell? ⟨w.heap.size + 1 + 1 + 1, 1, none⟩ = some (.int .i64 0) := (c1 _ _ (by omega)).trans z7
      have k2 : w1.frozen? ⟨w.heap.size + 1 + 1 + 1, 0, none⟩ = false := (f1 _ _ (by omega)).trans z8
      have k3 : w1.frozen? ⟨w.heap.size + 1 + 1 + 1, 1, none⟩ = false := (f1 _ _ (by omega)).trans z9
      clear c1 f1
      go_wp2
      refine bodyPost_ret (v := frv R) (by simp [results, Tryz.results142, go_sem, k0, k1]) rfl ⟨by rw [E.out], ?_⟩
      exact ((g.trans q1).setCell (by simp only []; omega) _).setCell (by simp only []; omega) _
    · by_cases h' : T ≤ N
      · have t2 : K = T := by omega
        subst t2
        clear cl
        go_wp2_with fail
        refine (L.out _).mono ?_
        rintro e w1 ⟨rfl, q1⟩
        obtain ⟨c1, f1⟩ := q1.cells
        have n1 : w.heap.size + 1 + 1 + 1 < w1.heap.size := by have := q1.size; omega
        have k0 : w1.cell? ⟨w.heap.size + 1 + 1 + 1, 0, none⟩ = some (.int .i64 0) := (c1 _ _ (by omega)).trans z6
        have k1 : w1.cell? ⟨w.heap.size + 1 + 1 + 1, 1, none⟩ = some (.int .i64 0) := (c1 _ _ (by omega)).trans z7
        have k2 : w1.frozen? ⟨w.heap.size + 1 + 1 + 1, 0, none⟩ = false := (f1 _ _ (by omega)).trans z8
        have k3 : w1.frozen? ⟨w.heap.size + 1 + 1 + 1, 1, none⟩ = false := (f1 _ _ (by omega)).trans z9
        clear c1 f1
        go_wp2
        refine bodyPost_ret (v := frv R) (by simp [results, Tryz.results142, go_sem, k0, k1]) rfl ⟨by rw [E.out], ?_⟩
        exact ((g.trans q1).setCell (by simp only []; omega) _).setCell (by simp only []; omega) _
      · have t2 : K = N := by omega
        subst t2
        clear cl
        go_wp2_with fail
        refine (L.out _).mono ?_
        rintro e w1 ⟨rfl, q1⟩
        obtain ⟨c1, f1⟩ := q1.cells
        have n1 : w.heap.size + 1 + 1 + 1 < w1.heap.size := by have := q1.size; omega
        have k0 : w1.cell? ⟨w.heap.size + 1 + 1 + 1, 0, none⟩ = some (.int .i64 0) := (c1 _ _ (by omega)).trans z6
        have k1 : w1.cell? ⟨w.heap.size + 1 + 1 + 1, 1, none⟩ = some (.int .i64 0) := (c1 _ _ (by omega)).trans z7
        have k2 : w1.frozen? ⟨w.heap.size + 1 + 1 + 1, 0, none⟩ = false := (f1 _ _ (by omega)).trans z8
        have k3 : w1.frozen? ⟨w.heap.size + 1 + 1 + 1, 1, none⟩ = false := (f1 _ _ (by omega)).trans z9
        clear c1 f1
        go_wp2
        refine bodyPost_ret (v := frv R) (by simp [results, Tryz.results142, go_sem, k0, k1]) rfl ⟨by rw [E.out], ?_⟩
        exact ((g.trans q1).setCell (by simp only []; omega) _).setCell (by simp only []; omega) _
  · go_enter Tryz.func142, Tryz.ntmps142
    go_wp2
    have hG : Gr w ((((w.alloc (.cells #[.int .i32 px, .int .i32 py] 28)).alloc (.cells #[.int .i32 ax, .int .i32 ay] 28)).alloc (.cells #[.int .i32 bx, .int .i32 by_] 28)).alloc (.cells #[.int .i64 0, .int .i64 0] 171)) := (((((Gr.refl _).alloc _).alloc _).alloc _).alloc _)
    have hS : ((((w.alloc (.cells #[.int .i32 px, .int .i32 py] 28)).alloc (.cells #[.int .i32 ax, .int .i32 ay] 28)).alloc (.cells #[.int .i32 bx, .int .i32 by_] 28)).alloc (.cells #[.int .i64 0, .int .i64 0] 171)).heap.size = w.heap.size + 1 + 1 + 1 + 1 := by simp
    have x0 := cell_gr (show ((((w.alloc (.cells #[.int .i32 px, .int .i32 py] 28)).alloc (.cells #[.int .i32 ax, .int .i32 ay] 28)).alloc (.cells #[.int .i32 bx, .int .i32 by_] 28)).alloc (.cells #[.int .i64 0, .int .i64 0] 171)).cell? ⟨w.heap.size, 0, none⟩ = some (.int .i32 px) by go_simp)
    have x1 := cell_gr (show ((((w.alloc (.cells #[.int .i32 px, .int .i32 py] 28)).alloc (.cells #[.int .i32 ax, .int .i32 ay] 28)).alloc (.cells #[.int .i32 bx, .int .i32 by_] 28)).alloc (.cells #[.int .i64 0, .int .i64 0] 171)).cell? ⟨w.heap.size, 1, none⟩ = some (.int .i32 py) by go_simp)
    have x2 := cell_gr (show ((((w.alloc (.cells #[.int .i32 px, .int .i32 py] 28)).alloc (.cells #[.int .i32 ax, .int .i32 ay] 28)).alloc (.cells #[.int .i32 bx, .int .i32 by_] 28)).alloc (.cells #[.int .i64 0, .int .i64 0] 171)).cell? ⟨w.heap.size + 1, 0, none⟩ = some (.int .i32 ax) by go_simp)
    have x3 := cell_gr (show ((((w.alloc (.cells #[.int .i32 px, .int .i32 py] 28)).alloc (.cells #[.int .i32 ax, .int .i32 ay] 28)).alloc (.cells #[.int .i32 bx, .int .i32 by_] 28)).alloc (.cells #[.int .i64 0, .int .i64 0] 171)).cell? ⟨w.heap.size + 1, 1, none⟩ = some (.int .i32 ay) by go_simp)
    have x4 := cell_gr (show ((((w.alloc (.cells #[.int .i32 px, .int .i32 py] 28)).alloc (.cells #[.int .i32 ax, .int .i32 ay] 28)).alloc (.cells #[.int .i32 bx, .int .i32 by_] 28)).alloc (.cells #[.int .i64 0, .int .i64 0] 171)).cell? ⟨w.heap.size + 1 + 1, 0, none⟩ = some (.int .i32 bx) by go_simp)
    have x5 := cell_gr (show ((((w.alloc (.cells #[.int .i32 px, .int .i32 py] 28)).alloc (.cells #[.int .i32 ax, .int .i32 ay] 28)).alloc (.cells #[.int .i32 bx, .int .i32 by_] 28)).alloc (.cells #[.int .i64 0, .int .i64 0] 171)).cell? ⟨w.heap.size + 1 + 1, 1, none⟩ = some (.int .i32 by_) by go_simp)
    have x6 := cell_gr (show ((((w.alloc (.cells #[.int .i32 px, .int .i32 py] 28)).alloc (.cells #[.int .i32 ax, .int .i32 ay] 28)).alloc (.cells #[.int .i32 bx, .int .i32 by_] 28)).alloc (.cells #[.int .i64 0, .int .i64 0] 171)).cell? ⟨w.heap.size + 1 + 1 + 1, 0, none⟩ = some (.int .i64 0) by go_simp)
    have x7 := cell_gr (show ((((w.alloc (.cells #[.int .i32 px, .int .i32 py] 28)).alloc (.cells #[.int .i32 ax, .int .i32 ay] 28)).alloc (.cells #[.int .i32 bx, .int .i32 by_] 28)).alloc (.cells #[.int .i64 0, .int .i64 0] 171)).cell? ⟨w.heap.size + 1 + 1 + 1, 1, none⟩ = some (.int .i64 0) by go_simp)
    have y0 : ((((w.alloc (.cells #[.int .i32 px, .int .i32 py] 28)).alloc (.cells #[.int .i32 ax, .int .i32 ay] 28)).alloc (.cells #[.int .i32 bx, .int .i32 by_] 28)).alloc (.cells #[.int .i64 0, .int .i64 0] 171)).frozen? ⟨w.heap.size + 1 + 1 + 1, 0, none⟩ = false := by go_simp
    have y1 : ((((w.alloc (.cells #[.int .i32 px, .int .i32 py] 28)).alloc (.cells #[.int .i32 ax, .int .i32 ay] 28)).alloc (.cells #[.int .i32 bx, .int .i32 by_] 28)).alloc (.cells #[.int .i64 0, .int .i64 0] 171)).frozen? ⟨w.heap.size + 1 + 1 + 1, 1, none⟩ = false := by go_simp
    generalize ((((w.alloc (.cells #[.int .i32 px, .int .i32 py] 28)).alloc (.cells #[.int .i32 ax, .int .i32 ay] 28)).alloc (.cells #[.int .i32 bx, .int .i32 by_] 28)).alloc (.cells #[.int .i64 0, .int .i64 0] 171)) = W at *
    refine wp_region_quiet_grown (by kernel_rfl) (by kernel_rfl) ?_
    repeat (go_big_quiet_step (first | (go_at_call 152; exact Calls.grown_of (D'.out _)) | (go_at_call 153; exact Calls.grown_of (F'.out _))))
    refine wpQuiet_nil ?_
    intro _ hw'
    obtain ⟨⟨nq, osq⟩, hw''⟩ := hw'
    subst hw''
    have g := hG.trans ⟨nq, osq, rfl⟩
    have gW : Gr W (grow (W.drewN nq) osq) := ⟨nq, osq, rfl⟩
    have z6 := x6 nq osq
    have z7 := x7 nq osq
    have z8 := (gW.cells.2 (w.heap.size + 1 + 1 + 1) 0 (by omega)).trans y0
    have z9 := (gW.cells.2 (w.heap.size + 1 + 1 + 1) 1 (by omega)).trans y1
    have hS1 := gW.size
    clear x0 x1 x2 x3 x4 x5 x6 x7 y0 y1 D' F' gW hG
    generalize grow (W.drewN nq) osq = W1 at *
    by_cases h : T < 0
    · have t2 : K = 0 := by omega
      subst t2
      clear cl
      go_wp2_with fail
      refine (L.out _).mono ?_
      rintro e w1 ⟨rfl, q1⟩
      obtain ⟨c1, f1⟩ := q1.cells
      have n1 : w.heap.size + 1 + 1 + 1 < w1.heap.size := by have := q1.size; omega
      have k0 : w1.cell? ⟨w.heap.size + 1 + 1 + 1, 0, none⟩ = some (.int .i64 0) := (c1 _ _ (by omega)).trans z6
      have k1 : w1.cell? ⟨w.heap.size + 1 + 1 + 1, 1, none⟩ = some (.int .i64 0) := (c1 _ _ (by omega)).trans z7
      have k2 : w1.frozen? ⟨w.heap.size + 1 + 1 + 1, 0, none⟩ = false := (f1 _ _ (by omega)).trans z8
      have k3 : w1.frozen? ⟨w.heap.size + 1 + 1 + 1, 1, none⟩ = false := (f1 _ _ (by omega)).trans z9
      clear c1 f1
      go_wp2
      refine bodyPost_ret (v := frv R) (by simp [results, Tryz.results142, go_sem, k0, k1]) rfl ⟨by rw [E.out], ?_⟩
      exact ((g.trans q1).setCell (by simp only []; omega) _).setCell (by simp only []; omega) _
    · by_cases h' : T ≤ N
      · have t2 : K = T := by omega
        subst t2
        clear cl
        go_wp2_with fail
        refine (L.out _).mono ?_
        rintro e w1 ⟨rfl, q1⟩
        obtain ⟨c1, f1⟩ := q1.cells
        have n1 : w.heap.size + 1 + 1 + 1 < w1.heap.size := by have := q1.size; omega
        have k0 : w1.cell? ⟨w.heap.size + 1 + 1 + 1, 0, none⟩ = some (.int .i64 0) := (c1 _ _ (by omega)).trans z6
        have k1 : w1.cell? ⟨w.heap.size + 1 + 1 + 1, 1, none⟩ = some (.int .i64 0) := (c1 _ _ (by omega)).trans z7
        have k2 : w1.frozen? ⟨w.heap.size + 1 + 1 + 1, 0, none⟩ = false := (f1 _ _ (by omega)).trans z8
        have k3 : w1.frozen? ⟨w.heap.size + 1 + 1 + 1, 1, none⟩ = false := (f1 _ _ (by omega)).trans z9
        clear c1 f1
        go_wp2
        refine bodyPost_ret (v := frv R) (by simp [results, Tryz.results142, go_sem, k0, k1]) rfl ⟨by rw [E.out], ?_⟩
        exact ((g.trans q1).setCell (by simp only []; omega) _).setCell (by simp only []; omega) _
      · have t2 : K = N := by omega
        subst t2
        clear cl
        go_wp2_with fail
        refine (L.out _).mono ?_
        rintro e w1 ⟨rfl, q1⟩
        obtain ⟨c1, f1⟩ := q1.cells
        have n1 : w.heap.size + 1 + 1 + 1 < w1.heap.size := by have := q1.size; omega
        have k0 : w1.cell? ⟨w.heap.size + 1 + 1 + 1, 0, none⟩ = some (.int .i64 0) := (c1 _ _ (by omega)).trans z6
        have k1 : w1.cell? ⟨w.heap.size + 1 + 1 + 1, 1, none⟩ = some (.int .i64 0) := (c1 _ _ (by omega)).trans z7
        have k2 : w1.frozen? ⟨w.heap.size + 1 + 1 + 1, 0, none⟩ = false := (f1 _ _ (by omega)).trans z8
        have k3 : w1.frozen? ⟨w.heap.size + 1 + 1 + 1, 1, none⟩ = false := (f1 _ _ (by omega)).trans z9
        clear c1 f1
        go_wp2
        refine bodyPost_ret (v := frv R) (by simp [results, Tryz.results142, go_sem, k0, k1]) rfl ⟨by rw [E.out], ?_⟩
        exact ((g.trans q1).setCell (by simp only []; omega) _).setCell (by simp only []; omega) _
end
end Go.Proofs.YtgcofpfjdplopaaGreat
