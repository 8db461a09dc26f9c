/- The program's off: how far a point is off a segment. -/
import Derived.Test.YtljdnahomhbenaaTh0J
import Derived.Test.YtljdnahomhbenaaHd
import Derived.ControlIn
import Derived.CallsIn
namespace Go.Proofs.Ytljdnahomhbenaa
section
set_option linter.unusedSimpArgs false
open Go.RowKit Go.Sort

set_option maxRecDepth 20000 in
set_option maxHeartbeats 4000000 in
theorem off_any (a b p : Int × Int) (ha : latP a) (hb : latP b) (hp : latP p) (w : World) :
    Calls Try.prog 105 #[bsV a b (scl a b), pt p.1 p.2] w fun e w' => e = .returned (wd (offI a b p)) ∧ Gr w w' := by
  have sb := scl_bd ha hb
  have D := hid0 (fun w => dot_lat a b p ha hb hp w)
  have A1 := hid0 (fun w => dist_lat a p ha hp w)
  have A2 := hid0 (fun w => dist_lat b p hb hp w)
  have X := hid0 (fun w => cross_lat a b p ha hb hp w)
  have b1 := d2_bd ha hp
  have b2 := d2_bd hb hp
  have b3 := cr_bd ha hb hp
  have M1 := hid0 (fun w => mul_lat (d2 a p) (scl a b) (by omega) (by omega) w)
  have M2 := hid0 (fun w => mul_lat (d2 b p) (scl a b) (by omega) (by omega) w)
  have M3 := hid0 (fun w => mul_lat (cr a b p) (cr a b p) (by omega) (by omega) w)
  have E : Hid (offI a b p = if al a b p ≤ 0 then d2 a p * scl a b else if scl a b ≤ al a b p then d2 b p * scl a b else cr a b p * cr a b p) := by unfold Hid offI; exact rfl
  clear b1 b2 b3 ha hb hp
  generalize d2 a p = P1 at *
  generalize d2 b p = P2 at *
  generalize cr a b p = C at *
  generalize al a b p = L at *
  generalize scl a b = S at *
  obtain ⟨R, hR⟩ : ∃ R, offI a b p = R := ⟨_, rfl⟩
  rw [hR] at E ⊢
  clear hR
  obtain ⟨a1, a2⟩ := a
  obtain ⟨c1, c2⟩ := b
  obtain ⟨p1, p2⟩ := p
  dsimp only at *
  obtain ⟨W, hW, k0, k1, k2, gW, hsz⟩ := three_new w #[.int .i32 a1, .int .i32 a2, .int .i32 c1, .int .i32 c2, .int .i64 S] #[.int .i32 p1, .int .i32 p2] #[.int .i64 0, .int .u64 0] 111 28 71
  go_enter Try.func105, Try.ntmps105
  go_upto_region 1 with fail
  rw [← hW]
  clear hW
  obtain ⟨B, hB⟩ : ∃ B, B = w.heap.size := ⟨_, rfl⟩
  rw [← hB] at k0 k1 k2 hsz ⊢
  have HB := hid0 hB
  clear hB
  have y0 := k0.cell (i := 0) rfl
  have y1 := k0.cell (i := 1) rfl
  have y2 := k0.cell (i := 2) rfl
  have y3 := k0.cell (i := 3) rfl
  have z0 := k1.cell (i := 0) rfl
  have z1 := k1.cell (i := 1) rfl
  go_wp2_with fail
  refine (D.out _).mono ?_
  rintro e w1 ⟨rfl, g1⟩
  replace k0 := k0.gr g1
  replace k1 := k1.gr g1
  replace k2 := k2.gr g1
  have hG := gW.trans g1
  have hsz1 := g1.size
  clear y0 y1 y2 y3 z0 z1 g1 D gW
  have y0 := k0.cell (i := 0) rfl
  have y1 := k0.cell (i := 1) rfl
  have y2 := k0.cell (i := 2) rfl
  have y3 := k0.cell (i := 3) rfl
  have y4 := k0.cell (i := 4) rfl
  have z0 := k1.cell (i := 0) rfl
  have z1 := k1.cell (i := 1) rfl
  by_cases hL : L ≤ 0
  · have eR : R = P1 * S := by rw [E.out, if_pos hL]
    subst eR
    clear E A2 X M2 M3
    have dL : decide (L ≤ 0) = true := decide_eq_true hL
    have u0 := cell_gr (show w1.cell? ⟨B, 0, none⟩ = some (.int .i32 a1) from k0.cell rfl)
    have u1 := cell_gr (show w1.cell? ⟨B, 1, none⟩ = some (.int .i32 a2) from k0.cell rfl)
    have u4 := cell_gr (show w1.cell? ⟨B, 4, none⟩ = some (.int .i64 S) from k0.cell rfl)
    have t0 := cell_gr (show w1.cell? ⟨B + 1, 0, none⟩ = some (.int .i32 p1) from k1.cell rfl)
    have t1 := cell_gr (show w1.cell? ⟨B + 1, 1, none⟩ = some (.int .i32 p2) from k1.cell rfl)
    have QA : Hid (∀ n os, Calls Try.prog 42 #[pt a1 a2, pt p1 p2] (grow (w1.drewN n) os) fun e w' => e = .returned (.int .i64 P1) ∧ ∃ p : GrownBy, w' = grow (w1.drewN p.n) p.os) := fun n os => Calls.grown_of (A1.out _)
    have QM : Hid (∀ n os, Calls Try.prog 95 #[.int .i64 P1, .int .i64 S] (grow (w1.drewN n) os) fun e w' => e = .returned (wd (P1 * S)) ∧ ∃ p : GrownBy, w' = grow (w1.drewN p.n) p.os) := fun n os => Calls.grown_of (M1.out _)
    go_upto_region 3 with fail
    clear y0 y1 y2 y3 y4 z0 z1
    obtain ⟨nF, hnF⟩ : ∃ nF : Nat, 5 ≤ nF := ⟨5, by omega⟩
    refine (wpIn_wide (n := nF)).1 ?_
    refine region_head_grown 7 (by kernel_rfl) (by kernel_rfl) (by simp) (by kernel_rfl) ?_
    simp only [List.take_succ_cons, List.take_zero, List.drop_succ_cons, List.drop_zero]
    repeat (gi_big_quiet_step (fail))
    refine BigFrame.wpQuietIn_want (by intro w _ f hf; exact trivial) (by rfl) ?_
    intro K hK
    gi_big_quiet_op
    gi_big_quiet_call (exact ⟨fun _ => by omega, callsIn_wide.2 (QA.out _ _)⟩)
    repeat (gi_big_quiet_step (fail))
    refine BigFrame.wpQuietIn_want (by intro w _ f hf; exact trivial) (by rfl) ?_
    intro K hK
    gi_big_quiet_op
    gi_big_quiet_call (exact ⟨fun _ => by omega, callsIn_wide.2 (QM.out _ _)⟩)
    refine wpQuietIn_nil ?_
    intro _ hw'
    obtain ⟨⟨dq, osq⟩, hw''⟩ := hw'
    subst hw''
    have g : Gr w1 (grow (w1.drewN dq) osq) := ⟨dq, osq, rfl⟩
    have r2 := k2.gr g
    have gA := hG.trans g
    clear u0 u1 u4 t0 t1 QA QM k0 k1 k2 g
    generalize grow (w1.drewN dq) osq = W2 at *
    have r20 := r2.cell (i := 0) rfl
    have r21 := r2.cell (i := 1) rfl
    have r22 := r2.froz 0
    have r23 := r2.froz 1
    have f2 := r2.set2 (.int .i64 (hiI (P1 * S))) (.int .u64 (loI (P1 * S)))
    have hBw : w.heap.size ≤ B + 1 + 1 := by have := HB.out; omega
    have gF := (gA.setCell (p := ⟨B + 1 + 1, 0, none⟩) hBw (.int .i64 (hiI (P1 * S)))).setCell (p := ⟨B + 1 + 1, 1, none⟩) hBw (.int .u64 (loI (P1 * S)))
    gi_wp2
    generalize (W2.setCell ⟨B + 1 + 1, 0, none⟩ (.int .i64 (hiI (P1 * S)))).setCell ⟨B + 1 + 1, 1, none⟩ (.int .u64 (loI (P1 * S))) = W3 at *
    have f0 : W3.cell? ⟨B + 1 + 1, 0, none⟩ = some (.int .i64 (hiI (P1 * S))) := f2.cell rfl
    have f1 : W3.cell? ⟨B + 1 + 1, 1, none⟩ = some (.int .u64 (loI (P1 * S))) := f2.cell rfl
    go_wp2
    refine bodyPost_ret (v := wd (P1 * S)) (by simp [results, Try.results105, go_sem, f0, f1]) rfl ⟨rfl, gF⟩
  · have dL : decide (L ≤ 0) = false := decide_eq_false hL
    by_cases hS : S ≤ L
    · have eR : R = P2 * S := by rw [E.out, if_neg hL, if_pos hS]
      subst eR
      clear E A1 X M1 M3
      have dS : decide (S ≤ L) = true := decide_eq_true hS
      have u0 := cell_gr (show w1.cell? ⟨B, 2, none⟩ = some (.int .i32 c1) from k0.cell rfl)
      have u1 := cell_gr (show w1.cell? ⟨B, 3, none⟩ = some (.int .i32 c2) from k0.cell rfl)
      have u4 := cell_gr (show w1.cell? ⟨B, 4, none⟩ = some (.int .i64 S) from k0.cell rfl)
      have t0 := cell_gr (show w1.cell? ⟨B + 1, 0, none⟩ = some (.int .i32 p1) from k1.cell rfl)
      have t1 := cell_gr (show w1.cell? ⟨B + 1, 1, none⟩ = some (.int .i32 p2) from k1.cell rfl)
      have QA : Hid (∀ n os, Calls Try.prog 42 #[pt c1 c2, pt p1 p2] (grow (w1.drewN n) os) fun e w' => e = .returned (.int .i64 P2) ∧ ∃ p : GrownBy, w' = grow (w1.drewN p.n) p.os) := fun n os => Calls.grown_of (A2.out _)
      have QM : Hid (∀ n os, Calls Try.prog 95 #[.int .i64 P2, .int .i64 S] (grow (w1.drewN n) os) fun e w' => e = .returned (wd (P2 * S)) ∧ ∃ p : GrownBy, w' = grow (w1.drewN p.n) p.os) := fun n os => Calls.grown_of (M2.out _)
      go_upto_region 5 with fail
      clear y0 y1 y2 y3 y4 z0 z1
      obtain ⟨nF, hnF⟩ : ∃ nF : Nat, 5 ≤ nF := ⟨5, by omega⟩
      refine (wpIn_wide (n := nF)).1 ?_
      refine region_head_grown 7 (by kernel_rfl) (by kernel_rfl) (by simp) (by kernel_rfl) ?_
      simp only [List.take_succ_cons, List.take_zero, List.drop_succ_cons, List.drop_zero]
      repeat (gi_big_quiet_step (fail))
      refine BigFrame.wpQuietIn_want (by intro w _ f hf; exact trivial) (by rfl) ?_
      intro K hK
      gi_big_quiet_op
      gi_big_quiet_call (exact ⟨fun _ => by omega, callsIn_wide.2 (QA.out _ _)⟩)
      repeat (gi_big_quiet_step (fail))
      refine BigFrame.wpQuietIn_want (by intro w _ f hf; exact trivial) (by rfl) ?_
      intro K hK
      gi_big_quiet_op
      gi_big_quiet_call (exact ⟨fun _ => by omega, callsIn_wide.2 (QM.out _ _)⟩)
      refine wpQuietIn_nil ?_
      intro _ hw'
      obtain ⟨⟨dq, osq⟩, hw''⟩ := hw'
      subst hw''
      have g : Gr w1 (grow (w1.drewN dq) osq) := ⟨dq, osq, rfl⟩
      have r2 := k2.gr g
      have gA := hG.trans g
      clear u0 u1 u4 t0 t1 QA QM k0 k1 k2 g
      generalize grow (w1.drewN dq) osq = W2 at *
      have r20 := r2.cell (i := 0) rfl
      have r21 := r2.cell (i := 1) rfl
      have r22 := r2.froz 0
      have r23 := r2.froz 1
      have f2 := r2.set2 (.int .i64 (hiI (P2 * S))) (.int .u64 (loI (P2 * S)))
      have hBw : w.heap.size ≤ B + 1 + 1 := by have := HB.out; omega
      have gF := (gA.setCell (p := ⟨B + 1 + 1, 0, none⟩) hBw (.int .i64 (hiI (P2 * S)))).setCell (p := ⟨B + 1 + 1, 1, none⟩) hBw (.int .u64 (loI (P2 * S)))
      gi_wp2
      generalize (W2.setCell ⟨B + 1 + 1, 0, none⟩ (.int .i64 (hiI (P2 * S)))).setCell ⟨B + 1 + 1, 1, none⟩ (.int .u64 (loI (P2 * S))) = W3 at *
      have f0 : W3.cell? ⟨B + 1 + 1, 0, none⟩ = some (.int .i64 (hiI (P2 * S))) := f2.cell rfl
      have f1 : W3.cell? ⟨B + 1 + 1, 1, none⟩ = some (.int .u64 (loI (P2 * S))) := f2.cell rfl
      go_wp2
      refine bodyPost_ret (v := wd (P2 * S)) (by simp [results, Try.results105, go_sem, f0, f1]) rfl ⟨rfl, gF⟩
    · have eR : R = C * C := by rw [E.out, if_neg hL, if_neg hS]
      subst eR
      clear E A1 A2 M1 M2
      have dS : decide (S ≤ L) = false := decide_eq_false hS
      go_wp2_with fail
      refine (X.out _).mono ?_
      rintro e w2 ⟨rfl, g2⟩
      have q2 := k2.gr g2
      clear y0 y1 y2 y3 y4 z0 z1
      go_wp2_with fail
      refine (M3.out _).mono ?_
      rintro e w3 ⟨rfl, g3⟩
      have r2 := q2.gr g3
      have r20 := r2.cell (i := 0) rfl
      have r21 := r2.cell (i := 1) rfl
      have r22 := r2.froz 0
      have r23 := r2.froz 1
      have gA := (hG.trans g2).trans g3
      have f2 := r2.set2 (.int .i64 (hiI (C * C))) (.int .u64 (loI (C * C)))
      have f0 := f2.cell (i := 0) rfl
      have f1 := f2.cell (i := 1) rfl
      have hBw : w.heap.size ≤ B + 1 + 1 := by have := HB.out; omega
      have gF := (gA.setCell (p := ⟨B + 1 + 1, 0, none⟩) hBw (.int .i64 (hiI (C * C)))).setCell (p := ⟨B + 1 + 1, 1, none⟩) hBw (.int .u64 (loI (C * C)))
      clear r2 f2 gA q2 k0 k1 k2
      go_wp2
      refine bodyPost_ret (v := wd (C * C)) (by simp [results, Try.results105, go_sem, f0, f1]) rfl ⟨rfl, gF⟩
end
end Go.Proofs.Ytljdnahomhbenaa
