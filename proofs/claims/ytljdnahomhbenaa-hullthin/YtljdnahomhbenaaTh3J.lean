/- The program's baseOf. Plain: which point cutAt takes: the first of those that are the furthest off, if it is further off than the tolerance. -/
import Derived.Test.YtljdnahomhbenaaTh0J
import Derived.Test.YtljdnahomhbenaaHd
import Derived.ControlIn
import Derived.CallsIn
import Derived.Test.YtljdnahomhbenaaTh1
namespace Go.Proofs.Ytljdnahomhbenaa
section
set_option linter.unusedSimpArgs false
open Go.RowKit Go.Sort

set_option maxRecDepth 20000 in
set_option maxHeartbeats 4000000 in
theorem base_any (a b : Int × Int) (ha : latP a) (hb : latP b) (w : World) :
    Calls Try.prog 104 #[pt a.1 a.2, pt b.1 b.2] w fun e w' => e = .returned (bsV a b (scl a b)) ∧ Gr w w' := by
  have A1 := hid0 (fun w => dist_lat a b ha hb w)
  have E : Hid (scl a b = if d2 a b ≤ 1 then 1 else d2 a b) := by unfold Hid scl; exact rfl
  clear ha hb
  generalize d2 a b = D at *
  obtain ⟨S, hS⟩ : ∃ S, scl a b = S := ⟨_, rfl⟩
  rw [hS] at E ⊢
  clear hS
  obtain ⟨a1, a2⟩ := a
  obtain ⟨c1, c2⟩ := b
  dsimp only at *
  obtain ⟨W, hW, k0, k1, k2, gW, hsz⟩ := three_new w #[.int .i32 a1, .int .i32 a2] #[.int .i32 c1, .int .i32 c2] #[.int .i32 0, .int .i32 0, .int .i32 0, .int .i32 0, .int .i64 0] 28 28 111
  go_enter Try.func104, Try.ntmps104
  go_upto_region 1 with fail
  rw [← hW]
  clear hW
  obtain ⟨B, hB⟩ : ∃ B, B = w.heap.size := ⟨_, rfl⟩
  rw [← hB] at k0 k1 k2 hsz ⊢
  have HB := hid0 hB
  clear hB
  have y0 := cell_gr (show W.cell? ⟨B, 0, none⟩ = some (.int .i32 a1) from k0.cell rfl)
  have y1 := cell_gr (show W.cell? ⟨B, 1, none⟩ = some (.int .i32 a2) from k0.cell rfl)
  have z0 := cell_gr (show W.cell? ⟨B + 1, 0, none⟩ = some (.int .i32 c1) from k1.cell rfl)
  have z1 := cell_gr (show W.cell? ⟨B + 1, 1, none⟩ = some (.int .i32 c2) from k1.cell rfl)
  have Q : Hid (∀ n os, Calls Try.prog 42 #[pt a1 a2, pt c1 c2] (grow (W.drewN n) os) fun e w' => e = .returned (.int .i64 D) ∧ ∃ p : GrownBy, w' = grow (W.drewN p.n) p.os) := fun n os => Calls.grown_of (A1.out _)
  obtain ⟨nF, hnF⟩ : ∃ nF : Nat, 5 ≤ nF := ⟨5, by omega⟩
  have hn1 : 1 ≤ nF - 1 := by omega
  refine (wpIn_wide (n := nF)).1 ?_
  refine region_head_grown 7 (by kernel_rfl) (by kernel_rfl) (by simp) (by kernel_rfl) ?_
  simp only [List.take_succ_cons, List.take_zero, List.drop_succ_cons, List.drop_zero]
  gi_big_quiet_step (fail)
  gi_big_quiet_step (fail)
  gi_big_quiet_step (fail)
  gi_big_quiet_step (fail)
  refine BigFrame.wpQuietIn_want (by intro w _ f hf; exact trivial) (by rfl) ?_
  intro K hK
  gi_big_quiet_op
  gi_big_quiet_call (exact ⟨fun _ => by omega, callsIn_wide.2 (Q.out _ _)⟩)
  have eS : Hid (S = if D < 1 then 1 else D) := by
    unfold Hid
    rw [E.out]
    split <;> split <;> omega
  refine BigFrame.wpQuietIn_want (by intro w _ f hf; exact trivial) (by rfl) ?_
  intro K hK
  gi_big_quiet_op
  rw [← eS.out]
  go_big_quiet_on
  gi_big_quiet_step (fail)
  refine wpQuietIn_nil ?_
  intro _ hw'
  obtain ⟨⟨dq, osq⟩, hw''⟩ := hw'
  subst hw''
  have g : Gr W (grow (W.drewN dq) osq) := ⟨dq, osq, rfl⟩
  have r2 := k2.gr g
  have gA := gW.trans g
  clear y0 y1 z0 z1 Q A1 E eS k0 k1 k2 g
  generalize grow (W.drewN dq) osq = W2 at *
  have r20 := r2.cell (i := 0) rfl
  have r21 := r2.cell (i := 1) rfl
  have r22 := r2.cell (i := 2) rfl
  have r23 := r2.cell (i := 3) rfl
  have r24 := r2.cell (i := 4) rfl
  have f20 := r2.froz 0
  have f21 := r2.froz 1
  have f22 := r2.froz 2
  have f23 := r2.froz 3
  have f24 := r2.froz 4
  have q1 := r2.setAt 0 (.int .i32 a1)
  have q2 := q1.setAt 1 (.int .i32 a2)
  have q3 := q2.setAt 2 (.int .i32 c1)
  have q4 := q3.setAt 3 (.int .i32 c2)
  have q5 : Hs _ (B + 1 + 1) 111 #[.int .i32 a1, .int .i32 a2, .int .i32 c1, .int .i32 c2, .int .i64 S] := q4.setAt 4 (.int .i64 S)
  have hBw : w.heap.size ≤ B + 1 + 1 := by have := HB.out; omega
  have gF := ((((gA.setCell (p := ⟨B + 1 + 1, 0, none⟩) hBw (.int .i32 a1)).setCell (p := ⟨B + 1 + 1, 1, none⟩) hBw (.int .i32 a2)).setCell (p := ⟨B + 1 + 1, 2, none⟩) hBw (.int .i32 c1)).setCell (p := ⟨B + 1 + 1, 3, none⟩) hBw (.int .i32 c2)).setCell (p := ⟨B + 1 + 1, 4, none⟩) hBw (.int .i64 S)
  clear q1 q2 q3 q4 r2
  gi_wp2
  generalize ((((W2.setCell ⟨B + 1 + 1, 0, none⟩ (.int .i32 a1)).setCell ⟨B + 1 + 1, 1, none⟩ (.int .i32 a2)).setCell ⟨B + 1 + 1, 2, none⟩ (.int .i32 c1)).setCell ⟨B + 1 + 1, 3, none⟩ (.int .i32 c2)).setCell ⟨B + 1 + 1, 4, none⟩ (.int .i64 S) = W3 at *
  have t0 : W3.cell? ⟨B + 1 + 1, 0, none⟩ = some (.int .i32 a1) := q5.cell rfl
  have t1 : W3.cell? ⟨B + 1 + 1, 1, none⟩ = some (.int .i32 a2) := q5.cell rfl
  have t2 : W3.cell? ⟨B + 1 + 1, 2, none⟩ = some (.int .i32 c1) := q5.cell rfl
  have t3 : W3.cell? ⟨B + 1 + 1, 3, none⟩ = some (.int .i32 c2) := q5.cell rfl
  have t4 : W3.cell? ⟨B + 1 + 1, 4, none⟩ = some (.int .i64 S) := q5.cell rfl
  go_wp2
  refine bodyPost_ret (v := bsV (a1, a2) (c1, c2) S) (by simp [results, Try.results104, go_sem, t0, t1, t2, t3, t4]) rfl ⟨rfl, gF⟩
end
section
set_option linter.unusedSimpArgs false
open Go.RowKit Go.Sort

/-- The greatest so far and its place, behind the first k of those between. -/
def cutS (L : List (Int × Int)) (m0 : Int) : Nat → Int × Nat
  | 0 => (m0, 0)
  | k + 1 => if (cutS L m0 k).1 < offI (L.getD 0 (0, 0)) (L.getD (L.length - 1) (0, 0)) (L.getD (k + 1) (0, 0)) then (offI (L.getD 0 (0, 0)) (L.getD (L.length - 1) (0, 0)) (L.getD (k + 1) (0, 0)), k + 1) else cutS L m0 k
def cutP (L : List (Int × Int)) (tol : Int) : Nat := (cutS L (tol * tol * scl (L.getD 0 (0, 0)) (L.getD (L.length - 1) (0, 0))) (L.length - 2)).2
theorem cutS_le (L : List (Int × Int)) (m0 : Int) : ∀ k, (cutS L m0 k).2 ≤ k
  | 0 => Nat.le_refl _
  | k + 1 => by
    have := cutS_le L m0 k
    unfold cutS
    split
    · exact Nat.le_refl _
    · omega
theorem inI_prod {x y : Int} (hx : -9223372019674906632 ≤ x ∧ x ≤ 9223372019674906632) (hy : -9223372019674906632 ≤ y ∧ y ≤ 9223372019674906632) : inI (x * y) := (mul_words (by omega) (by omega) (by omega) (by omega)).2.2.2.2.2
theorem inI_off {a b p : Int × Int} (ha : latP a) (hb : latP b) (hp : latP p) : inI (offI a b p) := by
  have s := scl_bd ha hb
  have d1 := d2_bd ha hp
  have d2 := d2_bd hb hp
  have c := cr_bd ha hb hp
  unfold offI
  split
  · exact inI_prod (by omega) (by omega)
  · split
    · exact inI_prod (by omega) (by omega)
    · exact inI_prod c c
theorem Hs.other {w : World} {b t : Nat} {vs : Array Value} (h : Hs w b t vs) {p : Addr} (hp : b ≠ p.block) (v : Value) : Hs (w.setCell p v) b t vs := (Below.heap_setCell w p v b hp).trans h
end
end Go.Proofs.Ytljdnahomhbenaa
