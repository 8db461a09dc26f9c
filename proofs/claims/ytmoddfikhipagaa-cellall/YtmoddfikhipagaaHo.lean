/- cell's holder, Of; the reference's Of. -/
import Derived.Test.YtmoddfikhipagaaRn
import Derived.Test.YtmoddfikhipagaaHd
import Derived.ControlIn
import Derived.CallsIn
set_option linter.unusedSimpArgs false
namespace Go.Proofs.Ytmoddfikhipagaa
open Go.RowKit Go.Sort

set_option maxRecDepth 20000 in
set_option maxHeartbeats 4000000 in
theorem holder_any (x y s : Int) (hx : in32 x) (hy : in32 y) (hs : 1 ≤ s) (w : World) :
    Calls Try.prog 31 #[pt x y, .int .i64 s] w fun e w' => e = .returned (pt (x / s) (y / s)) ∧ Gr w w' := by
  have F1 : Hid (∀ w, Calls Try.prog 46 #[.int .i64 x, .int .i64 s] w fun e w' => e = .returned (.int .i64 (x / s)) ∧ w' = w) := floor_any x s hs (by unfold in32 at hx; unfold in64; omega)
  have F2 : Hid (∀ w, Calls Try.prog 46 #[.int .i64 y, .int .i64 s] w fun e w' => e = .returned (.int .i64 (y / s)) ∧ w' = w) := floor_any y s hs (by unfold in32 at hy; unfold in64; omega)
  have e1 : wrap32 (x / s) = x / s := w32_eq (ediv_32 hs hx)
  have e2 : wrap32 (y / s) = y / s := w32_eq (ediv_32 hs hy)
  have e3 : wrap64 x = x := w64_32 hx
  have e4 : wrap64 y = y := w64_32 hy
  clear hx hy hs
  generalize x / s = X at *
  generalize y / s = Y at *
  go_enter Try.func31, Try.ntmps31
  go_upto_region 1 with fail
  have k0 := (Bk.new w 23 [.int .i32 x, .int .i32 y]).alloc (.cells #[.int .i32 0, .int .i32 0] 26)
  have k1 := Bk.new (w.alloc (.cells #[.int .i32 x, .int .i32 y] 23)) 26 [.int .i32 0, .int .i32 0]
  have gW : Gr w ((w.alloc (.cells #[.int .i32 x, .int .i32 y] 23)).alloc (.cells #[.int .i32 0, .int .i32 0] 26)) := ((Gr.refl _).alloc _).alloc _
  rw [World.size_alloc] at k1
  generalize (w.alloc (.cells #[.int .i32 x, .int .i32 y] 23)).alloc (.cells #[.int .i32 0, .int .i32 0] 26) = W at *
  obtain ⟨y0, y1⟩ := k0.two
  have Q1 : Hid (∀ n, Calls Try.prog 46 #[.int .i64 x, .int .i64 s] (W.drewN n) fun e w' => e = .returned (.int .i64 X) ∧ ∃ n', w' = W.drewN n') := fun n => (F1.out _).mono fun e w' h => ⟨h.1, n, h.2⟩
  have Q2 : Hid (∀ n, Calls Try.prog 46 #[.int .i64 y, .int .i64 s] (W.drewN n) fun e w' => e = .returned (.int .i64 Y) ∧ ∃ n', w' = W.drewN n') := fun n => (F2.out _).mono fun e w' h => ⟨h.1, n, h.2⟩
  obtain ⟨B, hB⟩ : ∃ B, B = w.heap.size := ⟨_, rfl⟩
  rw [← hB] at k0 k1 y0 y1 ⊢
  have HB : Hid (B = w.heap.size) := hB
  clear hB F1 F2
  obtain ⟨nF, hnF⟩ : ∃ nF : Nat, 5 ≤ nF := ⟨5, by omega⟩
  have hn1 : 1 ≤ nF - 1 := by omega
  refine (wpIn_wide (n := nF)).1 ?_
  refine region_head_lit 13 (by kernel_rfl) (by kernel_rfl) (by simp) (by kernel_rfl) ?_
  simp only [List.take_succ_cons, List.take_zero, List.drop_succ_cons, List.drop_zero]
  gi_big_quiet_step (fail)
  gi_big_quiet_step (fail)
  gi_big_quiet_step (fail)
  gi_big_quiet_step (fail)
  refine BigFrame.wpQuietIn_want (by intro w _ f hf; exact trivial) (by rfl) ?_
  intro K hK
  gi_big_quiet_op
  gi_big_quiet_call (exact ⟨fun _ => by omega, callsIn_wide.2 (Q1.out _)⟩)
  gi_big_quiet_step (fail)
  gi_big_quiet_step (fail)
  gi_big_quiet_step (fail)
  gi_big_quiet_step (fail)
  gi_big_quiet_step (fail)
  refine BigFrame.wpQuietIn_want (by intro w _ f hf; exact trivial) (by rfl) ?_
  intro K hK
  gi_big_quiet_op
  gi_big_quiet_call (exact ⟨fun _ => by omega, callsIn_wide.2 (Q2.out _)⟩)
  gi_big_quiet_step (fail)
  gi_big_quiet_step (fail)
  refine wpQuietIn_nil ?_
  intro _ hw'
  obtain ⟨nq, hw''⟩ := hw'
  subst hw''
  have g : Gr W (W.drewN nq) := (Gr.refl _).drewN nq
  have r1 := k1.gr g
  have gA := gW.trans g
  clear y0 y1 Q1 Q2 k0 k1 g gW
  generalize W.drewN nq = W2 at *
  obtain ⟨c0, c1⟩ := r1.two
  have f0 := r1.frozen 0
  have f1 := r1.frozen 1
  have q2 : Bk ((W2.setCell ⟨B + 1, 0, none⟩ (.int .i32 X)).setCell ⟨B + 1, 1, none⟩ (.int .i32 Y)) (B + 1) 26 [.int .i32 X, .int .i32 Y] := (r1.set 0 _).set 1 _
  have hBw : w.heap.size ≤ B + 1 := by have := HB.out; omega
  have gF := (gA.setCell (p := ⟨B + 1, 0, none⟩) hBw (.int .i32 X)).setCell (p := ⟨B + 1, 1, none⟩) hBw (.int .i32 Y)
  gi_wp2
  clear r1 c0 c1 f0 f1
  generalize (W2.setCell ⟨B + 1, 0, none⟩ (.int .i32 X)).setCell ⟨B + 1, 1, none⟩ (.int .i32 Y) = W3 at *
  obtain ⟨t0, t1⟩ := q2.two
  go_wp2
  refine bodyPost_ret (v := pt X Y) (by simp [results, Try.results31, go_sem, t0, t1]) rfl ⟨rfl, gF⟩
end Go.Proofs.Ytmoddfikhipagaa
