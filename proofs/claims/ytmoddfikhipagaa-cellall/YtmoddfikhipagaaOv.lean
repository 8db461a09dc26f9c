/- cell's Of and the reference's. -/
import Derived.Test.YtmoddfikhipagaaLn
set_option linter.unusedSimpArgs false
set_option linter.unusedVariables false
namespace Go.Proofs.Ytmoddfikhipagaa
open Go.RowKit Go.Sort

def ofC (x y s : Int) : C2 := if szB s then (x / s, y / s) else (0, 0)
def ofE (s : Int) : Int := if szB s then 0 else 2
set_option maxRecDepth 20000 in
set_option maxHeartbeats 2000000 in
theorem of_yes (x y s : Int) (hx : in32 x) (hy : in32 y) (hs : szB s = true) (w : World) :
    Calls Try.prog 7 #[pt x y, .int .i64 s] w fun e w' => e = .returned (.tuple #[pt (x / s) (y / s), .int .i64 0]) ∧ Gr w w' := by
  have S1 : Hid (∀ w, Calls Try.prog 30 #[.int .i64 s] w fun e w' => e = .returned (.bool true) ∧ w' = w) := fun w => by have := isSize_any s w; rw [hs] at this; exact this
  have H1 := hid0 (holder_any x y s hx hy (szB_iff.1 hs).1)
  generalize x / s = X at *
  generalize y / s = Y at *
  have k0 := (Bk.new w 23 [.int .i32 x, .int .i32 y]).alloc (.cells #[.int .i32 0, .int .i32 0] 26)
  have k1 : Bk ((w.alloc (.cells #[.int .i32 x, .int .i32 y] 23)).alloc (.cells #[.int .i32 0, .int .i32 0] 26)) (w.heap.size + 1) 26 [.int .i32 0, .int .i32 0] := by
    have := Bk.new (w.alloc (.cells #[.int .i32 x, .int .i32 y] 23)) 26 [.int .i32 0, .int .i32 0]; rwa [World.size_alloc] at this
  have gW : Gr w ((w.alloc (.cells #[.int .i32 x, .int .i32 y] 23)).alloc (.cells #[.int .i32 0, .int .i32 0] 26)) := ((Gr.refl _).alloc _).alloc _
  clear hs hx hy
  go_enter Try.func7, Try.ntmps7
  go_upto_region 1 with fail
  generalize (w.alloc (.cells #[.int .i32 x, .int .i32 y] 23)).alloc (.cells #[.int .i32 0, .int .i32 0] 26) = W at *
  obtain ⟨p0, p1⟩ := k0.two
  go_wp2_with (first
    | (go_at_call 30; refine (S1.out _).mono ?_; rintro e w1 ⟨rfl, rfl⟩; clear S1)
    | (go_at_call 31; refine (H1.out _).mono ?_; rintro e w2 ⟨rfl, g2⟩; clear H1; have k2 := k1.gr g2; obtain ⟨a0, a1⟩ := k2.two; have z0 := k2.frozen 0; have z1 := k2.frozen 1))
  have f2 : Bk ((w2.setCell ⟨w.heap.size + 1, 0, none⟩ (.int .i32 X)).setCell ⟨w.heap.size + 1, 1, none⟩ (.int .i32 Y)) (w.heap.size + 1) 26 [.int .i32 X, .int .i32 Y] := (k2.set 0 _).set 1 _
  have gF := ((gW.trans g2).setCell (p := ⟨w.heap.size + 1, 0, none⟩) (by simp) (.int .i32 X)).setCell (p := ⟨w.heap.size + 1, 1, none⟩) (by simp) (.int .i32 Y)
  clear a0 a1 z0 z1 k2
  generalize (w2.setCell ⟨w.heap.size + 1, 0, none⟩ (.int .i32 X)).setCell ⟨w.heap.size + 1, 1, none⟩ (.int .i32 Y) = W6 at *
  obtain ⟨a0, a1⟩ := f2.two
  exact bodyPost_ret (v := .tuple #[pt X Y, .int .i64 0]) (by simp [results, Try.results7, go_sem, a0, a1]) rfl ⟨rfl, gF⟩

set_option maxRecDepth 20000 in
set_option maxHeartbeats 2000000 in
theorem of_no (x y s : Int) (hs : szB s = false) (w : World) :
    Calls Try.prog 7 #[pt x y, .int .i64 s] w fun e w' => e = .returned (.tuple #[pt 0 0, .int .i64 2]) ∧ Gr w w' := by
  have S1 : Hid (∀ w, Calls Try.prog 30 #[.int .i64 s] w fun e w' => e = .returned (.bool false) ∧ w' = w) := fun w => by have := isSize_any s w; rw [hs] at this; exact this
  have k1 : Bk ((w.alloc (.cells #[.int .i32 x, .int .i32 y] 23)).alloc (.cells #[.int .i32 0, .int .i32 0] 26)) (w.heap.size + 1) 26 [.int .i32 0, .int .i32 0] := by
    have := Bk.new (w.alloc (.cells #[.int .i32 x, .int .i32 y] 23)) 26 [.int .i32 0, .int .i32 0]; rwa [World.size_alloc] at this
  have gW : Gr w ((w.alloc (.cells #[.int .i32 x, .int .i32 y] 23)).alloc (.cells #[.int .i32 0, .int .i32 0] 26)) := ((Gr.refl _).alloc _).alloc _
  clear hs
  go_enter Try.func7, Try.ntmps7
  go_upto_region 1 with fail
  generalize (w.alloc (.cells #[.int .i32 x, .int .i32 y] 23)).alloc (.cells #[.int .i32 0, .int .i32 0] 26) = W at *
  obtain ⟨a0, a1⟩ := k1.two
  have z0 := k1.frozen 0
  have z1 := k1.frozen 1
  go_wp2_with (go_at_call 30; refine (S1.out _).mono ?_; rintro e w1 ⟨rfl, rfl⟩; clear S1)
  have f2 : Bk ((w1.setCell ⟨w.heap.size + 1, 0, none⟩ (.int .i32 0)).setCell ⟨w.heap.size + 1, 1, none⟩ (.int .i32 0)) (w.heap.size + 1) 26 [.int .i32 0, .int .i32 0] := (k1.set 0 _).set 1 _
  have gF := (gW.setCell (p := ⟨w.heap.size + 1, 0, none⟩) (by simp) (.int .i32 0)).setCell (p := ⟨w.heap.size + 1, 1, none⟩) (by simp) (.int .i32 0)
  clear a0 a1 z0 z1
  generalize (w1.setCell ⟨w.heap.size + 1, 0, none⟩ (.int .i32 0)).setCell ⟨w.heap.size + 1, 1, none⟩ (.int .i32 0) = W6 at *
  obtain ⟨a0, a1⟩ := f2.two
  exact bodyPost_ret (v := .tuple #[pt 0 0, .int .i64 2]) (by simp [results, Try.results7, go_sem, a0, a1]) rfl ⟨rfl, gF⟩

set_option maxRecDepth 20000 in
set_option maxHeartbeats 2000000 in
theorem rof_no (x y s : Int) (hs : szB s = false) (w : World) :
    Calls Try.prog 8 #[pt x y, .int .i64 s] w fun e w' => e = .returned (.tuple #[pt 0 0, .int .i64 2]) ∧ Gr w w' := by
  have S1 : Hid (∀ w, Calls Try.prog 24 #[.int .i64 s] w fun e w' => e = .returned (.bool false) ∧ w' = w) := fun w => by have := fits_any s w; rw [hs] at this; exact this
  have k1 : Bk ((w.alloc (.cells #[.int .i32 x, .int .i32 y] 23)).alloc (.cells #[.int .i32 0, .int .i32 0] 26)) (w.heap.size + 1) 26 [.int .i32 0, .int .i32 0] := by
    have := Bk.new (w.alloc (.cells #[.int .i32 x, .int .i32 y] 23)) 26 [.int .i32 0, .int .i32 0]; rwa [World.size_alloc] at this
  have gW : Gr w ((w.alloc (.cells #[.int .i32 x, .int .i32 y] 23)).alloc (.cells #[.int .i32 0, .int .i32 0] 26)) := ((Gr.refl _).alloc _).alloc _
  clear hs
  go_enter Try.func8, Try.ntmps8
  go_upto_region 1 with fail
  generalize (w.alloc (.cells #[.int .i32 x, .int .i32 y] 23)).alloc (.cells #[.int .i32 0, .int .i32 0] 26) = W at *
  obtain ⟨a0, a1⟩ := k1.two
  have z0 := k1.frozen 0
  have z1 := k1.frozen 1
  go_wp2_with (go_at_call 24; refine (S1.out _).mono ?_; rintro e w1 ⟨rfl, rfl⟩; clear S1)
  have f2 : Bk ((w1.setCell ⟨w.heap.size + 1, 0, none⟩ (.int .i32 0)).setCell ⟨w.heap.size + 1, 1, none⟩ (.int .i32 0)) (w.heap.size + 1) 26 [.int .i32 0, .int .i32 0] := (k1.set 0 _).set 1 _
  have gF := (gW.setCell (p := ⟨w.heap.size + 1, 0, none⟩) (by simp) (.int .i32 0)).setCell (p := ⟨w.heap.size + 1, 1, none⟩) (by simp) (.int .i32 0)
  clear a0 a1 z0 z1
  generalize (w1.setCell ⟨w.heap.size + 1, 0, none⟩ (.int .i32 0)).setCell ⟨w.heap.size + 1, 1, none⟩ (.int .i32 0) = W6 at *
  obtain ⟨a0, a1⟩ := f2.two
  exact bodyPost_ret (v := .tuple #[pt 0 0, .int .i64 2]) (by simp [results, Try.results8, go_sem, a0, a1]) rfl ⟨rfl, gF⟩

set_option maxRecDepth 20000 in
set_option maxHeartbeats 4000000 in
theorem rof_yes (x y s : Int) (hx : in32 x) (hy : in32 y) (hsz : szB s = true) (w : World) :
    Calls Try.prog 8 #[pt x y, .int .i64 s] w fun e w' => e = .returned (.tuple #[pt (x / s) (y / s), .int .i64 0]) ∧ Gr w w' := by
  have hs : 1 ≤ s := (szB_iff.1 hsz).1
  have S1 : Hid (∀ w, Calls Try.prog 24 #[.int .i64 s] w fun e w' => e = .returned (.bool true) ∧ w' = w) := fun w => by have := fits_any s w; rw [hsz] at this; exact this
  clear hsz
  have F1 : Hid (∀ w, Calls Try.prog 32 #[.int .i64 x, .int .i64 s] w fun e w' => e = .returned (.int .i64 (x / s)) ∧ w' = w) := down_any x s hs (by unfold in32 at hx; unfold in64; omega)
  have F2 : Hid (∀ w, Calls Try.prog 32 #[.int .i64 y, .int .i64 s] w fun e w' => e = .returned (.int .i64 (y / s)) ∧ w' = w) := down_any y s hs (by unfold in32 at hy; unfold in64; omega)
  have e1 : wrap32 (x / s) = x / s := w32_eq (ediv_32 hs hx)
  have e2 : wrap32 (y / s) = y / s := w32_eq (ediv_32 hs hy)
  have e3 : wrap64 x = x := w64_32 hx
  have e4 : wrap64 y = y := w64_32 hy
  clear hx hy hs
  generalize x / s = X at *
  generalize y / s = Y at *
  go_enter Try.func8, Try.ntmps8
  go_upto_region 1 with fail
  have k0 := (Bk.new w 23 [.int .i32 x, .int .i32 y]).alloc (.cells #[.int .i32 0, .int .i32 0] 26)
  have k1 := Bk.new (w.alloc (.cells #[.int .i32 x, .int .i32 y] 23)) 26 [.int .i32 0, .int .i32 0]
  have gW : Gr w ((w.alloc (.cells #[.int .i32 x, .int .i32 y] 23)).alloc (.cells #[.int .i32 0, .int .i32 0] 26)) := ((Gr.refl _).alloc _).alloc _
  rw [World.size_alloc] at k1
  generalize (w.alloc (.cells #[.int .i32 x, .int .i32 y] 23)).alloc (.cells #[.int .i32 0, .int .i32 0] 26) = W at *
  obtain ⟨y0, y1⟩ := k0.two
  have Q1 : Hid (∀ n, Calls Try.prog 32 #[.int .i64 x, .int .i64 s] (W.drewN n) fun e w' => e = .returned (.int .i64 X) ∧ ∃ n', w' = W.drewN n') := fun n => (F1.out _).mono fun e w' h => ⟨h.1, n, h.2⟩
  have Q2 : Hid (∀ n, Calls Try.prog 32 #[.int .i64 y, .int .i64 s] (W.drewN n) fun e w' => e = .returned (.int .i64 Y) ∧ ∃ n', w' = W.drewN n') := fun n => (F2.out _).mono fun e w' h => ⟨h.1, n, h.2⟩
  go_upto_region 3 with (go_at_call 24; refine (S1.out _).mono ?_; rintro e w1 ⟨rfl, rfl⟩; clear S1)
  generalize w1 = W at *
  obtain ⟨B, hB⟩ : ∃ B, B = w.heap.size := ⟨_, rfl⟩
  rw [← hB] at k0 k1 y0 y1 ⊢
  have HB : Hid (B = w.heap.size) := hB
  clear hB F1 F2
  obtain ⟨nF, hnF⟩ : ∃ nF : Nat, 5 ≤ nF := ⟨5, by omega⟩
  have hn1 : 1 ≤ nF - 1 := by omega
  refine (wpIn_wide (n := nF)).1 ?_
  refine region_head_lit 13 (by kernel_rfl) (by kernel_rfl) (by simp) (by kernel_rfl) ?_
  simp only [List.take_succ_cons, List.take_zero, List.drop_succ_cons, List.drop_zero]
  gi_big_quiet_step (fail)
  gi_big_quiet_step (fail)
  gi_big_quiet_step (fail)
  gi_big_quiet_step (fail)
  refine BigFrame.wpQuietIn_want (by intro w _ f hf; exact trivial) (by rfl) ?_
  intro K hK
  gi_big_quiet_op
  gi_big_quiet_call (exact ⟨fun _ => by omega, callsIn_wide.2 (Q1.out _)⟩)
  gi_big_quiet_step (fail)
  gi_big_quiet_step (fail)
  gi_big_quiet_step (fail)
  gi_big_quiet_step (fail)
  gi_big_quiet_step (fail)
  refine BigFrame.wpQuietIn_want (by intro w _ f hf; exact trivial) (by rfl) ?_
  intro K hK
  gi_big_quiet_op
  gi_big_quiet_call (exact ⟨fun _ => by omega, callsIn_wide.2 (Q2.out _)⟩)
  gi_big_quiet_step (fail)
  gi_big_quiet_step (fail)
  refine wpQuietIn_nil ?_
  intro _ hw'
  obtain ⟨nq, hw''⟩ := hw'
  subst hw''
  have g : Gr W (W.drewN nq) := (Gr.refl _).drewN nq
  have r1 := k1.gr g
  have gA := gW.trans g
  clear y0 y1 Q1 Q2 k0 k1 g gW
  generalize W.drewN nq = W2 at *
  obtain ⟨c0, c1⟩ := r1.two
  have f0 := r1.frozen 0
  have f1 := r1.frozen 1
  have q2 : Bk ((W2.setCell ⟨B + 1, 0, none⟩ (.int .i32 X)).setCell ⟨B + 1, 1, none⟩ (.int .i32 Y)) (B + 1) 26 [.int .i32 X, .int .i32 Y] := (r1.set 0 _).set 1 _
  have hBw : w.heap.size ≤ B + 1 := by have := HB.out; omega
  have gF := (gA.setCell (p := ⟨B + 1, 0, none⟩) hBw (.int .i32 X)).setCell (p := ⟨B + 1, 1, none⟩) hBw (.int .i32 Y)
  gi_wp2
  clear r1 c0 c1 f0 f1
  generalize (W2.setCell ⟨B + 1, 0, none⟩ (.int .i32 X)).setCell ⟨B + 1, 1, none⟩ (.int .i32 Y) = W3 at *
  obtain ⟨t0, t1⟩ := q2.two
  go_wp2
  refine bodyPost_ret (v := .tuple #[pt X Y, .int .i64 0]) (by simp [results, Try.results8, go_sem, t0, t1]) rfl ⟨rfl, gF⟩

theorem of_any (x y s : Int) (hx : in32 x) (hy : in32 y) (w : World) : Calls Try.prog 7 #[pt x y, .int .i64 s] w fun e w' => e = .returned (.tuple #[pt (ofC x y s).1 (ofC x y s).2, .int .i64 (ofE s)]) ∧ Gr w w' := by
  unfold ofC ofE
  cases h : szB s with
  | true => exact of_yes x y s hx hy h w
  | false => exact of_no x y s h w
theorem rof_any (x y s : Int) (hx : in32 x) (hy : in32 y) (w : World) : Calls Try.prog 8 #[pt x y, .int .i64 s] w fun e w' => e = .returned (.tuple #[pt (ofC x y s).1 (ofC x y s).2, .int .i64 (ofE s)]) ∧ Gr w w' := by
  unfold ofC ofE
  cases h : szB s with
  | true => exact rof_yes x y s hx hy h w
  | false => exact rof_no x y s h w
end Go.Proofs.Ytmoddfikhipagaa
