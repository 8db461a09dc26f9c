/- cmp.Compare of uint32, cmp.Or of int, order. -/
import Derived.Test.YtaapdkjmlplhgaaPl
import Derived.Test.YtaapdkjmlplhgaaHx
import Derived.Test.YtaapdkjmlplhgaaSq
set_option linter.unusedSimpArgs false
set_option linter.unusedVariables false
namespace Go.Proofs.Ytaapdkjmlplhgaa
open Go.RowKit Go.Sort Go.Shelf
attribute [local go_sem] Oper.semAt_some wide_fn
attribute [local simp] wide_fn

/-- A call that only reads, at a world behind some draws. -/
theorem calm {P : Program} {f : FuncId} {args : Array Value} {v : Value} {W : World} (m : Nat) (h : Calls P f args (W.drewN m) fun e w' => e = .returned v ∧ w' = W.drewN m) : Calls P f args (W.drewN m) fun e w' => e = .returned v ∧ ∃ n, w' = W.drewN n :=
  h.mono fun _ _ ⟨h1, h2⟩ => ⟨h1, m, h2⟩
theorem nan_any (x : Int) (w : World) : Calls Try.prog 45 #[.int .u32 x] w fun e w' => e = .returned (.bool false) ∧ w' = w := by
  go_enter Try.func45, Try.ntmps45
  go_wp2
  go_ret
  exact ⟨rfl, rfl⟩
theorem compare_any (x y : Int) (w : World) : Calls Try.prog 37 #[.int .u32 x, .int .u32 y] w fun e w' => e = .returned (.int .i64 (c2 x y)) ∧ w' = w := by
  have N := fun x => hid0 (nan_any x w)
  by_cases h1 : x < y
  · have e : c2 x y = -1 := by simp [c2, h1]
    rw [e]
    clear e
    go_enter Try.func37, Try.ntmps37
    go_wp2_with fail
    refine (N x).out.mono ?_
    rintro e w1 ⟨rfl, hw⟩
    cases hw
    go_wp2_with fail
    refine (N y).out.mono ?_
    rintro e w1 ⟨rfl, hw⟩
    cases hw
    go_wp2
    go_ret
    exact ⟨rfl, rfl⟩
  by_cases h2 : y < x
  · have e : c2 x y = 1 := by simp [c2, h1, h2]
    rw [e]
    clear e
    go_enter Try.func37, Try.ntmps37
    go_wp2_with fail
    refine (N x).out.mono ?_
    rintro e w1 ⟨rfl, hw⟩
    cases hw
    go_wp2_with fail
    refine (N y).out.mono ?_
    rintro e w1 ⟨rfl, hw⟩
    cases hw
    go_wp2
    go_ret
    exact ⟨rfl, rfl⟩
  have e : c2 x y = 0 := by simp [c2, h1, h2]
  rw [e]
  clear e
  go_enter Try.func37, Try.ntmps37
  go_wp2_with fail
  refine (N x).out.mono ?_
  rintro e w1 ⟨rfl, hw⟩
  cases hw
  go_wp2_with fail
  refine (N y).out.mono ?_
  rintro e w1 ⟨rfl, hw⟩
  cases hw
  go_wp2
  go_ret
  exact ⟨rfl, rfl⟩
def or3 (x y z : Int) : Int := if x ≠ 0 then x else if y ≠ 0 then y else z
theorem or_any (b : Nat) (x y z : Int) (w : World) (k : Bk w b 3 [.int .i64 x, .int .i64 y, .int .i64 z]) : Calls Try.prog 36 #[.slice (some ⟨b, 0, none⟩) 3 3] w fun e w' => e = .returned (.int .i64 (or3 x y z)) ∧ w' = w := by
  have c0 : w.cell? ⟨b, 0, none⟩ = some (.int .i64 x) := k.at 0
  have c1 : w.cell? ⟨b, 1, none⟩ = some (.int .i64 y) := k.at 1
  have c2 : w.cell? ⟨b, 2, none⟩ = some (.int .i64 z) := k.at 2
  unfold or3
  go_enter Try.func36, Try.ntmps36
  go_wp2
  go_loopw [8] (fun v wr => wr = w ∧ ((v = .int .i64 0) ∨ (x = 0 ∧ v = .int .i64 1) ∨ (x = 0 ∧ y = 0 ∧ v = .int .i64 2) ∨ (x = 0 ∧ y = 0 ∧ z = 0 ∧ v = .int .i64 3))) (fun v _ => 3 - (intOf v).toNat)
  case atStart => exact ⟨rfl, .inl rfl⟩
  case round =>
    obtain ⟨rfl, hr⟩ := hrel
    rcases hr with rfl | ⟨rfl, rfl⟩ | ⟨rfl, rfl, rfl⟩ | ⟨rfl, rfl, rfl, rfl⟩
    · by_cases h : x = 0
      · subst h
        go_wp2
        go_roundw
        case rel => simp
        case measure => simp [intOf]
      · simp only [h, ne_eq, not_false_eq_true, if_true]
        go_wp2
        go_ret
        exact ⟨rfl, rfl⟩
    · by_cases h : y = 0
      · subst h
        go_wp2
        go_roundw
        case rel => simp
        case measure => simp [intOf]
      · simp only [h, ne_eq, not_true, not_false_eq_true, if_true, if_false]
        go_wp2
        go_ret
        exact ⟨rfl, rfl⟩
    · by_cases h : z = 0
      · subst h
        go_wp2
        go_roundw
        case rel => simp
        case measure => simp [intOf]
      · simp only [ne_eq, not_true, if_false]
        go_wp2
        go_ret
        exact ⟨rfl, rfl⟩
    · simp only [ne_eq, not_true, if_false]
      go_wp2
      go_ret
      exact ⟨rfl, rfl⟩
theorem order_any (x y : Du) (w : World) : Calls Try.prog 21 #[dV x, dV y] w fun e w' => e = .returned (.int .i64 (cfD x y)) ∧ Gr w w' := by
  obtain ⟨xa, xo, xf⟩ := x
  obtain ⟨ya, yo, yf⟩ := y
  have kx := (Bk.new w 32 (dL (xa, xo, xf))).alloc (.cells (dL (ya, yo, yf)).toArray 32)
  have ky := Bk.new (w.alloc (.cells (dL (xa, xo, xf)).toArray 32)) 32 (dL (ya, yo, yf))
  have g0 := hid0 (((Gr.refl w).alloc (.cells (dL (xa, xo, xf)).toArray 32)).alloc (.cells (dL (ya, yo, yf)).toArray 32))
  rw [World.size_alloc] at ky
  have CP := fun x y W m => hid0 (calm (W := W) m (compare_any x y _))
  dsimp only [dL] at kx ky g0
  dsimp only [dV]
  go_enter Try.func21, Try.ntmps21
  go_upto_region 2 with fail
  generalize hW : (w.alloc _).alloc _ = W at *
  obtain ⟨by', ey⟩ : ∃ b, b = w.heap.size + 1 := ⟨_, rfl⟩
  obtain ⟨bx', ex⟩ : ∃ b, b = w.heap.size := ⟨_, rfl⟩
  rw [← ey] at ky ⊢
  rw [← ex] at kx ⊢
  clear ex ey hW
  have q0 := fun m => below_cell (kx.at 0) ((Gr.refl W).drewN m).below
  have q1 := fun m => below_cell (kx.at 1) ((Gr.refl W).drewN m).below
  have q2 := fun m => below_cell (kx.at 2) ((Gr.refl W).drewN m).below
  have r0 := fun m => below_cell (ky.at 0) ((Gr.refl W).drewN m).below
  have r1 := fun m => below_cell (ky.at 1) ((Gr.refl W).drewN m).below
  have r2 := fun m => below_cell (ky.at 2) ((Gr.refl W).drewN m).below
  have OR : Hid (∀ m (x y z : Int), Calls Try.prog 36 #[.slice (some ⟨(W.drewN m).heap.size, 0, none⟩) 3 3] ((W.drewN m).alloc (.cells #[.int .i64 x, .int .i64 y, .int .i64 z] 3)) fun e w' => e = .returned (.int .i64 (or3 x y z)) ∧ w' = ((W.drewN m).alloc (.cells #[.int .i64 x, .int .i64 y, .int .i64 z] 3))) := fun m x y z => or_any _ x y z _ (Bk.new _ _ _)
  have G1 : Hid (∀ m o, Gr w ((W.drewN m).alloc o)) := fun m o => (g0.out.drewN m).alloc o
  clear g0 kx ky
  obtain ⟨nF, hnF⟩ : ∃ nF : Nat, 5 ≤ nF := ⟨5, by omega⟩
  refine (wpIn_wide (n := nF)).1 ?_
  refine region_head_lit 15 (by kernel_rfl) (by kernel_rfl) (by simp) (by kernel_rfl) ?_
  simp only [List.take_succ_cons, List.take_zero, List.drop_succ_cons, List.drop_zero]
  repeat (gi_big_quiet_step (fail))
  refine BigFrame.wpQuietIn_want (by intro w _ f hf; exact trivial) (by rfl) ?_
  intro K hK
  gi_big_quiet_op
  gi_big_quiet_call (exact ⟨fun _ => by omega, callsIn_wide.2 (CP _ _ W _).out⟩)
  repeat (gi_big_quiet_step (fail))
  refine BigFrame.wpQuietIn_want (by intro w _ f hf; exact trivial) (by rfl) ?_
  intro K hK
  gi_big_quiet_op
  gi_big_quiet_call (exact ⟨fun _ => by omega, callsIn_wide.2 (CP _ _ W _).out⟩)
  repeat (gi_big_quiet_step (fail))
  refine BigFrame.wpQuietIn_want (by intro w _ f hf; exact trivial) (by rfl) ?_
  intro K hK
  gi_big_quiet_op
  gi_big_quiet_call (exact ⟨fun _ => by omega, callsIn_wide.2 (CP _ _ W _).out⟩)
  repeat (gi_big_quiet_step (fail))
  refine wpQuietIn_nil ?_
  intro _ hw'
  obtain ⟨q, rfl⟩ := hw'
  have o1 := hid0 (OR.out q (c2 xa ya) (c2 xo yo) (c2 xf yf))
  have g1 := G1.out q
  clear q0 q1 q2 r0 r1 r2 OR G1
  generalize W.drewN q = Wq at *
  have h1n : 1 ≤ nF := by omega
  gi_wp2_with fail
  refine (callsIn_wide.2 o1.out).mono ?_
  rintro e w1 ⟨rfl, hw⟩
  cases hw
  gi_wp2
  go_wp2
  go_ret
  exact ⟨rfl, g1 _⟩
end Go.Proofs.Ytaapdkjmlplhgaa
