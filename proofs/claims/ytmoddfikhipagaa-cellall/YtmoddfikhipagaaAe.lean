/- atEdge's row. -/
import Derived.Test.YtmoddfikhipagaaHo
import Derived.Test.YtmoddfikhipagaaRg
set_option linter.unusedSimpArgs false
set_option linter.unusedVariables false
namespace Go.Proofs.Ytmoddfikhipagaa
open Go.RowKit Go.Sort

theorem hid0 {p : Prop} (h : p) : Hid p := h

set_option maxRecDepth 20000 in
set_option maxHeartbeats 4000000 in
theorem row_any (b1 b2 b3 : Nat) (px py c s r : Int) (hc : 1 ≤ c) (hs : 1 ≤ s) (hr : in64 r) (hy : in32 py) (hm : in32 (py + r / c)) (w : World) (k1 : Bk w b1 23 [.int .i32 px, .int .i32 py]) (k2 : Bk w b2 2 [.int .i64 c]) (k3 : Bk w b3 2 [.int .i64 s]) :
    Calls Try.prog 52 #[.int .i64 r, .pointer (some ⟨b1, 0, none⟩), .pointer (some ⟨b2, 0, none⟩), .pointer (some ⟨b3, 0, none⟩)] w fun e w' => e = .returned (.int .i32 ((py + r / c) / s)) ∧ Gr w w' := by
  have h64 : in64 (py + r / c) := by unfold in32 at hm; unfold in64; omega
  have F1 := hid0 (floor_any r c hc hr)
  have F2 := hid0 (floor_any (py + r / c) s hs h64)
  have e1 : wrap32 ((py + r / c) / s) = (py + r / c) / s := w32_eq (ediv_32 hs hm)
  have e2 : wrap64 py = py := w64_32 hy
  have e3 : wrap64 (py + r / c) = py + r / c := w64_in h64
  clear hc hs hr hy hm h64
  generalize r / c = Q at *
  obtain ⟨S, hS⟩ : ∃ S, S = py + Q := ⟨_, rfl⟩
  rw [← hS] at F2 e1 ⊢
  have e4 : wrap64 (py + Q) = S := by rw [e3, hS]
  clear e3 hS
  generalize S / s = T at *
  obtain ⟨y0, y1⟩ := k1.two
  have y2 := k2.one
  have y3 := k3.one
  have Q1 : Hid (∀ n, Calls Try.prog 46 #[.int .i64 r, .int .i64 c] (w.drewN n) fun e w' => e = .returned (.int .i64 Q) ∧ ∃ n', w' = w.drewN n') := fun n => (F1.out _).mono fun e w' h => ⟨h.1, n, h.2⟩
  have Q2 : Hid (∀ n, Calls Try.prog 46 #[.int .i64 S, .int .i64 s] (w.drewN n) fun e w' => e = .returned (.int .i64 T) ∧ ∃ n', w' = w.drewN n') := fun n => (F2.out _).mono fun e w' h => ⟨h.1, n, h.2⟩
  clear F1 F2
  go_enter Try.func52, Try.ntmps52
  go_upto_region 1 with fail
  obtain ⟨nF, hnF⟩ : ∃ nF : Nat, 5 ≤ nF := ⟨5, by omega⟩
  have hn1 : 1 ≤ nF - 1 := by omega
  refine (wpIn_wide (n := nF)).1 ?_
  refine region_head_lit 10 (by kernel_rfl) (by kernel_rfl) (by simp) (by kernel_rfl) ?_
  simp only [List.take_succ_cons, List.take_zero, List.drop_succ_cons, List.drop_zero]
  gi_big_quiet_step (fail)
  gi_big_quiet_step (fail)
  gi_big_quiet_step (fail)
  gi_big_quiet_step (fail)
  gi_big_quiet_step (fail)
  refine BigFrame.wpQuietIn_want (by intro w _ f hf; exact trivial) (by rfl) ?_
  intro K hK
  gi_big_quiet_op
  gi_big_quiet_call (exact ⟨fun _ => by omega, callsIn_wide.2 (Q1.out _)⟩)
  gi_big_quiet_step (fail)
  gi_big_quiet_step (fail)
  refine BigFrame.wpQuietIn_want (by intro w _ f hf; exact trivial) (by rfl) ?_
  intro K hK
  gi_big_quiet_op
  gi_big_quiet_call (exact ⟨fun _ => by omega, callsIn_wide.2 (Q2.out _)⟩)
  gi_big_quiet_step (fail)
  refine wpQuietIn_nil ?_
  intro _ hw'
  obtain ⟨nq, hw''⟩ := hw'
  subst hw''
  gi_wp2
  go_wp2
  go_ret
  exact ⟨congrArg (fun z => Ending.returned (.int .i32 z)) e1, (Gr.refl _).drewN nq⟩
end Go.Proofs.Ytmoddfikhipagaa
