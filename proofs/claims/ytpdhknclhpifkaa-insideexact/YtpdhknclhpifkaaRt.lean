/- The reference of inside: Crossings, Winding, Covers; they answer as the program does. -/
import Derived.Test.YtpdhknclhpifkaaRs
namespace Go.Proofs.Ytpdhknclhpifkaa
open Go.RowKit Go.Shelf Go.Sort

theorem turnP_swap (a b p : Int × Int) : turnP b a p = -turnP a b p := by
  unfold turnP
  rw [turn_cyc p.1 p.2 b.1 b.2 a.1 a.2, turn_back p.1 p.2 a.1 a.2 b.1 b.2, turn_cyc p.1 p.2 a.1 a.2 b.1 b.2]
theorem past_rf (p a b : Int × Int) : pastI p a b = riseI p a b - fallI p a b := by
  unfold pastI riseI fallI
  rw [turnP_swap a b p]
  rcases turnP_cases a b p with h | h | h <;> rw [h] <;> (repeat' split) <;> omega
theorem cross_rf (p a b : Int × Int) : crossI p a b = riseI p a b + fallI p a b := by
  unfold crossI pastI riseI fallI
  rw [turnP_swap a b p]
  rcases turnP_cases a b p with h | h | h <;> rw [h] <;> (repeat' split) <;> omega
theorem sum_wind (p : Int × Int) (L : List (Int × Int)) (k : Nat) : sumZ (pastI p) L k = sumZ (riseI p) L k - sumZ (fallI p) L k := by
  induction k with
  | zero => rfl
  | succ k ih => rw [sumZ_succ, sumZ_succ, sumZ_succ, ih, past_rf]; omega
theorem sum_cross (p : Int × Int) (L : List (Int × Int)) (k : Nat) : sumZ (crossI p) L k = sumZ (riseI p) L k + sumZ (fallI p) L k := by
  induction k with
  | zero => rfl
  | succ k ih => rw [sumZ_succ, sumZ_succ, sumZ_succ, ih, cross_rf]; omega
theorem sum_01 {f : Int × Int → Int × Int → Int} {L : List (Int × Int)} (h : ∀ a b, 0 ≤ f a b ∧ f a b ≤ 1) (k : Nat) : 0 ≤ sumZ f L k ∧ sumZ f L k ≤ k := by
  induction k with
  | zero => simp [sumZ]
  | succ k ih => rw [sumZ_succ]; have := h (pAt L k) (pAt L (k + 1)); push_cast; omega


set_option maxRecDepth 100000 in
set_option maxHeartbeats 4000000 in
theorem rcrossings_any (ao : Option Addr) (cap : Nat) (L : List (Int × Int)) (hL : All32 L) (hlen : L.length ≤ 17592186043904) (p : Int × Int) (hp : P32 p) (w : World) (hP : Pts w ao L) : Calls Try.prog 33 #[.slice ao L.length cap, pt p.1 p.2] w fun e w' => e = .returned (.int .i64 (sumZ (crossI p) L L.length)) ∧ Below w.heap.size w w' := by
  have g : Gr w (w.alloc (.cells #[.int .i32 p.1, .int .i32 p.2] 31)) := (Gr.refl _).alloc _
  have q := PtB.new w p
  have hr := sum_01 (L := L) (riseI_bd p) L.length
  have hf := sum_01 (L := L) (fallI_bd p) L.length
  have hs : Hid (sumZ (crossI p) L L.length = sumZ (riseI p) L L.length + sumZ (fallI p) L L.length) := sum_cross p L L.length
  have C : Hid (∀ d os, Calls Try.prog 74 #[.slice ao L.length cap, pt p.1 p.2] (grow (redrawn (w.alloc (.cells #[.int .i32 p.1, .int .i32 p.2] 31)) d) os) fun e w' => e = .returned (.int .i64 (sumZ (riseI p) L L.length)) ∧ ∃ q : Regrown, w' = grow (redrawn (w.alloc (.cells #[.int .i32 p.1, .int .i32 p.2] 31)) q.d) q.os) :=
    fun d os => Calls.regrown_of (rises_any ao cap L hL hlen p hp _ ((hP.mono g.below).mono (below_regrown _ d os)))
  have D : Hid (∀ d os, Calls Try.prog 75 #[.slice ao L.length cap, pt p.1 p.2] (grow (redrawn (w.alloc (.cells #[.int .i32 p.1, .int .i32 p.2] 31)) d) os) fun e w' => e = .returned (.int .i64 (sumZ (fallI p) L L.length)) ∧ ∃ q : Regrown, w' = grow (redrawn (w.alloc (.cells #[.int .i32 p.1, .int .i32 p.2] 31)) q.d) q.os) :=
    fun d os => Calls.regrown_of (falls_any ao cap L hL hlen p hp _ ((hP.mono g.below).mono (below_regrown _ d os)))
  have e0 := fun d os => cell_regrown q.c0 d os
  have e1 := fun d os => cell_regrown q.c1 d os
  generalize sumZ (riseI p) L L.length = r at *
  generalize sumZ (fallI p) L L.length = f at *
  have e2 : Hid (wrap64 (r + f) = r + f) := by unfold Hid; unfold wrap64; omega
  clear hr hf
  go_enter Try.func33, Try.ntmps33
  go_wp2
  refine wp_region_quiet_below (by kernel_rfl) (by kernel_rfl) ?_
  repeat (go_big_quiet_step (first | exact C.out _ _ | exact D.out _ _))
  refine wpQuiet_nil ?_
  intro _ hw'
  obtain ⟨⟨dq, osq⟩, hw''⟩ := hw'
  subst hw''
  have gb := below_regrown (w.alloc (.cells #[.int .i32 p.1, .int .i32 p.2] 31)) dq osq
  generalize grow (redrawn (w.alloc (.cells #[.int .i32 p.1, .int .i32 p.2] 31)) dq) osq = w2 at *
  go_wp2
  go_ret
  exact ⟨by rw [hs.out]; exact congrArg (fun z => Ending.returned (.int .i64 z)) e2.out, g.below.trans (gb.mono g.size)⟩

set_option maxRecDepth 100000 in
set_option maxHeartbeats 4000000 in
theorem rwinding_any (ao : Option Addr) (cap : Nat) (L : List (Int × Int)) (hL : All32 L) (hlen : L.length ≤ 17592186043904) (p : Int × Int) (hp : P32 p) (w : World) (hP : Pts w ao L) : Calls Try.prog 37 #[.slice ao L.length cap, pt p.1 p.2] w fun e w' => e = .returned (.int .i64 (sumZ (pastI p) L L.length)) ∧ Below w.heap.size w w' := by
  have g : Gr w (w.alloc (.cells #[.int .i32 p.1, .int .i32 p.2] 31)) := (Gr.refl _).alloc _
  have q := PtB.new w p
  have hr := sum_01 (L := L) (riseI_bd p) L.length
  have hf := sum_01 (L := L) (fallI_bd p) L.length
  have hs : Hid (sumZ (pastI p) L L.length = sumZ (riseI p) L L.length - sumZ (fallI p) L L.length) := sum_wind p L L.length
  have C : Hid (∀ d os, Calls Try.prog 74 #[.slice ao L.length cap, pt p.1 p.2] (grow (redrawn (w.alloc (.cells #[.int .i32 p.1, .int .i32 p.2] 31)) d) os) fun e w' => e = .returned (.int .i64 (sumZ (riseI p) L L.length)) ∧ ∃ q : Regrown, w' = grow (redrawn (w.alloc (.cells #[.int .i32 p.1, .int .i32 p.2] 31)) q.d) q.os) :=
    fun d os => Calls.regrown_of (rises_any ao cap L hL hlen p hp _ ((hP.mono g.below).mono (below_regrown _ d os)))
  have D : Hid (∀ d os, Calls Try.prog 75 #[.slice ao L.length cap, pt p.1 p.2] (grow (redrawn (w.alloc (.cells #[.int .i32 p.1, .int .i32 p.2] 31)) d) os) fun e w' => e = .returned (.int .i64 (sumZ (fallI p) L L.length)) ∧ ∃ q : Regrown, w' = grow (redrawn (w.alloc (.cells #[.int .i32 p.1, .int .i32 p.2] 31)) q.d) q.os) :=
    fun d os => Calls.regrown_of (falls_any ao cap L hL hlen p hp _ ((hP.mono g.below).mono (below_regrown _ d os)))
  have e0 := fun d os => cell_regrown q.c0 d os
  have e1 := fun d os => cell_regrown q.c1 d os
  generalize sumZ (riseI p) L L.length = r at *
  generalize sumZ (fallI p) L L.length = f at *
  have e2 : Hid (wrap64 (r - f) = r - f) := by unfold Hid; unfold wrap64; omega
  clear hr hf
  go_enter Try.func37, Try.ntmps37
  go_wp2
  refine wp_region_quiet_below (by kernel_rfl) (by kernel_rfl) ?_
  repeat (go_big_quiet_step (first | exact C.out _ _ | exact D.out _ _))
  refine wpQuiet_nil ?_
  intro _ hw'
  obtain ⟨⟨dq, osq⟩, hw''⟩ := hw'
  subst hw''
  have gb := below_regrown (w.alloc (.cells #[.int .i32 p.1, .int .i32 p.2] 31)) dq osq
  generalize grow (redrawn (w.alloc (.cells #[.int .i32 p.1, .int .i32 p.2] 31)) dq) osq = w2 at *
  go_wp2
  go_ret
  exact ⟨by rw [hs.out]; exact congrArg (fun z => Ending.returned (.int .i64 z)) e2.out, g.below.trans (gb.mono g.size)⟩

set_option maxRecDepth 100000 in
set_option maxHeartbeats 2000000 in
theorem rcovers_any (ao : Option Addr) (cap : Nat) (L : List (Int × Int)) (hL : All32 L) (hlen : L.length ≤ 17592186043904) (p : Int × Int) (hp : P32 p) (w : World) (hP : Pts w ao L) : Calls Try.prog 35 #[.slice ao L.length cap, pt p.1 p.2] w fun e w' => e = .returned (.bool (coversL L p)) ∧ Below w.heap.size w w' := by
  have g : Gr w (w.alloc (.cells #[.int .i32 p.1, .int .i32 p.2] 31)) := (Gr.refl _).alloc _
  have q := PtB.new w p
  have C : Hid (Calls Try.prog 31 #[.slice ao L.length cap, pt p.1 p.2] (w.alloc (.cells #[.int .i32 p.1, .int .i32 p.2] 31)) fun e w' => e = .returned (.bool (edgeL L p)) ∧ Below (w.alloc (.cells #[.int .i32 p.1, .int .i32 p.2] 31)).heap.size (w.alloc (.cells #[.int .i32 p.1, .int .i32 p.2] 31)) w') := redge_any ao cap L hL hlen p hp _ (hP.mono g.below)
  have D : Hid (∀ W, Below (w.alloc (.cells #[.int .i32 p.1, .int .i32 p.2] 31)).heap.size (w.alloc (.cells #[.int .i32 p.1, .int .i32 p.2] 31)) W → Calls Try.prog 33 #[.slice ao L.length cap, pt p.1 p.2] W fun e w' => e = .returned (.int .i64 (sumZ (crossI p) L L.length)) ∧ Below W.heap.size W w') := fun W hB => rcrossings_any ao cap L hL hlen p hp W ((hP.mono g.below).mono hB)
  have hr := sum_01 (L := L) (riseI_bd p) L.length
  have hf := sum_01 (L := L) (fallI_bd p) L.length
  have hs := sum_cross p L L.length
  have hc0 : 0 ≤ sumZ (crossI p) L L.length := by omega
  have hcu : sumZ (crossI p) L L.length ≤ 9223372036854775807 := by omega
  clear hr hf hs
  unfold coversL
  generalize sumZ (crossI p) L L.length = r at *
  cases he : edgeL L p with
  | true =>
    rw [he] at C
    go_enter Try.func35, Try.ntmps35
    go_wp2_with (first | (go_at_call 31; refine C.out.mono ?_; rintro e w' ⟨rfl, g'⟩))
    go_ret
    exact ⟨rfl, g.below.trans (g'.mono g.size)⟩
  | false =>
    rw [he] at C
    go_enter Try.func35, Try.ntmps35
    go_wp2_with (first | (go_at_call 31; refine C.out.mono ?_; rintro e w' ⟨rfl, g'⟩; have c0 := (q.mono g' q.lt).c0; have c1 := (q.mono g' q.lt).c1) | (go_at_call 33; refine (D.out _ g').mono ?_; rintro e w2 ⟨rfl, g2⟩))
    go_ret
    exact ⟨by rw [Bool.false_or]; rfl, g.below.trans ((g'.trans (g2.mono g'.size)).mono g.size)⟩
end Go.Proofs.Ytpdhknclhpifkaa
