/- Set. -/
import Derived.Test.YtaapdkjmlplhgaaDd
set_option linter.unusedSimpArgs false
set_option linter.unusedVariables false
namespace Go.Proofs.Ytaapdkjmlplhgaa
open Go.RowKit Go.Sort Go.Shelf Go.Maps
attribute [local go_sem] Oper.semAt_some wide_fn
attribute [local simp] wide_fn

/-- What a call on Dues changes. -/
structure DCh (h mb : Nat) (v v' : Value) (w w' : World) : Prop where
  chg : Chg (fun k => k = h ∨ k = mb ∨ v.ownBlock = some k) w w'
  new : ∀ g, v'.ownBlock = some g → v.ownBlock = some g ∨ w.heap.size ≤ g
set_option maxHeartbeats 2000000 in
set_option maxRecDepth 100000 in
theorem set_there {B : Nat} {w : World} {d h pb mb : Nat} {v : Value} {l : List Du} {m : Pf} {most : Nat} (D : Ds B w d h pb mb v l m most) (x : Du) (hx : okD x) {j : Nat} (hm : m x.2 = some j) :
    Calls Try.prog 12 #[.pointer (some ⟨d, 0, none⟩), dV x] w fun e w' => e = .returned (.int .i64 140) ∧ Gr w w' := by
  obtain ⟨xa, xo, xf⟩ := x
  have g := (Gr.refl w).alloc (.cells #[.int .u32 xa, .int .u32 xo, .int .u32 xf] 32)
  have D1 := D.gr g
  have k3 := Bk.new w 32 [.int .u32 xa, .int .u32 xo, .int .u32 xf]
  have I := hid0 (absent_yes D1)
  clear D
  go_enter Try.func12, Try.ntmps12
  go_wp2_with (go_at_call 31; refine I.out.mono ?_; rintro e w1 ⟨rfl, rfl⟩)
  clear I
  go_upto_region 3 with fail
  generalize w.alloc _ = W at *
  obtain ⟨b3, e3⟩ : ∃ b3, b3 = w.heap.size := ⟨_, rfl⟩
  rw [← e3] at k3 ⊢
  clear e3
  have c2 := cell_gr D1.cells.2.2.1
  have x0 := cell_gr (k3.at 0)
  have x1 := cell_gr (k3.at 1)
  have x2 := cell_gr (k3.at 2)
  have LK : ∀ n os, (Instr.lookup 52 (.map (some mb)) (kV (xo, xf)) true).run Try.prog (grow (W.drewN n) os) = .ok (.tuple #[.int .i64 (j : Nat), .bool true]) (grow (W.drewN n) os) := fun n os => by
    have := look_map (D1.hv.map.same ((show Gr W (grow (W.drewN n) os) from ⟨n, os, rfl⟩).below.block _ D1.hv.map.lt)) (k := (xo, xf)) hx.2
    rw [show m (xo, xf) = some j from hm] at this
    exact this
  have OF : Hid (∀ n os, Calls Try.prog 20 #[dV (xa, xo, xf)] (grow (W.drewN n) os) fun e w' => e = .returned (kV (xo, xf)) ∧ ∃ p : GrownBy, w' = grow (W.drewN p.n) p.os) := fun n os => calmG n os (of_any (xa, xo, xf) _)
  refine wp_region_quiet_grown (by kernel_rfl) (by kernel_rfl) ?_
  repeat (go_big_quiet_step (exact OF.out _ _))
  refine wpQuiet_nil ?_
  intro _ hw'
  obtain ⟨⟨nq, osq⟩, hw''⟩ := hw'
  subst hw''
  have gg := hid0 (g.trans (show Gr W (grow (W.drewN nq) osq) from ⟨nq, osq, rfl⟩))
  clear c2 x0 x1 x2 LK OF D1 k3 g
  generalize grow (W.drewN nq) osq = W1 at *
  go_wp2
  go_ret
  exact ⟨rfl, gg.out⟩
set_option maxHeartbeats 2000000 in
set_option maxRecDepth 100000 in
theorem set_full {B : Nat} {w : World} {d h pb mb : Nat} {v : Value} {l : List Du} {m : Pf} {most : Nat} (D : Ds B w d h pb mb v l m most) (x : Du) (hx : okD x) (hm : m x.2 = none) (hlm : l.length = most) :
    Calls Try.prog 12 #[.pointer (some ⟨d, 0, none⟩), dV x] w fun e w' => e = .returned (.int .i64 5) ∧ Gr w w' := by
  obtain ⟨xa, xo, xf⟩ := x
  have g := (Gr.refl w).alloc (.cells #[.int .u32 xa, .int .u32 xo, .int .u32 xf] 32)
  have D1 := D.gr g
  have k3 := Bk.new w 32 [.int .u32 xa, .int .u32 xo, .int .u32 xf]
  have I := hid0 (absent_yes D1)
  clear D
  go_enter Try.func12, Try.ntmps12
  go_wp2_with (go_at_call 31; refine I.out.mono ?_; rintro e w1 ⟨rfl, rfl⟩)
  clear I
  go_upto_region 3 with fail
  generalize w.alloc _ = W at *
  obtain ⟨b3, e3⟩ : ∃ b3, b3 = w.heap.size := ⟨_, rfl⟩
  rw [← e3] at k3 ⊢
  clear e3
  have c2 := cell_gr D1.cells.2.2.1
  have x0 := cell_gr (k3.at 0)
  have x1 := cell_gr (k3.at 1)
  have x2 := cell_gr (k3.at 2)
  have LK : ∀ n os, (Instr.lookup 52 (.map (some mb)) (kV (xo, xf)) true).run Try.prog (grow (W.drewN n) os) = .ok (.tuple #[.int .i64 0, .bool false]) (grow (W.drewN n) os) := fun n os => by
    have := look_map (D1.hv.map.same ((show Gr W (grow (W.drewN n) os) from ⟨n, os, rfl⟩).below.block _ D1.hv.map.lt)) (k := (xo, xf)) hx.2
    rw [show m (xo, xf) = none from hm] at this
    exact this
  have OF : Hid (∀ n os, Calls Try.prog 20 #[dV (xa, xo, xf)] (grow (W.drewN n) os) fun e w' => e = .returned (kV (xo, xf)) ∧ ∃ p : GrownBy, w' = grow (W.drewN p.n) p.os) := fun n os => calmG n os (of_any (xa, xo, xf) _)
  refine wp_region_quiet_grown (by kernel_rfl) (by kernel_rfl) ?_
  repeat (go_big_quiet_step (exact OF.out _ _))
  refine wpQuiet_nil ?_
  intro _ hw'
  obtain ⟨⟨nq, osq⟩, hw''⟩ := hw'
  subst hw''
  have gg := hid0 (g.trans (show Gr W (grow (W.drewN nq) osq) from ⟨nq, osq, rfl⟩))
  have D2 := D1.gr (show Gr W (grow (W.drewN nq) osq) from ⟨nq, osq, rfl⟩)
  replace k3 := k3.gr (show Gr W (grow (W.drewN nq) osq) from ⟨nq, osq, rfl⟩)
  clear c2 x0 x1 x2 LK OF D1 g
  generalize grow (W.drewN nq) osq = W1 at *
  have c0 := fun n => below_cell D2.cells.1 ((Gr.refl W1).drewN n).below
  have LN : Hid (∀ n, Calls Try.prog 10 #[.pointer (some ⟨d, 0, none⟩)] (W1.drewN n) fun e w' => e = .returned (.int .i64 l.length) ∧ ∃ n, w' = W1.drewN n) := fun n => calm n (len_yes (D2.gr ((Gr.refl W1).drewN n)))
  go_upto_region 6 with fail
  refine wp_region_quiet_lit (by kernel_rfl) (by kernel_rfl) ?_
  repeat (go_big_quiet_step (exact LN.out _))
  refine wpQuiet_nil ?_
  intro _ hw'
  obtain ⟨nq2, hw''⟩ := hw'
  subst hw''
  have g2 := (Gr.refl W1).drewN nq2
  replace gg := hid0 (gg.out.trans g2)
  clear c0 LN D2 k3 g2
  generalize W1.drewN nq2 = W2 at *
  subst hlm
  go_wp2
  go_ret
  exact ⟨rfl, gg.out⟩
set_option maxHeartbeats 2000000 in
set_option maxRecDepth 100000 in
theorem set_ok {B : Nat} {w : World} {d h pb mb : Nat} {v : Value} {l : List Du} {m : Pf} {most : Nat} (D : Ds B w d h pb mb v l m most) (x : Du) (hx : okD x) (hm : m x.2 = none) (hlm : l.length < most) :
    Calls Try.prog 12 #[.pointer (some ⟨d, 0, none⟩), dV x] w fun e w' => e = .returned (.int .i64 0) ∧
      ∃ v' l' m', Ds B w' d h pb mb v' l' m' most ∧ (∀ y, y ∈ l' ↔ y = x ∨ y ∈ l) ∧ l'.length = l.length + 1 ∧ DCh h mb v v' w w' := by
  have hvw := fun g e => (row_lt D.hv.row (g := g) e).1
  have hdw := D.due.lt
  have hne : ¬ ((l.length : Int) = (most : Int)) := by omega
  obtain ⟨xa, xo, xf⟩ := x
  have g := (Gr.refl w).alloc (.cells #[.int .u32 xa, .int .u32 xo, .int .u32 xf] 32)
  have D1 := D.gr g
  have k3 := Bk.new w 32 [.int .u32 xa, .int .u32 xo, .int .u32 xf]
  have I := hid0 (absent_yes D1)
  clear D
  go_enter Try.func12, Try.ntmps12
  go_wp2_with (go_at_call 31; refine I.out.mono ?_; rintro e w1 ⟨rfl, rfl⟩)
  clear I
  go_upto_region 3 with fail
  generalize w.alloc _ = W at *
  obtain ⟨b3, e3⟩ : ∃ b3, b3 = w.heap.size := ⟨_, rfl⟩
  rw [← e3] at k3 ⊢
  clear e3
  have c2 := cell_gr D1.cells.2.2.1
  have x0 := cell_gr (k3.at 0)
  have x1 := cell_gr (k3.at 1)
  have x2 := cell_gr (k3.at 2)
  have LK : ∀ n os, (Instr.lookup 52 (.map (some mb)) (kV (xo, xf)) true).run Try.prog (grow (W.drewN n) os) = .ok (.tuple #[.int .i64 0, .bool false]) (grow (W.drewN n) os) := fun n os => by
    have := look_map (D1.hv.map.same ((show Gr W (grow (W.drewN n) os) from ⟨n, os, rfl⟩).below.block _ D1.hv.map.lt)) (k := (xo, xf)) hx.2
    rw [show m (xo, xf) = none from hm] at this
    exact this
  have OF : Hid (∀ n os, Calls Try.prog 20 #[dV (xa, xo, xf)] (grow (W.drewN n) os) fun e w' => e = .returned (kV (xo, xf)) ∧ ∃ p : GrownBy, w' = grow (W.drewN p.n) p.os) := fun n os => calmG n os (of_any (xa, xo, xf) _)
  refine wp_region_quiet_grown (by kernel_rfl) (by kernel_rfl) ?_
  repeat (go_big_quiet_step (exact OF.out _ _))
  refine wpQuiet_nil ?_
  intro _ hw'
  obtain ⟨⟨nq, osq⟩, hw''⟩ := hw'
  subst hw''
  have gg := hid0 (g.trans (show Gr W (grow (W.drewN nq) osq) from ⟨nq, osq, rfl⟩))
  have D2 := D1.gr (show Gr W (grow (W.drewN nq) osq) from ⟨nq, osq, rfl⟩)
  replace k3 := k3.gr (show Gr W (grow (W.drewN nq) osq) from ⟨nq, osq, rfl⟩)
  clear c2 x0 x1 x2 LK OF D1 g
  generalize grow (W.drewN nq) osq = W1 at *
  have c0 := fun n => below_cell D2.cells.1 ((Gr.refl W1).drewN n).below
  have LN : Hid (∀ n, Calls Try.prog 10 #[.pointer (some ⟨d, 0, none⟩)] (W1.drewN n) fun e w' => e = .returned (.int .i64 l.length) ∧ ∃ n, w' = W1.drewN n) := fun n => calm n (len_yes (D2.gr ((Gr.refl W1).drewN n)))
  go_upto_region 6 with fail
  refine wp_region_quiet_lit (by kernel_rfl) (by kernel_rfl) ?_
  repeat (go_big_quiet_step (exact LN.out _))
  refine wpQuiet_nil ?_
  intro _ hw'
  obtain ⟨nq2, hw''⟩ := hw'
  subst hw''
  have g2 := (Gr.refl W1).drewN nq2
  have D3 := D2.gr g2
  replace gg := hid0 (gg.out.trans g2)
  replace k3 := k3.gr g2
  clear c0 LN D2 g2
  generalize W1.drewN nq2 = W2 at *
  have hBW : B ≤ W2.heap.size := by have := D3.lo.1; have := D3.due.lt; omega
  have PA := put_any B h pb mb v l l.length m (xa, xo, xf)
  have c1 := fun n => below_cell D3.cells.2.1 ((Gr.refl W2).drewN n).below
  have x0 := fun n => below_cell (k3.at 0) ((Gr.refl W2).drewN n).below
  have x1 := fun n => below_cell (k3.at 1) ((Gr.refl W2).drewN n).below
  have x2 := fun n => below_cell (k3.at 2) ((Gr.refl W2).drewN n).below
  go_upto_region 8 with fail
  obtain ⟨nF, hnF⟩ : ∃ nF : Nat, 5 ≤ nF := ⟨5, by omega⟩
  refine (wpIn_wide (n := nF)).1 ?_
  refine region_head_lit 5 (by kernel_rfl) (by kernel_rfl) (by simp) (by kernel_rfl) ?_
  simp only [List.take_succ_cons, List.take_zero, List.drop_succ_cons, List.drop_zero]
  repeat (gi_big_quiet_step (fail))
  refine wpQuietIn_nil ?_
  intro _ hw'
  obtain ⟨q2, rfl⟩ := hw'
  have gq := (Gr.refl W2).drewN q2
  replace D3 := D3.gr gq
  replace gg := hid0 (gg.out.trans gq)
  have hBq := Nat.le_trans hBW gq.size
  clear c1 x0 x1 x2 k3 gq
  generalize W2.drewN q2 = W3 at *
  have hmo := D3.mo
  replace PA := PA W3 D3.hv hx (by omega) (by omega) hBq D3.pd.heap D3.pd.ok D3.pd.tie (fun y hy e => by
    obtain ⟨j, hj⟩ := (D3.pd.has (xo, xf)).2 ⟨y, hy, e⟩
    rw [show m (xo, xf) = none from hm] at hj
    cases hj)
  rw [show m (xo, xf) = none from hm] at PA
  simp only [Option.isSome_none, Bool.false_eq_true, if_false] at PA
  replace PA := hid0 PA
  have h1n : 1 ≤ nF := by omega
  gi_wp2_with fail
  refine (callsIn_wide.2 PA.out).mono ?_
  rintro e w4 ⟨rfl, l', m', g, cp, S, H, C, hBg, hg⟩
  obtain ⟨P', M', L'⟩ := D3.pd.put hx S
  have lo := D3.lo
  have dn4 : Bk w4 d 54 [.int .i64 most, .pointer (some ⟨h, 0, none⟩), .map (some mb)] := D3.due.chg C (by
    rintro (e | e | e)
    · subst e; have := bk_ty D3.due D3.hv.heap; cases this
    · subst e; obtain ⟨es, c, hm⟩ := D3.hv.map.isMap; exact bk_map D3.due hm
    · obtain ⟨_, _, cur, hr⟩ := row_lt D3.hv.row e; have := bk_ty D3.due hr; cases this)
  have F : Hid (∃ v' l' m', Ds B w4 d h pb mb v' l' m' most ∧ (∀ y, y ∈ l' ↔ y = (xa, xo, xf) ∨ y ∈ l) ∧ l'.length = l.length + 1 ∧ DCh h mb v v' w w4) := by
    refine ⟨.slice (some ⟨g, 0, none⟩) l'.length cp, l', m', ⟨dn4, ?_, P', lo, by omega, hmo.2⟩, M', L', ?_, ?_⟩
    · have := H.hv hBg
      rw [← L'] at this
      exact this
    · exact (Chg.of_gr gg.out).trans C
    · intro g' e
      simp only [Value.ownBlock, Option.some.injEq] at e
      rcases hg with hg | hg
      · exact .inl (by rw [hg, e])
      · right
        have := gg.out.size
        omega
  clear PA S H C P' M' D3 gg dn4
  gi_wp2
  go_wp2
  go_ret
  exact ⟨rfl, F.out⟩
end Go.Proofs.Ytaapdkjmlplhgaa
