/- What a due is of; the closure that is told where one stands. -/
import Derived.Test.YtaapdkjmlplhgaaMp
import Derived.Test.YtaapdkjmlplhgaaHd
import Derived.Test.YtaapdkjmlplhgaaCh
import Derived.Maps.OwnIn
set_option linter.unusedSimpArgs false
set_option linter.unusedVariables false
namespace Go.Proofs.Ytaapdkjmlplhgaa
open Go.RowKit Go.Sort Go.Shelf Go.Maps
attribute [local go_sem] Oper.semAt_some wide_fn
attribute [local simp] wide_fn

theorem calmG {P : Program} {f : FuncId} {args : Array Value} {v : Value} {W : World} (m : Nat) (os : Array Obj) (h : Calls P f args (grow (W.drewN m) os) fun e w' => e = .returned v ∧ Gr (grow (W.drewN m) os) w') : Calls P f args (grow (W.drewN m) os) fun e w' => e = .returned v ∧ ∃ p : GrownBy, w' = grow (W.drewN p.n) p.os :=
  h.mono fun _ _ ⟨h1, h2⟩ => ⟨h1, by
    obtain ⟨q, o2, e⟩ := (show Gr W _ from ⟨m, os, rfl⟩).trans h2
    exact ⟨⟨q, o2⟩, e⟩⟩
theorem of_any (x : Du) (w : World) : Calls Try.prog 20 #[dV x] w fun e w' => e = .returned (kV x.2) ∧ Gr w w' := by
  obtain ⟨xa, xo, xf⟩ := x
  go_enter Try.func20, Try.ntmps20
  go_wp2
  refine bodyPost_ret (v := kV (xo, xf)) (by simp [results, Try.results20, go_sem]) rfl ⟨rfl, ((Gr.refl _).alloc _).alloc _⟩
theorem moved_any (x : Du) (i : Nat) (pb mb s : Nat) (m : Pf) (w : World) (hx : okK x.2) (hp : Bk w pb 52 [.map (some mb)]) (hm : MapF w mb s m) (hs : s < 1000000) (hi : i < 1000000) :
    Calls Try.prog 19 #[dV x, .int .i64 i, .pointer (some ⟨pb, 0, none⟩)] w fun e w' => e = .returned (.tuple #[]) ∧ MapF w' mb (if (m x.2).isSome then s else s + 1) (upd m x.2 (some i)) ∧ Chg (fun k => k = mb) w w' := by
  obtain ⟨xa, xo, xf⟩ := x
  generalize es : (if (m (xa, xo, xf).2).isSome then s else s + 1) = s'
  replace es := hid0 es
  have k1 := Bk.new w 32 (dL (xa, xo, xf))
  have g := (Gr.refl w).alloc (.cells (dL (xa, xo, xf)).toArray 32)
  dsimp only [dL] at k1 g
  have hp1 := hp.gr g
  have hm1 := hid0 (hm.same (g.below.block _ hm.lt))
  clear hp hm
  go_enter Try.func19, Try.ntmps19
  go_upto_region 1 with fail
  generalize w.alloc _ = W at *
  obtain ⟨b1, e1⟩ : ∃ b1, b1 = w.heap.size := ⟨_, rfl⟩
  rw [← e1] at k1 ⊢
  clear e1
  have c0 := cell_gr hp1.one
  have x0 := cell_gr (k1.at 0)
  have x1 := cell_gr (k1.at 1)
  have x2 := cell_gr (k1.at 2)
  have OF : Hid (∀ n os, Calls Try.prog 20 #[dV (xa, xo, xf)] (grow (W.drewN n) os) fun e w' => e = .returned (kV (xo, xf)) ∧ ∃ p : GrownBy, w' = grow (W.drewN p.n) p.os) := fun n os => calmG n os (of_any (xa, xo, xf) _)
  obtain ⟨nF, hnF⟩ : ∃ nF : Nat, 5 ≤ nF := ⟨5, by omega⟩
  refine (wpIn_wide (n := nF)).1 ?_
  refine region_head_grown 4 (by kernel_rfl) (by kernel_rfl) (by simp) (by kernel_rfl) ?_
  simp only [List.take_succ_cons, List.take_zero, List.drop_succ_cons, List.drop_zero]
  repeat (gi_big_quiet_step (fail))
  refine BigFrame.wpQuietIn_want (by intro w _ f hf; exact trivial) (by rfl) ?_
  intro K hK
  gi_big_quiet_op
  gi_big_quiet_call (exact ⟨fun _ => by omega, callsIn_wide.2 (OF.out _ _)⟩)
  repeat (gi_big_quiet_step (fail))
  refine wpQuietIn_nil ?_
  intro _ hw'
  obtain ⟨⟨dq, osq⟩, hw''⟩ := hw'
  subst hw''
  have g2 : Gr W (grow (W.drewN dq) osq) := ⟨dq, osq, rfl⟩
  obtain ⟨D, hD, hDs, hDm⟩ := hm1.out.same (g2.below.block _ hm1.out.lt)
  have hkey := key_of hx
  have hGr := g.trans g2
  clear c0 x0 x1 x2 OF k1 hp1 g hm1 g2
  generalize grow (W.drewN dq) osq = W2 at *
  refine wpListIn_mapUpdate_own _ rfl _ _ _ 52 rfl 57 3 m_law Try.underlying52 _ mb s D rfl hD (by unfold maxLen; omega) _ _ _ rfl rfl hkey _ [] (plainElem_int Try.underlying3 (WalkArith.wf_i64 (by omega))) ?_
  intro w1 hown1 hgrow1
  have HM := MapF.put hx hD hDs hDm hown1
  rw [es.out] at HM
  replace HM := hid0 HM
  have HC : Hid (Chg (fun k => k = mb) w w1) := (Chg.of_gr hGr).trans (Chg.grown hgrow1)
  clear hD hDs hDm hkey hown1 hgrow1
  gi_wp2
  go_wp2
  go_end0
  exact ⟨rfl, HM.out, HC.out⟩
end Go.Proofs.Ytaapdkjmlplhgaa
