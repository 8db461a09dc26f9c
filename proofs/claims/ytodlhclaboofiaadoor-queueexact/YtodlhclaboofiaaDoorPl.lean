/- The ring of pairs: Push. -/
import Derived.Test.YtodlhclaboofiaaDoorPk
set_option linter.unusedSimpArgs false
set_option linter.unusedVariables false
namespace Go.Proofs.YtodlhclaboofiaaDoor
open Go.RowKit Go.Sort

set_option maxHeartbeats 1000000 in
theorem p_pop_no (T B : Nat) (s : RS) (w : World) (h : pIs w T B s) (hn : 1 ≤ s.n) (hc : s.c = 0) : Calls Tryd.prog 26 #[.pointer (some ⟨T, 0, none⟩)] w fun e w' => e = .returned (.tuple #[pV 0, .bool false]) ∧ Gr w w' := by
  have g0 := (Gr.refl w).alloc (.cells #[.int .i64 0, .float .f64 0] 38)
  have k0 := hid0 (Bk.new w 38 [.int .i64 0, .float .f64 0])
  have I := hid0 (p_cut_no T B s 0 _ (h.gr g0) hn (.inr (by omega)))
  have G0 := hid0 g0
  have hb : Hid (w.heap.size ≤ w.heap.size) := Nat.le_refl _
  clear h hc g0
  have sf := run_store_f
  go_enter Tryd.func26, Tryd.ntmps26
  go_upto_region 1 with fail
  obtain ⟨b4, hb4⟩ : ∃ b4, b4 = w.heap.size := ⟨_, rfl⟩
  rw [← hb4] at k0 ⊢
  have HB : Hid (w.heap.size ≤ b4) := by rw [hb4]; exact hb.out
  clear hb4 hb
  generalize w.alloc (.cells #[.int .i64 0, .float .f64 0] 38) = W at *
  go_wp2_with fail
  refine I.out.mono ?_
  rintro e W2 ⟨rfl, g1⟩
  have K1 := hid0 (k0.out.gr g1)
  have G1 := hid0 (G0.out.trans g1)
  clear I k0 G0 g1
  obtain ⟨a0, a1, a2, a3⟩ := pz_two K1.out
  have K2 := hid0 ((K1.out.set 0 (.int .i64 0)).set 1 (.float .f64 0))
  simp only [List.set_cons_zero, List.set_cons_succ] at K2
  have G2 : Hid (Gr w _) := (G1.out.setCell (p := ⟨b4, 0, none⟩) HB.out (.int .i64 0)).setCell (p := ⟨b4, 1, none⟩) HB.out (.float .f64 0)
  clear K1 G1
  go_wp2
  obtain ⟨d0, d1, _, _⟩ := pz_two K2.out
  exact bodyPost_ret (v := .tuple #[pV 0, .bool false]) (by simp [results, Tryd.results26, go_sem, d0, d1]) rfl ⟨rfl, G2.out⟩
set_option maxHeartbeats 1000000 in
theorem p_pop_yes (T B : Nat) (s : RS) (L : List Int) (v : Int) (w : World) (h : pIs w T B s) (ok : s.Ok (v :: L)) :
    Calls Tryd.prog 26 #[.pointer (some ⟨T, 0, none⟩)] w fun e w' => e = .returned (.tuple #[pV v, .bool true]) ∧ ∃ s', s'.Ok L ∧ s'.n = s.n ∧ s'.pk = s.pk ∧ s'.rf = s.rf ∧ s'.low = s.low ∧ (s'.high = s.high ∧ s'.pr = prOf s.high s.low s.pr s'.c) ∧ pIs w' T B s' ∧ Chg (tw T B) w w' := by
  have g0 := (Gr.refl w).alloc (.cells #[.int .i64 0, .float .f64 0] 38)
  have k0 := hid0 (Bk.new w 38 [.int .i64 0, .float .f64 0])
  have I := hid0 (p_cut_yes T B s (v :: L) 0 v _ (h.gr g0) ok rfl)
  have G0 : Hid (Chg (tw T B) w (w.alloc (.cells #[.int .i64 0, .float .f64 0] 38))) := Chg.of_gr g0
  have hb : Hid (w.heap.size ≤ w.heap.size ∧ T ≠ w.heap.size ∧ B ≠ w.heap.size) := ⟨Nat.le_refl _, by have := h.lt.1; omega, by have := h.lt.2; omega⟩
  clear h g0 ok
  rw [show ((0 : Nat) : Int) = 0 from rfl, List.eraseIdx_cons_zero] at I
  have sf := run_store_f
  go_enter Tryd.func26, Tryd.ntmps26
  go_upto_region 1 with fail
  obtain ⟨b4, hb4⟩ : ∃ b4, b4 = w.heap.size := ⟨_, rfl⟩
  rw [← hb4] at k0 ⊢
  have HB : Hid (w.heap.size ≤ b4 ∧ T ≠ b4 ∧ B ≠ b4) := by rw [hb4]; exact hb.out
  clear hb4 hb
  generalize w.alloc (.cells #[.int .i64 0, .float .f64 0] 38) = W at *
  go_wp2_with fail
  refine I.out.mono ?_
  rintro e W2 ⟨rfl, s', ok', n', p', r', l', h', K, g1⟩
  have K1 := hid0 (k0.out.chg g1 (by have := HB.out.2; rintro (h | h); exact this.1 h.symm; exact this.2 h.symm))
  have G1 := hid0 (G0.out.trans g1)
  have G6 : Hid (Chg (tw T B) w ((W2.setCell ⟨b4, 0, none⟩ (.int .i64 v)).setCell ⟨b4, 1, none⟩ (.float .f64 0))) := (G1.out.setNew (x := ⟨b4, 0, none⟩) HB.out.1 _).setNew (x := ⟨b4, 1, none⟩) HB.out.1 _
  have K6 : Hid (pIs ((W2.setCell ⟨b4, 0, none⟩ (.int .i64 v)).setCell ⟨b4, 1, none⟩ (.float .f64 0)) T B s') := ⟨(K.blk.other (a := ⟨b4, 0, none⟩) HB.out.2.1 _).other (a := ⟨b4, 1, none⟩) HB.out.2.1 _, (K.pls.other (a := ⟨b4, 0, none⟩) HB.out.2.2 _).other (a := ⟨b4, 1, none⟩) HB.out.2.2 _, K.ne⟩
  have FF := hid0 (And.intro ok' (And.intro n' (And.intro p' (And.intro r' (And.intro l' h')))))
  clear I k0 G0 g1 ok' n' p' r' l' h' K G1
  obtain ⟨a0, a1, a2, a3⟩ := pz_two K1.out
  have K2 := hid0 ((K1.out.set 0 (.int .i64 v)).set 1 (.float .f64 0))
  simp only [List.set_cons_zero, List.set_cons_succ] at K2
  clear K1
  go_wp2
  obtain ⟨d0, d1, _, _⟩ := pz_two K2.out
  obtain ⟨ok', n', p', r', l', h'⟩ := FF.out
  exact bodyPost_ret (v := .tuple #[pV v, .bool true]) (by simp [results, Tryd.results26, go_sem, d0, d1]) rfl ⟨rfl, s', ok', n', p', r', l', h', K6.out, G6.out⟩
theorem p_push_full (T B : Nat) (s : RS) (v : Int) (w : World) (h : pIs w T B s) (hn : 1 ≤ s.n) (hn2 : s.n ≤ 65536) (hc : s.c = s.n) (hr : s.rf < 9000000000000000000) : Calls Tryd.prog 24 #[.pointer (some ⟨T, 0, none⟩), pV v] w fun e w' => e = .returned (.int .i64 5) ∧ pIs w' T B { s with rf := s.rf + 1 } ∧ Chg (fun k => k = T) w w' := by
  have g0 := (Gr.refl w).alloc (.cells #[.int .i64 v, .float .f64 0] 38)
  have G0 : Hid (Chg (fun k => k = T) w (w.alloc (.cells #[.int .i64 v, .float .f64 0] 38))) := Chg.of_gr g0
  replace h := h.gr g0
  clear g0
  have sf := run_store_f
  go_enter Tryd.func24, Tryd.ntmps24
  go_upto_region 1 with fail
  generalize w.heap.size = b3 at *
  generalize w.alloc (.cells #[.int .i64 v, .float .f64 0] 38) = W at *
  have I := hid0 (p_absent T B s W h hn)
  have c0 := h.c0
  have c2 := h.c2
  have c7 := h.c7
  have f7 := h.fz 7
  rw [hc] at c2
  have K1 : Hid (∀ m, pIs ((W.drewN m).setCell ⟨T, 7, none⟩ (.int .i64 ((s.rf : Int) + 1))) T B { s with rf := s.rf + 1 }) := fun m => by
    have := (h.gr ((Gr.refl W).drewN m)).setrf (s.rf + 1)
    rw [show ((s.rf + 1 : Nat) : Int) = (s.rf : Int) + 1 by omega] at this
    exact this
  have G1 : Hid (∀ m, Chg (fun k => k = T) w ((W.drewN m).setCell ⟨T, 7, none⟩ (.int .i64 ((s.rf : Int) + 1)))) := fun m => (G0.out.gr ((Gr.refl W).drewN m)).trans (Chg.set (p := fun k => k = T) (a := ⟨T, 7, none⟩) _ rfl _)
  have b1 : (0 : Int) ≤ (s.rf : Int) := by omega
  have b2 : (s.rf : Int) < 9000000000000000000 := by omega
  have d0 := fun m => below_cell c0 ((Gr.refl W).drewN m).below
  have d2 := fun m => below_cell c2 ((Gr.refl W).drewN m).below
  clear h hc
  generalize (s.rf : Int) = rf at *
  go_wp2_with (go_at_call 58; refine I.out.mono ?_; rintro e w1 ⟨rfl, rfl⟩)
  go_quiet (fail)
  go_wp2
  go_ret
  exact ⟨rfl, K1.out _, G1.out _⟩
set_option maxHeartbeats 2000000 in
theorem p_push_yes (T B : Nat) (s : RS) (L : List Int) (v : Int) (w : World) (h : pIs w T B s) (ok : s.Ok L) (hc : s.c < s.n) :
    Calls Tryd.prog 24 #[.pointer (some ⟨T, 0, none⟩), pV v] w fun e w' => e = .returned (.int .i64 0) ∧ ∃ s', s'.Ok (L ++ [v]) ∧ s'.n = s.n ∧ s'.pk = max s.pk (s.c + 1) ∧ s'.rf = s.rf ∧ s'.low = s.low ∧ (s'.high = s.high ∧ s'.pr = prOf s.high s.low s.pr s'.c) ∧ pIs w' T B s' ∧ Chg (tw T B) w w' := by
  have hn := ok.n1
  have hn2 := ok.n2
  have hf := ok.fn
  have hpk := ok.pk2
  have P1 : Hid (({ s with es := s.es.set (at_ s.n s.f s.c) v, c := s.c + 1, pk := max s.pk (s.c + 1) } : RS).Pre (L ++ [v])) := ok.pre.push v hc
  have g0 := (Gr.refl w).alloc (.cells #[.int .i64 v, .float .f64 0] 38)
  have k3 := hid0 (Bk.new w 38 [.int .i64 v, .float .f64 0])
  have G0 : Hid (Chg (tw T B) w (w.alloc (.cells #[.int .i64 v, .float .f64 0] 38))) := Chg.of_gr g0
  replace h := h.gr g0
  clear g0
  have sf := run_store_f
  go_enter Tryd.func24, Tryd.ntmps24
  go_upto_region 1 with fail
  generalize w.heap.size = b3 at *
  generalize w.alloc (.cells #[.int .i64 v, .float .f64 0] 38) = w0 at *
  have I := hid0 (p_absent T B s w0 h hn)
  have H := hid0 h
  have l1 : at_ s.n s.f s.c < s.n := at_lt hn
  obtain ⟨u, hu⟩ : ∃ u, s.es[at_ s.n s.f s.c]? = some u := ⟨_, List.getElem?_eq_getElem (by rw [ok.len]; exact l1)⟩
  have HU := hid0 hu
  have c0 := fun m => below_cell h.c0 ((Gr.refl w0).drewN m).below
  have c2 := fun m => below_cell h.c2 ((Gr.refl w0).drewN m).below
  have hcn : ((s.c : Int) == (s.n : Int)) = false := by simp; omega
  have BD : Hid (s.c < s.n ∧ s.n ≤ 65536 ∧ s.pk ≤ s.n ∧ s.f < s.n) := ⟨hc, hn2, hpk, hf⟩
  clear h ok hu hc hpk
  go_wp2_with (go_at_call 58; refine I.out.mono ?_; rintro e w1 ⟨rfl, hw⟩; cases hw)
  clear I
  refine wp_region_quiet_lit (by kernel_rfl) (by kernel_rfl) ?_
  repeat (go_big_quiet_step (fail))
  refine wpQuiet_nil ?_
  intro _ hw'
  obtain ⟨m1, rfl⟩ := hw'
  have K := hid0 (H.out.gr ((Gr.refl w0).drewN m1))
  have G : Hid (Chg (tw T B) w (w0.drewN m1)) := G0.out.gr ((Gr.refl w0).drewN m1)
  have k4 := hid0 (k3.out.gr ((Gr.refl w0).drewN m1))
  clear k3 G0
  clear c0 c2 H
  generalize w0.drewN m1 = W at *
  have WH := hid0 (p_where_d T B s s.n s.f s.c (s.c : Int) W K.out rfl rfl rfl hn hn2 hf (by have := BD.out; omega))
  have c0 := fun m => below_cell K.out.c0 ((Gr.refl W).drewN m).below
  have c2 := fun m => below_cell K.out.c2 ((Gr.refl W).drewN m).below
  have X0 : Hid (∀ m, (W.drewN m).cell? ⟨B, at_ s.n s.f s.c * 2, none⟩ = some (.int .i64 u)) := fun m => below_cell (p_el T B _ _ u W K.out HU.out).1 ((Gr.refl W).drewN m).below
  have X1 : Hid (∀ m, (W.drewN m).cell? ⟨B, at_ s.n s.f s.c * 2 + 1, none⟩ = some (.float .f64 0)) := fun m => below_cell (p_el T B _ _ u W K.out HU.out).2 ((Gr.refl W).drewN m).below
  have X2 : Hid (∀ m j, (W.drewN m).frozen? ⟨B, j, none⟩ = false) := fun m j => (K.out.gr ((Gr.refl W).drewN m)).fzB j
  have v0 := fun m => below_cell (pz_two k4.out).1 ((Gr.refl W).drewN m).below
  have v1 := fun m => below_cell (pz_two k4.out).2.1 ((Gr.refl W).drewN m).below
  have K1 : Hid (∀ m, pIs (((W.drewN m).setCell ⟨B, at_ s.n s.f s.c * 2, none⟩ (.int .i64 v)).setCell ⟨B, at_ s.n s.f s.c * 2 + 1, none⟩ (.float .f64 0)) T B { s with es := s.es.set (at_ s.n s.f s.c) v }) := fun m => (K.out.gr ((Gr.refl W).drewN m)).sete2 (fun _ => rfl) _ v
  have G1 : Hid (∀ m, Chg (tw T B) w (((W.drewN m).setCell ⟨B, at_ s.n s.f s.c * 2, none⟩ (.int .i64 v)).setCell ⟨B, at_ s.n s.f s.c * 2 + 1, none⟩ (.float .f64 0))) := fun m => ((G.out.gr ((Gr.refl W).drewN m)).trans (Chg.set (p := tw T B) (a := ⟨B, at_ s.n s.f s.c * 2, none⟩) _ (.inr rfl) _)).trans (Chg.set (p := tw T B) (a := ⟨B, at_ s.n s.f s.c * 2 + 1, none⟩) _ (.inr rfl) _)
  clear K G HU k4
  generalize at_ s.n s.f s.c = x at *
  have l1' : (x : Int) < (s.n : Int) := by omega
  go_wp2_with fail
  obtain ⟨nF, hnF⟩ : ∃ nF : Nat, 5 ≤ nF := ⟨5, by omega⟩
  refine (wpIn_wide (n := nF)).1 ?_
  refine region_head_lit 12 (by kernel_rfl) (by kernel_rfl) (by simp) (by kernel_rfl) ?_
  simp only [List.take_succ_cons, List.take_zero, List.drop_succ_cons, List.drop_zero]
  repeat (gi_big_quiet_step (fail))
  refine BigFrame.wpQuietIn_want (by intro w _ f hf; exact trivial) (by rfl) ?_
  intro K hK
  gi_big_quiet_op
  gi_big_quiet_call (exact ⟨fun _ => by omega, callsIn_wide.2 (WH.out _)⟩)
  repeat (gi_big_quiet_step (fail))
  refine wpQuietIn_nil ?_
  intro _ hw'
  obtain ⟨q, rfl⟩ := hw'
  have y0 := X0.out q
  have y1 := X1.out q
  have y2 := X2.out q (x * 2)
  have y3 := X2.out q (x * 2 + 1)
  have K2 := hid0 (K1.out q)
  have G2 := hid0 (G1.out q)
  clear c0 c2 X0 X1 X2 v0 v1 K1 G1 WH l1' l1
  generalize W.drewN q = wq at *
  gi_wp2
  clear y0 y1 y2 y3
  generalize (World.setCell (World.setCell wq _ _) _ _) = W2 at *
  have c2 := K2.out.c2
  have f2 := K2.out.fz 2
  have hb : (s.c : Int) ≤ 65536 := by have := BD.out; omega
  have K3 := hid0 (K2.out.setc (s.c + 1))
  have G3 : Hid (Chg (tw T B) w (W2.setCell ⟨T, 2, none⟩ (.int .i64 ((s.c + 1 : Nat) : Int)))) := G2.out.trans (Chg.set (p := tw T B) (a := ⟨T, 2, none⟩) _ (.inl rfl) _)
  rw [show ((s.c + 1 : Nat) : Int) = (s.c : Int) + 1 by omega] at K3 G3
  dsimp only at c2 K3
  clear K2 G2
  go_upto_region 8 with fail
  clear c2 f2
  generalize (World.setCell W2 _ _) = W3 at *
  have c2 := K3.out.c2
  have c6 := K3.out.c6
  have f6 := K3.out.fz 6
  dsimp only at c2 c6
  rw [show ((s.c + 1 : Nat) : Int) = (s.c : Int) + 1 by omega] at c2
  have K4 := hid0 ((K3.out.setpk (max s.pk (s.c + 1))).gr (Gr.refl _).drew)
  have G4 : Hid (Chg (tw T B) w ((W3.setCell ⟨T, 6, none⟩ (.int .i64 ((max s.pk (s.c + 1) : Nat) : Int)))).drew) := (G3.out.trans (Chg.set (p := tw T B) (a := ⟨T, 6, none⟩) _ (.inl rfl) _)).gr (Gr.refl _).drew
  have hd0 := fun m => below_cell c2 ((Gr.refl W3).drewN m).below
  have hd6 := fun m => below_cell c6 ((Gr.refl W3).drewN m).below
  dsimp only at K4
  clear K3 G3
  by_cases hm : (s.pk : Int) < (s.c : Int) + 1
  all_goals
    first
      | rw [show ((max s.pk (s.c + 1) : Nat) : Int) = (s.c : Int) + 1 by omega] at K4 G4
      | rw [show ((max s.pk (s.c + 1) : Nat) : Int) = (s.pk : Int) by omega] at K4 G4
    first
      | have hmx : max (s.pk : Int) ((s.c : Int) + 1) = (s.c : Int) + 1 := by omega
      | have hmx : max (s.pk : Int) ((s.c : Int) + 1) = (s.pk : Int) := by omega
    go_region
    try rw [hmx]
    clear hmx
    clear c2 c6 f6 hd0 hd6
    generalize (World.drew (World.setCell W3 _ _)) = W4 at *
    have PRS := hid0 (p_press T B _ W4 K4.out)
    go_wp2_with fail
    refine PRS.out.mono ?_
    rintro e W5 ⟨rfl, K, G5⟩
    have G6 := hid0 (G4.out.trans (G5.wide (q := tw T B) (fun k _ h => .inl h)))
    have K6 := hid0 K
    have P6 := hid0 P1.out.press
    clear PRS K G5 G4 P1
    go_wp2
    go_ret
    exact ⟨rfl, _, P6.out, rfl, rfl, rfl, rfl, ⟨rfl, rfl⟩, K6.out, G6.out⟩
end Go.Proofs.YtodlhclaboofiaaDoor
