/- The ring of texts: Push. -/
import Derived.Test.YtodlhclaboofiaaDoorSk
set_option linter.unusedSimpArgs false
set_option linter.unusedVariables false
namespace Go.Proofs.YtodlhclaboofiaaDoor
open Go.RowKit Go.Sort

set_option maxHeartbeats 2000000 in
theorem s_push_yes (T B : Nat) (s : RS) (L : List Int) (v : Int) (w : World) (h : sIs w T B s) (ok : s.Ok L) (hc : s.c < s.n) :
    Calls Tryd.prog 22 #[.pointer (some ⟨T, 0, none⟩), sV v] w fun e w' => e = .returned (.int .i64 0) ∧ ∃ s', s'.Ok (L ++ [v]) ∧ s'.n = s.n ∧ s'.pk = max s.pk (s.c + 1) ∧ s'.rf = s.rf ∧ s'.low = s.low ∧ (s'.high = s.high ∧ s'.pr = prOf s.high s.low s.pr s'.c) ∧ sIs w' T B s' ∧ Chg (tw T B) w w' := by
  have hn := ok.n1
  have hn2 := ok.n2
  have hf := ok.fn
  have hpk := ok.pk2
  have P1 : Hid (({ s with es := s.es.set (at_ s.n s.f s.c) v, c := s.c + 1, pk := max s.pk (s.c + 1) } : RS).Pre (L ++ [v])) := ok.pre.push v hc
  have I := hid0 (s_absent T B s w h hn)
  have H := hid0 h
  have l1 : at_ s.n s.f s.c < s.n := at_lt hn
  obtain ⟨u, hu⟩ : ∃ u, s.es[at_ s.n s.f s.c]? = some u := ⟨_, List.getElem?_eq_getElem (by rw [ok.len]; exact l1)⟩
  have HU := hid0 hu
  have c0 := fun m => below_cell h.c0 ((Gr.refl w).drewN m).below
  have c2 := fun m => below_cell h.c2 ((Gr.refl w).drewN m).below
  have hcn : ((s.c : Int) == (s.n : Int)) = false := by simp; omega
  have BD : Hid (s.c < s.n ∧ s.n ≤ 65536 ∧ s.pk ≤ s.n ∧ s.f < s.n) := ⟨hc, hn2, hpk, hf⟩
  clear h ok hu hc hpk
  go_enter Tryd.func22, Tryd.ntmps22
  go_wp2_with (go_at_call 17; refine I.out.mono ?_; rintro e w1 ⟨rfl, hw⟩; cases hw)
  clear I
  refine wp_region_quiet_lit (by kernel_rfl) (by kernel_rfl) ?_
  repeat (go_big_quiet_step (fail))
  refine wpQuiet_nil ?_
  intro _ hw'
  obtain ⟨m1, rfl⟩ := hw'
  have K := hid0 (H.out.gr ((Gr.refl w).drewN m1))
  have G : Hid (Chg (tw T B) w (w.drewN m1)) := Chg.of_gr ((Gr.refl w).drewN m1)
  clear c0 c2 H
  generalize w.drewN m1 = W at *
  have WH := hid0 (s_where_d T B s s.n s.f s.c (s.c : Int) W K.out rfl rfl rfl hn hn2 hf (by have := BD.out; omega))
  have c0 := fun m => below_cell K.out.c0 ((Gr.refl W).drewN m).below
  have c2 := fun m => below_cell K.out.c2 ((Gr.refl W).drewN m).below
  have ce := fun m => below_cell (s_el T B _ _ u W K.out HU.out) ((Gr.refl W).drewN m).below
  have fB := fun m => (K.out.gr ((Gr.refl W).drewN m)).fzB (at_ s.n s.f s.c)
  have K1 : Hid (∀ m, sIs ((W.drewN m).setCell ⟨B, at_ s.n s.f s.c, none⟩ (sV v)) T B { s with es := s.es.set (at_ s.n s.f s.c) v }) := fun m => (K.out.gr ((Gr.refl W).drewN m)).sete1 (fun _ => rfl) _ v
  have G1 : Hid (∀ m, Chg (tw T B) w ((W.drewN m).setCell ⟨B, at_ s.n s.f s.c, none⟩ (sV v))) := fun m => (G.out.gr ((Gr.refl W).drewN m)).trans (Chg.set (p := tw T B) (a := ⟨B, at_ s.n s.f s.c, none⟩) _ (.inr rfl) _)
  clear K G HU
  generalize at_ s.n s.f s.c = x at *
  have l1' : (x : Int) < (s.n : Int) := by omega
  go_wp2_with fail
  obtain ⟨nF, hnF⟩ : ∃ nF : Nat, 5 ≤ nF := ⟨5, by omega⟩
  refine (wpIn_wide (n := nF)).1 ?_
  refine region_head_lit 12 (by kernel_rfl) (by kernel_rfl) (by simp) (by kernel_rfl) ?_
  simp only [List.take_succ_cons, List.take_zero, List.drop_succ_cons, List.drop_zero]
  repeat (gi_big_quiet_step (fail))
  refine BigFrame.wpQuietIn_want (by intro w _ f hf; exact trivial) (by rfl) ?_
  intro K hK
  gi_big_quiet_op
  gi_big_quiet_call (exact ⟨fun _ => by omega, callsIn_wide.2 (WH.out _)⟩)
  repeat (gi_big_quiet_step (fail))
  refine wpQuietIn_nil ?_
  intro _ hw'
  obtain ⟨q, rfl⟩ := hw'
  gi_wp2
  have K2 := hid0 (K1.out q)
  have G2 := hid0 (G1.out q)
  clear c0 c2 ce fB K1 G1 WH l1' l1
  generalize (World.setCell (World.drewN W q) _ _) = W2 at *
  have c2 := K2.out.c2
  have f2 := K2.out.fz 2
  have hb : (s.c : Int) ≤ 65536 := by have := BD.out; omega
  have K3 := hid0 (K2.out.setc (s.c + 1))
  have G3 : Hid (Chg (tw T B) w (W2.setCell ⟨T, 2, none⟩ (.int .i64 ((s.c + 1 : Nat) : Int)))) := G2.out.trans (Chg.set (p := tw T B) (a := ⟨T, 2, none⟩) _ (.inl rfl) _)
  rw [show ((s.c + 1 : Nat) : Int) = (s.c : Int) + 1 by omega] at K3 G3
  dsimp only at c2 K3
  clear K2 G2
  go_upto_region 8 with fail
  clear c2 f2
  generalize (World.setCell W2 _ _) = W3 at *
  have c2 := K3.out.c2
  have c6 := K3.out.c6
  have f6 := K3.out.fz 6
  dsimp only at c2 c6
  rw [show ((s.c + 1 : Nat) : Int) = (s.c : Int) + 1 by omega] at c2
  have K4 := hid0 ((K3.out.setpk (max s.pk (s.c + 1))).gr (Gr.refl _).drew)
  have G4 : Hid (Chg (tw T B) w ((W3.setCell ⟨T, 6, none⟩ (.int .i64 ((max s.pk (s.c + 1) : Nat) : Int)))).drew) := (G3.out.trans (Chg.set (p := tw T B) (a := ⟨T, 6, none⟩) _ (.inl rfl) _)).gr (Gr.refl _).drew
  have hd0 := fun m => below_cell c2 ((Gr.refl W3).drewN m).below
  have hd6 := fun m => below_cell c6 ((Gr.refl W3).drewN m).below
  dsimp only at K4
  clear K3 G3
  by_cases hm : (s.pk : Int) < (s.c : Int) + 1
  all_goals
    first
      | rw [show ((max s.pk (s.c + 1) : Nat) : Int) = (s.c : Int) + 1 by omega] at K4 G4
      | rw [show ((max s.pk (s.c + 1) : Nat) : Int) = (s.pk : Int) by omega] at K4 G4
    first
      | have hmx : max (s.pk : Int) ((s.c : Int) + 1) = (s.c : Int) + 1 := by omega
      | have hmx : max (s.pk : Int) ((s.c : Int) + 1) = (s.pk : Int) := by omega
    go_region
    try rw [hmx]
    clear hmx
    clear c2 c6 f6 hd0 hd6
    generalize (World.drew (World.setCell W3 _ _)) = W4 at *
    have PRS := hid0 (s_press T B _ W4 K4.out)
    go_wp2_with fail
    refine PRS.out.mono ?_
    rintro e W5 ⟨rfl, K, G5⟩
    have G6 := hid0 (G4.out.trans (G5.wide (q := tw T B) (fun k _ h => .inl h)))
    have K6 := hid0 K
    have P6 := hid0 P1.out.press
    clear PRS K G5 G4 P1
    go_wp2
    go_ret
    exact ⟨rfl, _, P6.out, rfl, rfl, rfl, rfl, ⟨rfl, rfl⟩, K6.out, G6.out⟩
end Go.Proofs.YtodlhclaboofiaaDoor
