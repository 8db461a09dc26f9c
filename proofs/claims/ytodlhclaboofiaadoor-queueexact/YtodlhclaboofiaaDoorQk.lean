/- The ring of numbers: Cut, Pop, Push. -/
import Derived.Test.YtodlhclaboofiaaDoorQj
set_option linter.unusedSimpArgs false
set_option linter.unusedVariables false
namespace Go.Proofs.YtodlhclaboofiaaDoor
open Go.RowKit Go.Sort

theorem i_cut_no (T B : Nat) (s : RS) (i : Int) (w : World) (h : iIs w T B s) (hn : 1 ≤ s.n) (hi : i < 0 ∨ (s.c : Int) ≤ i) : Calls Tryd.prog 53 #[.pointer (some ⟨T, 0, none⟩), .int .i64 i] w fun e w' => e = .returned (.tuple #[iV 0, .bool false]) ∧ w' = w := by
  have I := hid0 (i_at_no T B s i w h hn hi)
  clear h hi
  go_enter Tryd.func53, Tryd.ntmps53
  go_wp2_with (go_at_call 66; refine I.out.mono ?_; rintro e w1 ⟨rfl, rfl⟩)
  go_ret2
  exact ⟨rfl, rfl⟩
set_option maxHeartbeats 2000000 in
theorem i_cut_yes (T B : Nat) (s : RS) (L : List Int) (i : Nat) (v : Int) (w : World) (h : iIs w T B s) (ok : s.Ok L) (hv : L[i]? = some v) :
    Calls Tryd.prog 53 #[.pointer (some ⟨T, 0, none⟩), .int .i64 (i : Int)] w fun e w' => e = .returned (.tuple #[iV v, .bool true]) ∧ ∃ s', s'.Ok (L.eraseIdx i) ∧ s'.n = s.n ∧ s'.pk = s.pk ∧ s'.rf = s.rf ∧ s'.low = s.low ∧ (s'.high = s.high ∧ s'.pr = prOf s.high s.low s.pr s'.c) ∧ iIs w' T B s' ∧ Chg (tw T B) w w' := by
  have hi : i < s.c := by rw [← ok.cL]; exact (List.getElem?_eq_some_iff.1 hv).1
  have hes := ok.has i v hv
  have hn := ok.n1
  have hn2 := ok.n2
  have hf := ok.fn
  have hcn := ok.cn
  have PR := hid0 ok.pre
  have AY := hid0 (i_at_yes T B s i v w h hn hn2 hf hcn hi hes)
  have H := hid0 h
  clear h hv hes
  go_enter Tryd.func53, Tryd.ntmps53
  go_wp2_with fail
  refine AY.out.mono ?_
  rintro e w1 ⟨rfl, m, hm⟩
  have K1 : Hid (iIs w1 T B s) := by rw [hm]; exact H.out.gr ((Gr.refl w).drewN m)
  have G1 : Hid (Chg (tw T B) w w1) := by rw [hm]; exact Chg.of_gr ((Gr.refl w).drewN m)
  clear AY H hm
  go_wp2_with fail
  go_loopg [19] i (fun gk j wr => ∃ (t : Nat) (es : List Int), j = .int .i64 (t : Int) ∧ t ≤ i ∧ gk = i - t ∧ Hid (iIs wr T B { s with es := es }) ∧ Hid (Moved s i t es) ∧ Hid (Chg (tw T B) w wr))
  case atStart => exact ⟨0, s.es, rfl, Nat.zero_le _, rfl, K1, hid0 (Moved.zero PR.out i), G1⟩
  case round =>
    obtain ⟨t, es, rfl, ht, rfl, K, MV, G⟩ := hrel
    clear K1 G1
    by_cases ct : t < i
    · have ct' : (t : Int) < (i : Int) := by omega
      obtain ⟨u, hu⟩ := MV.out.some PR.out (i - t - 1)
      obtain ⟨u0, hu0⟩ := MV.out.some PR.out (i - t)
      have MV2 := hid0 (MV.out.step PR.out hi ct hu)
      have W1 := hid0 (i_where_d T B _ s.n s.f (i - t) ((i : Int) - (t : Int)) wr K.out rfl rfl (by omega) hn hn2 hf (by omega))
      have W2 := hid0 (i_where_d T B _ s.n s.f (i - t - 1) ((i : Int) - (t : Int) - 1) wr K.out rfl rfl (by omega) hn hn2 hf (by omega))
      have c0 := fun m => below_cell K.out.c0 ((Gr.refl wr).drewN m).below
      have ce := fun m => below_cell (i_el T B _ _ u wr K.out hu) ((Gr.refl wr).drewN m).below
      have ce0 := fun m => below_cell (i_el T B _ _ u0 wr K.out hu0) ((Gr.refl wr).drewN m).below
      have fB := fun m => (K.out.gr ((Gr.refl wr).drewN m)).fzB (at_ s.n s.f (i - t))
      have K2 : Hid (∀ m, iIs ((wr.drewN m).setCell ⟨B, at_ s.n s.f (i - t), none⟩ (iV u)) T B { s with es := es.set (at_ s.n s.f (i - t)) u }) := fun m => (K.out.gr ((Gr.refl wr).drewN m)).sete1 (fun _ => rfl) _ u
      have G2 : Hid (∀ m, Chg (tw T B) w ((wr.drewN m).setCell ⟨B, at_ s.n s.f (i - t), none⟩ (iV u))) := fun m => (G.out.gr ((Gr.refl wr).drewN m)).trans (Chg.set (p := tw T B) (a := ⟨B, at_ s.n s.f (i - t), none⟩) _ (.inr rfl) _)
      have l1 : at_ s.n s.f (i - t) < s.n := at_lt hn
      have l2 : at_ s.n s.f (i - t - 1) < s.n := at_lt hn
      have hi64 : (i : Int) ≤ 65536 := by omega
      clear K MV G hu hu0
      generalize at_ s.n s.f (i - t) = x at *
      generalize at_ s.n s.f (i - t - 1) = y at *
      have l1' : (x : Int) < (s.n : Int) := by omega
      have l2' : (y : Int) < (s.n : Int) := by omega
      dsimp only at c0
      go_wp2_with fail
      obtain ⟨nF, hnF⟩ : ∃ nF : Nat, 5 ≤ nF := ⟨5, by omega⟩
      refine (wpIn_wide (n := nF)).1 ?_
      refine region_head_lit 22 (by kernel_rfl) (by kernel_rfl) (by simp) (by kernel_rfl) ?_
      simp only [List.take_succ_cons, List.take_zero, List.drop_succ_cons, List.drop_zero]
      repeat (gi_big_quiet_step (fail))
      refine BigFrame.wpQuietIn_want (by intro w _ f hf; exact trivial) (by rfl) ?_
      intro K hK
      gi_big_quiet_op
      gi_big_quiet_call (exact ⟨fun _ => by omega, callsIn_wide.2 (W1.out _)⟩)
      repeat (gi_big_quiet_step (fail))
      refine BigFrame.wpQuietIn_want (by intro w _ f hf; exact trivial) (by rfl) ?_
      intro K hK
      gi_big_quiet_op
      gi_big_quiet_call (exact ⟨fun _ => by omega, callsIn_wide.2 (W2.out _)⟩)
      repeat (gi_big_quiet_step (fail))
      refine wpQuietIn_nil ?_
      intro _ hw'
      obtain ⟨q, rfl⟩ := hw'
      gi_wp2
      go_wp2
      go_roundg (i - (t + 1))
      case measure => omega
      case rel => exact ⟨t + 1, _, by simp, by omega, rfl, K2.out q, MV2, G2.out q⟩
    · have ct' : ¬ (t : Int) < (i : Int) := by omega
      obtain rfl : t = i := by omega
      obtain ⟨x, PE⟩ := MV.out.pre PR.out hi
      have SH := hid0 (i_shed T B _ wr K.out hn hn2 hf MV.out.len (by show 1 ≤ s.c; omega) hcn)
      have P2 := hid0 PE.shed
      clear K MV PE
      go_wp2_with fail
      refine SH.out.mono ?_
      rintro e w2 ⟨rfl, K, G2⟩
      have PRS := hid0 (i_press T B _ w2 K)
      have G3 := hid0 (G.out.trans G2)
      clear SH K G G2
      go_wp2_with fail
      refine PRS.out.mono ?_
      rintro e w3 ⟨rfl, K, G4⟩
      have G5 := hid0 (G3.out.trans (G4.wide (q := tw T B) (fun k _ h => .inl h)))
      have K5 := hid0 K
      have P5 := hid0 P2.out.press
      clear PRS K G4 G3 P2
      go_wp2
      go_ret2
      exact ⟨rfl, _, P5.out, rfl, rfl, rfl, rfl, ⟨rfl, rfl⟩, K5.out, G5.out⟩
theorem i_pop_no (T B : Nat) (s : RS) (w : World) (h : iIs w T B s) (hn : 1 ≤ s.n) (hc : s.c = 0) : Calls Tryd.prog 15 #[.pointer (some ⟨T, 0, none⟩)] w fun e w' => e = .returned (.tuple #[iV 0, .bool false]) ∧ w' = w := by
  have I := hid0 (i_cut_no T B s 0 w h hn (.inr (by omega)))
  clear h hc
  go_enter Tryd.func15, Tryd.ntmps15
  go_wp2_with (go_at_call 53; refine I.out.mono ?_; rintro e w1 ⟨rfl, rfl⟩)
  go_ret2
  exact ⟨rfl, rfl⟩
theorem i_pop_yes (T B : Nat) (s : RS) (L : List Int) (v : Int) (w : World) (h : iIs w T B s) (ok : s.Ok (v :: L)) :
    Calls Tryd.prog 15 #[.pointer (some ⟨T, 0, none⟩)] w fun e w' => e = .returned (.tuple #[iV v, .bool true]) ∧ ∃ s', s'.Ok L ∧ s'.n = s.n ∧ s'.pk = s.pk ∧ s'.rf = s.rf ∧ s'.low = s.low ∧ (s'.high = s.high ∧ s'.pr = prOf s.high s.low s.pr s'.c) ∧ iIs w' T B s' ∧ Chg (tw T B) w w' := by
  have I := hid0 (i_cut_yes T B s (v :: L) 0 v w h ok rfl)
  clear h ok
  rw [show ((0 : Nat) : Int) = 0 from rfl, List.eraseIdx_cons_zero] at I
  go_enter Tryd.func15, Tryd.ntmps15
  go_wp2_with fail
  refine I.out.mono ?_
  rintro e w1 ⟨rfl, K⟩
  have K2 := hid0 K
  clear I K
  go_wp2
  go_ret2
  exact ⟨rfl, K2.out⟩
theorem i_push_full (T B : Nat) (s : RS) (v : Int) (w : World) (h : iIs w T B s) (hn : 1 ≤ s.n) (hn2 : s.n ≤ 65536) (hc : s.c = s.n) (hr : s.rf < 9000000000000000000) : Calls Tryd.prog 14 #[.pointer (some ⟨T, 0, none⟩), iV v] w fun e w' => e = .returned (.int .i64 5) ∧ iIs w' T B { s with rf := s.rf + 1 } ∧ Chg (fun k => k = T) w w' := by
  have I := hid0 (i_absent T B s w h hn)
  have c0 := h.c0
  have c2 := h.c2
  have c7 := h.c7
  have f7 := h.fz 7
  rw [hc] at c2
  have K1 : Hid (∀ m, iIs ((w.drewN m).setCell ⟨T, 7, none⟩ (.int .i64 ((s.rf : Int) + 1))) T B { s with rf := s.rf + 1 }) := fun m => by
    have := (h.gr ((Gr.refl w).drewN m)).setrf (s.rf + 1)
    rw [show ((s.rf + 1 : Nat) : Int) = (s.rf : Int) + 1 by omega] at this
    exact this
  have G1 : Hid (∀ m, Chg (fun k => k = T) w ((w.drewN m).setCell ⟨T, 7, none⟩ (.int .i64 ((s.rf : Int) + 1)))) := fun m => (Chg.of_gr ((Gr.refl w).drewN m)).trans (Chg.set (p := fun k => k = T) (a := ⟨T, 7, none⟩) _ rfl _)
  have b1 : (0 : Int) ≤ (s.rf : Int) := by omega
  have b2 : (s.rf : Int) < 9000000000000000000 := by omega
  have d0 := fun m => below_cell c0 ((Gr.refl w).drewN m).below
  have d2 := fun m => below_cell c2 ((Gr.refl w).drewN m).below
  clear h hc
  generalize (s.rf : Int) = rf at *
  go_enter Tryd.func14, Tryd.ntmps14
  go_wp2_with (go_at_call 50; refine I.out.mono ?_; rintro e w1 ⟨rfl, rfl⟩)
  go_quiet (fail)
  go_wp2
  go_ret
  exact ⟨rfl, K1.out _, G1.out _⟩
end Go.Proofs.YtodlhclaboofiaaDoor
