/- The ring of pairs: absent, where, press, has, At, shed, Len, Peak. -/
import Derived.Test.YtodlhclaboofiaaDoorQa
import Derived.Deep.LoopGhost
import Derived.Deep.CutBlock
import Derived.Test.YtodlhclaboofiaaDoorHd
import Derived.IntWalk
set_option linter.unusedSimpArgs false
set_option linter.unusedVariables false
namespace Go.Proofs.YtodlhclaboofiaaDoor
open Go.RowKit Go.Sort

abbrev pV (v : Int) : Value := .agg #[.int .i64 v, .float .f64 0]
def penc (v : Int) : List Value := [.int .i64 v, .float .f64 0]
theorem penc_len (v : Int) : (penc v).length = 2 := rfl
/-- The ring in memory. -/
abbrev pIs (w : World) (T B : Nat) (s : RS) : Prop := RingIs penc 66 38 w T B s
theorem p_absent (T B : Nat) (s : RS) (w : World) (h : pIs w T B s) (hn : 1 ≤ s.n) : Calls Tryd.prog 58 #[.pointer (some ⟨T, 0, none⟩)] w fun e w' => e = .returned (.bool false) ∧ w' = w := by
  have c0 := h.c0
  clear h
  generalize s.n = n at *
  have hn' : ((n : Int) == 0) = false := by simp; omega
  go_enter Tryd.func58, Tryd.ntmps58
  go_wp2
  go_ret
  exact ⟨rfl, rfl⟩
theorem p_len (T B : Nat) (s : RS) (w : World) (h : pIs w T B s) (hn : 1 ≤ s.n) : Calls Tryd.prog 46 #[.pointer (some ⟨T, 0, none⟩)] w fun e w' => e = .returned (.int .i64 (s.c : Int)) ∧ w' = w := by
  have I := hid0 (p_absent T B s w h hn)
  have c2 := h.c2
  clear h
  generalize (s.c : Int) = c at *
  go_enter Tryd.func46, Tryd.ntmps46
  go_wp2_with (go_at_call 58; refine I.out.mono ?_; rintro e w1 ⟨rfl, rfl⟩)
  go_ret
  exact ⟨rfl, rfl⟩
theorem p_peak (T B : Nat) (s : RS) (w : World) (h : pIs w T B s) (hn : 1 ≤ s.n) : Calls Tryd.prog 49 #[.pointer (some ⟨T, 0, none⟩)] w fun e w' => e = .returned (.int .i64 (s.pk : Int)) ∧ w' = w := by
  have I := hid0 (p_absent T B s w h hn)
  have c2 := h.c6
  clear h
  generalize (s.pk : Int) = c at *
  go_enter Tryd.func49, Tryd.ntmps49
  go_wp2_with (go_at_call 58; refine I.out.mono ?_; rintro e w1 ⟨rfl, rfl⟩)
  go_ret
  exact ⟨rfl, rfl⟩
theorem p_where (T B : Nat) (s : RS) (i : Nat) (w : World) (h : pIs w T B s) (hn : 1 ≤ s.n) (hn2 : s.n ≤ 65536) (hf : s.f < s.n) (hi : i ≤ s.n) : Calls Tryd.prog 59 #[.pointer (some ⟨T, 0, none⟩), .int .i64 (i : Int)] w fun e w' => e = .returned (.int .i64 (at_ s.n s.f i : Int)) ∧ ∃ m, w' = w.drewN m := by
  have c0 := fun m => below_cell h.c0 ((Gr.refl w).drewN m).below
  have c1 := fun m => below_cell h.c1 ((Gr.refl w).drewN m).below
  clear h
  have e : ((at_ s.n s.f i : Nat) : Int) = ((s.f : Int) + (i : Int)) % (s.n : Int) := by unfold at_; simp
  rw [e]
  clear e
  generalize s.n = n at *
  generalize s.f = f at *
  have hn' : ¬ (n : Int) = 0 := by omega
  have hs : wrap64 ((f : Int) + (i : Int)) = (f : Int) + (i : Int) := by unfold wrap64; omega
  have h0 : (0 : Int) ≤ (f : Int) + (i : Int) := by omega
  have h1 : (f : Int) + (i : Int) ≤ 131072 := by omega
  go_enter Tryd.func59, Tryd.ntmps59
  go_wp2
  go_quiet (fail)
  go_wp2
  go_ret
  exact ⟨rfl, _, rfl⟩
theorem p_where_d (T B : Nat) (s : RS) (n f i : Nat) (x : Int) (w : World) (h : pIs w T B s) (hsn : s.n = n) (hsf : s.f = f) (hx : (i : Int) = x) (hn : 1 ≤ n) (hn2 : n ≤ 65536) (hf : f < n) (hi : i ≤ n) (m : Nat) :
    Calls Tryd.prog 59 #[.pointer (some ⟨T, 0, none⟩), .int .i64 x] (w.drewN m) fun e w' => e = .returned (.int .i64 (at_ n f i : Int)) ∧ ∃ m, w' = w.drewN m := by
  subst hsn hsf hx
  refine (p_where T B s i (w.drewN m) (h.gr ((Gr.refl w).drewN m)) hn hn2 hf hi).mono ?_
  rintro e w' ⟨rfl, q, rfl⟩
  exact ⟨rfl, m + q, by rw [World.drewN_drewN]⟩
theorem p_press (T B : Nat) (s : RS) (w : World) (h : pIs w T B s) : Calls Tryd.prog 60 #[.pointer (some ⟨T, 0, none⟩)] w fun e w' => e = .returned (.tuple #[]) ∧ pIs w' T B s.press ∧ Chg (fun k => k = T) w w' := by
  have c2 := fun m => below_cell h.c2 ((Gr.refl w).drewN m).below
  have c3 := fun m => below_cell h.c3 ((Gr.refl w).drewN m).below
  have c4 := fun m => below_cell h.c4 ((Gr.refl w).drewN m).below
  have c4' := h.c4
  have c5 := fun m => below_cell h.c5 ((Gr.refl w).drewN m).below
  have f5 := fun m => (h.gr ((Gr.refl w).drewN m)).fz 5
  have H := hid0 h
  clear h
  by_cases e1 : s.high = 0
  · have E2 := hid0 (press_0 s e1)
    have e1' : (s.high == 0) = true := by simp [e1]
    clear e1
    generalize s.press = s' at *
    go_enter Tryd.func60, Tryd.ntmps60
    go_wp2
    go_end0
    exact ⟨rfl, by rw [E2.out]; exact H.out, Chg.refl _ _⟩
  · by_cases e2 : s.high ≤ s.c
    · have E2 := hid0 (press_1 s e1 e2)
      have e1' : (s.high == 0) = false := by simpa using e1
      clear e1
      generalize s.press = s' at *
      go_enter Tryd.func60, Tryd.ntmps60
      go_wp2
      go_quiet (fail)
      go_wp2
      go_end0
      exact ⟨rfl, by rw [E2.out]; exact (H.out.gr ((Gr.refl w).drewN _)).setpr true, (Chg.of_gr ((Gr.refl w).drewN _)).trans (Chg.set (p := fun k => k = T) (a := ⟨T, 5, none⟩) _ rfl _)⟩
    · by_cases e3 : (s.c : Int) ≤ s.low
      · have E2 := hid0 (press_2 s e1 e2 e3)
        have e1' : (s.high == 0) = false := by simpa using e1
        clear e1
        generalize s.press = s' at *
        go_enter Tryd.func60, Tryd.ntmps60
        go_wp2
        go_quiet (fail)
        go_wp2
        go_quiet (fail)
        go_wp2
        go_end0
        exact ⟨rfl, by rw [E2.out]; exact (H.out.gr ((Gr.refl w).drewN _)).setpr false, (Chg.of_gr ((Gr.refl w).drewN _)).trans (Chg.set (p := fun k => k = T) (a := ⟨T, 5, none⟩) _ rfl _)⟩
      · have E2 := hid0 (press_3 s e2 e3)
        have e1' : (s.high == 0) = false := by simpa using e1
        clear e1
        generalize s.press = s' at *
        go_enter Tryd.func60, Tryd.ntmps60
        go_wp2
        go_quiet (fail)
        go_wp2
        go_quiet (fail)
        go_wp2
        go_end0
        exact ⟨rfl, by rw [E2.out]; exact H.out.gr (((Gr.refl w).drewN _).drewN _), Chg.of_gr (((Gr.refl w).drewN _).drewN _)⟩
theorem p_has_yes (T B : Nat) (s : RS) (i : Nat) (w : World) (h : pIs w T B s) (hn : 1 ≤ s.n) (hi : i < s.c) : Calls Tryd.prog 62 #[.pointer (some ⟨T, 0, none⟩), .int .i64 (i : Int)] w fun e w' => e = .returned (.bool true) ∧ w' = w := by
  have I := hid0 (p_absent T B s w h hn)
  have c2 := h.c2
  clear h
  have e1 : decide ((0 : Int) ≤ (i : Int)) = true := by simp
  have e2 : decide ((i : Int) < (s.c : Int)) = true := by simpa using hi
  generalize (s.c : Int) = c at *
  go_enter Tryd.func62, Tryd.ntmps62
  go_wp2_with (go_at_call 58; refine I.out.mono ?_; rintro e w1 ⟨rfl, rfl⟩)
  go_ret
  exact ⟨rfl, rfl⟩
theorem p_has_no (T B : Nat) (s : RS) (i : Int) (w : World) (h : pIs w T B s) (hn : 1 ≤ s.n) (hi : i < 0 ∨ (s.c : Int) ≤ i) : Calls Tryd.prog 62 #[.pointer (some ⟨T, 0, none⟩), .int .i64 i] w fun e w' => e = .returned (.bool false) ∧ w' = w := by
  have I := hid0 (p_absent T B s w h hn)
  have c2 := h.c2
  clear h
  generalize (s.c : Int) = c at *
  by_cases e1 : i < 0
  · clear hi
    have e1' : decide ((0 : Int) ≤ i) = false := by simp; omega
    go_enter Tryd.func62, Tryd.ntmps62
    go_wp2_with (go_at_call 58; refine I.out.mono ?_; rintro e w1 ⟨rfl, rfl⟩)
    go_ret
    exact ⟨rfl, rfl⟩
  · have e2' : decide (i < c) = false := by simp; omega
    have e1' : decide ((0 : Int) ≤ i) = true := by simp; omega
    clear hi
    go_enter Tryd.func62, Tryd.ntmps62
    go_wp2_with (go_at_call 58; refine I.out.mono ?_; rintro e w1 ⟨rfl, rfl⟩)
    go_ret
    exact ⟨rfl, rfl⟩
theorem p_el (T B : Nat) (s : RS) (m : Nat) (v : Int) (w : World) (h : pIs w T B s) (hv : s.es[m]? = some v) : w.cell? ⟨B, m * 2, none⟩ = some (.int .i64 v) ∧ w.cell? ⟨B, m * 2 + 1, none⟩ = some (.float .f64 0) := by
  have h0 := h.el penc_len hv (j := 0) (by omega)
  have h1 := h.el penc_len hv (j := 1) (by omega)
  exact ⟨by simpa [penc] using h0, by simpa [penc] using h1⟩
theorem run_store_f (a : Addr) (x : Nat) (m : Mode) (w : World) : (store a (.float .f64 x) m).run Tryd.prog w = stored Tryd.prog w a (.float .f64 x) m := run_store Tryd.prog w a _ m rfl
theorem pz_two {w : World} {b : Nat} {x y : Value} (h : Bk w b 38 [x, y]) : w.cell? ⟨b, 0, none⟩ = some x ∧ w.cell? ⟨b, 1, none⟩ = some y ∧ w.frozen? ⟨b, 0, none⟩ = false ∧ w.frozen? ⟨b, 1, none⟩ = false := ⟨h.at 0, h.at 1, h.frozen 0, h.frozen 1⟩
set_option maxHeartbeats 1000000 in
theorem p_at_no (T B : Nat) (s : RS) (i : Int) (w : World) (h : pIs w T B s) (hn : 1 ≤ s.n) (hi : i < 0 ∨ (s.c : Int) ≤ i) : Calls Tryd.prog 29 #[.pointer (some ⟨T, 0, none⟩), .int .i64 i] w fun e w' => e = .returned (.tuple #[pV 0, .bool false]) ∧ Gr w w' := by
  have g0 := (Gr.refl w).alloc (.cells #[.int .i64 0, .float .f64 0] 38)
  have g1 := g0.alloc (.cells #[.int .i64 0, .float .f64 0] 38)
  have k0 := (Bk.new w 38 [.int .i64 0, .float .f64 0]).alloc (.cells #[.int .i64 0, .float .f64 0] 38)
  have k1 := Bk.new (w.alloc (.cells #[.int .i64 0, .float .f64 0] 38)) 38 [.int .i64 0, .float .f64 0]
  rw [World.size_alloc] at k1
  have I := hid0 (p_has_no T B s i _ (h.gr g0) hn hi)
  clear h hi
  obtain ⟨a0, a1, a2, a3⟩ := pz_two k0
  obtain ⟨b0, b1, b2, b3⟩ := pz_two k1
  have K := hid0 k0
  have G := hid0 g1
  clear k0 k1 g0 g1
  have sf := run_store_f
  go_enter Tryd.func29, Tryd.ntmps29
  go_wp2_with (go_at_call 62; refine I.out.mono ?_; rintro e w1 ⟨rfl, hw⟩; cases hw)
  obtain ⟨c0, c1, _, _⟩ := pz_two K.out
  exact bodyPost_ret (v := .tuple #[pV 0, .bool false]) (by simp [results, Tryd.results29, go_sem, c0, c1]) rfl ⟨rfl, G.out⟩
set_option maxHeartbeats 1000000 in
theorem p_at_yes (T B : Nat) (s : RS) (i : Nat) (v : Int) (w : World) (h : pIs w T B s) (hn : 1 ≤ s.n) (hn2 : s.n ≤ 65536) (hf : s.f < s.n) (hcn : s.c ≤ s.n) (hi : i < s.c) (hv : s.es[at_ s.n s.f i]? = some v) :
    Calls Tryd.prog 29 #[.pointer (some ⟨T, 0, none⟩), .int .i64 (i : Int)] w fun e w' => e = .returned (.tuple #[pV v, .bool true]) ∧ Gr w w' := by
  have g0 := (Gr.refl w).alloc (.cells #[.int .i64 0, .float .f64 0] 38)
  have k0 := hid0 (Bk.new w 38 [.int .i64 0, .float .f64 0])
  have h' := h.gr g0
  have I := hid0 (p_has_yes T B s i _ h' hn hi)
  have WH := hid0 (p_where_d T B s s.n s.f i (i : Int) _ h' rfl rfl rfl hn hn2 hf (by omega))
  have hw0 : Hid (w.heap.size ≤ w.heap.size) := Nat.le_refl _
  have G0 := hid0 g0
  clear g0 h
  have sf := run_store_f
  go_enter Tryd.func29, Tryd.ntmps29
  go_wp2_with (go_at_call 62; refine I.out.mono ?_; rintro e w1 ⟨rfl, hw⟩; cases hw)
  clear I
  obtain ⟨b4, hb4⟩ : ∃ b4, b4 = w.heap.size := ⟨_, rfl⟩
  rw [← hb4] at k0 ⊢
  have HB : Hid (w.heap.size ≤ b4) := by rw [hb4]; exact hw0.out
  clear hb4 hw0
  generalize w.alloc (.cells #[.int .i64 0, .float .f64 0] 38) = W at *
  have c0 := fun m => below_cell h'.c0 ((Gr.refl W).drewN m).below
  have ce0 := fun m => below_cell (p_el T B s _ v W h' hv).1 ((Gr.refl W).drewN m).below
  have ce1 := fun m => below_cell (p_el T B s _ v W h' hv).2 ((Gr.refl W).drewN m).below
  have hlt : at_ s.n s.f i < s.n := at_lt hn
  clear h' hv
  generalize at_ s.n s.f i = x at *
  have hlt' : (x : Int) < (s.n : Int) := by omega
  generalize s.n = n at *
  obtain ⟨nF, hnF⟩ : ∃ nF : Nat, 5 ≤ nF := ⟨5, by omega⟩
  refine (wpIn_wide (n := nF)).1 ?_
  refine region_head_lit 9 (by kernel_rfl) (by kernel_rfl) (by simp) (by kernel_rfl) ?_
  simp only [List.take_succ_cons, List.take_zero, List.drop_succ_cons, List.drop_zero]
  repeat (gi_big_quiet_step (fail))
  refine BigFrame.wpQuietIn_want (by intro w _ f hf; exact trivial) (by rfl) ?_
  intro K hK
  gi_big_quiet_op
  gi_big_quiet_call (exact ⟨fun _ => by omega, callsIn_wide.2 (WH.out _)⟩)
  repeat (gi_big_quiet_step (fail))
  refine wpQuietIn_nil ?_
  intro _ hw'
  obtain ⟨q, rfl⟩ := hw'
  have K1 := hid0 (k0.out.gr ((Gr.refl W).drewN q))
  have G1 := hid0 (G0.out.drewN q)
  clear c0 ce0 ce1 WH k0 G0
  generalize W.drewN q = W1 at *
  obtain ⟨a0, a1, a2, a3⟩ := pz_two K1.out
  have K2 := hid0 ((K1.out.set 0 (.int .i64 v)).set 1 (.float .f64 0))
  simp only [List.set_cons_zero, List.set_cons_succ] at K2
  have G2 : Hid (Gr w _) := (G1.out.setCell (p := ⟨b4, 0, none⟩) HB.out (.int .i64 v)).setCell (p := ⟨b4, 1, none⟩) HB.out (.float .f64 0)
  clear K1 G1
  gi_wp2
  go_wp2
  obtain ⟨c0, c1, _, _⟩ := pz_two K2.out
  exact bodyPost_ret (v := .tuple #[pV v, .bool true]) (by simp [results, Tryd.results29, go_sem, c0, c1]) rfl ⟨rfl, G2.out⟩
set_option maxHeartbeats 1000000 in
theorem p_shed (T B : Nat) (s : RS) (w : World) (h : pIs w T B s) (hn : 1 ≤ s.n) (hn2 : s.n ≤ 65536) (hf : s.f < s.n) (hl : s.es.length = s.n) (hc : 1 ≤ s.c) (hc2 : s.c ≤ s.n) :
    Calls Tryd.prog 64 #[.pointer (some ⟨T, 0, none⟩)] w fun e w' => e = .returned (.tuple #[]) ∧ pIs w' T B s.shed ∧ Chg (tw T B) w w' := by
  have g0 := (Gr.refl w).alloc (.cells #[.int .i64 0, .float .f64 0] 38)
  have k0 := Bk.new w 38 [.int .i64 0, .float .f64 0]
  have G0 : Hid (Chg (tw T B) w (w.alloc (.cells #[.int .i64 0, .float .f64 0] 38))) := Chg.of_gr g0
  replace h := h.gr g0
  clear g0
  have sf := run_store_f
  go_enter Tryd.func64, Tryd.ntmps64
  go_upto_region 1 with fail
  generalize w.heap.size = b4 at *
  generalize w.alloc (.cells #[.int .i64 0, .float .f64 0] 38) = W at *
  have c0 := h.c0
  have c1 := h.c1
  obtain ⟨v, hv⟩ : ∃ v, s.es[s.f]? = some v := ⟨_, List.getElem?_eq_getElem (by omega)⟩
  obtain ⟨ce0, ce1⟩ := p_el T B s _ v W h hv
  have fB0 := h.fzB (s.f * 2)
  have fB1 := h.fzB (s.f * 2 + 1)
  obtain ⟨a0, a1, _, _⟩ := pz_two k0
  have hf' : (s.f : Int) < (s.n : Int) := by omega
  have kS := h.pls.set (s.f * 2) (.int .i64 0)
  have ce1' : (W.setCell ⟨B, s.f * 2, none⟩ (.int .i64 0)).cell? ⟨B, s.f * 2 + 1, none⟩ = some (.float .f64 0) := by rw [kS.at, List.getElem?_set_ne (by omega), ← h.pls.at]; exact ce1
  have fB1' : (W.setCell ⟨B, s.f * 2, none⟩ (.int .i64 0)).frozen? ⟨B, s.f * 2 + 1, none⟩ = false := kS.frozen _
  clear kS
  have K1 : Hid (pIs ((W.setCell ⟨B, s.f * 2, none⟩ (.int .i64 0)).setCell ⟨B, s.f * 2 + 1, none⟩ (.float .f64 0)).drew T B { s with es := s.es.set s.f 0 }) := (h.sete2 (fun _ => rfl) s.f 0).gr ((Gr.refl _).drew)
  have G1 : Hid (Chg (tw T B) w ((W.setCell ⟨B, s.f * 2, none⟩ (.int .i64 0)).setCell ⟨B, s.f * 2 + 1, none⟩ (.float .f64 0)).drew) := ((G0.out.trans (Chg.set (p := tw T B) (a := ⟨B, s.f * 2, none⟩) _ (.inr rfl) _)).trans (Chg.set (p := tw T B) (a := ⟨B, s.f * 2 + 1, none⟩) _ (.inr rfl) _)).gr ((Gr.refl _).drew)
  clear h hv k0 G0
  go_region
  generalize (World.drew (World.setCell (World.setCell W _ _) _ _)) = W1 at *
  clear c0 c1 ce0 ce1 fB0 fB1 a0 a1 ce1' fB1'
  have WH := hid0 (p_where T B _ 1 W1 K1.out hn hn2 hf hn)
  dsimp only at WH
  rw [show ((1 : Nat) : Int) = 1 from rfl] at WH
  go_wp2_with fail
  refine WH.out.mono ?_
  rintro e W2 ⟨rfl, m, hW2⟩
  have K2 := hid0 (K1.out.gr ((Gr.refl W1).drewN m))
  have G2 := hid0 (G1.out.gr ((Gr.refl W1).drewN m))
  rw [← hW2] at K2 G2
  clear WH K1 G1 hW2
  have c1 := K2.out.c1
  have f1 := K2.out.fz 1
  have K3 := hid0 (K2.out.setf (at_ s.n s.f 1))
  have G3 : Hid (Chg (tw T B) w (W2.setCell ⟨T, 1, none⟩ (.int .i64 (at_ s.n s.f 1 : Int)))) := G2.out.trans (Chg.set (p := tw T B) (a := ⟨T, 1, none⟩) _ (.inl rfl) _)
  dsimp only at c1 K3
  go_upto_region 3 with fail
  clear K2 G2 c1 f1
  generalize (World.setCell W2 _ _) = W3 at *
  have c2 := K3.out.c2
  have f2 := K3.out.fz 2
  have K4 := hid0 (K3.out.setc (s.c - 1))
  have G4 : Hid (Chg (tw T B) w (W3.setCell ⟨T, 2, none⟩ (.int .i64 ((s.c - 1 : Nat) : Int)))) := G3.out.trans (Chg.set (p := tw T B) (a := ⟨T, 2, none⟩) _ (.inl rfl) _)
  have e1 : ((s.c - 1 : Nat) : Int) = (s.c : Int) - 1 := by omega
  have hb : (s.c : Int) ≤ 65536 := by omega
  have hb2 : (1 : Int) ≤ (s.c : Int) := by omega
  rw [e1] at G4
  dsimp only at c2 K4
  rw [e1] at K4
  clear e1 K3 G3
  go_wp2
  go_end0
  exact ⟨rfl, K4.out, G4.out⟩
end Go.Proofs.YtodlhclaboofiaaDoor
