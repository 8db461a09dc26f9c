/- The ring of numbers: absent, where, press, has, At, shed, Len, Peak. -/
import Derived.Test.YtodlhclaboofiaaDoorQa
import Derived.Deep.LoopGhost
import Derived.Deep.CutBlock
set_option linter.unusedSimpArgs false
set_option linter.unusedVariables false
namespace Go.Proofs.YtodlhclaboofiaaDoor
open Go.RowKit Go.Sort

abbrev iV (v : Int) : Value := .int .i64 v
theorem iV_zero : iV 0 = .int .i64 0 := rfl
def ienc (v : Int) : List Value := [iV v]
theorem ienc_len (v : Int) : (ienc v).length = 1 := rfl
/-- The ring in memory. -/
abbrev iIs (w : World) (T B : Nat) (s : RS) : Prop := RingIs ienc 83 3 w T B s
theorem i_absent (T B : Nat) (s : RS) (w : World) (h : iIs w T B s) (hn : 1 ≤ s.n) : Calls Tryd.prog 50 #[.pointer (some ⟨T, 0, none⟩)] w fun e w' => e = .returned (.bool false) ∧ w' = w := by
  have c0 := h.c0
  clear h
  generalize s.n = n at *
  have hn' : ((n : Int) == 0) = false := by simp; omega
  go_enter Tryd.func50, Tryd.ntmps50
  go_wp2
  go_ret
  exact ⟨rfl, rfl⟩
theorem i_len (T B : Nat) (s : RS) (w : World) (h : iIs w T B s) (hn : 1 ≤ s.n) : Calls Tryd.prog 16 #[.pointer (some ⟨T, 0, none⟩)] w fun e w' => e = .returned (.int .i64 (s.c : Int)) ∧ w' = w := by
  have I := hid0 (i_absent T B s w h hn)
  have c2 := h.c2
  clear h
  generalize (s.c : Int) = c at *
  go_enter Tryd.func16, Tryd.ntmps16
  go_wp2_with (go_at_call 50; refine I.out.mono ?_; rintro e w1 ⟨rfl, rfl⟩)
  go_ret
  exact ⟨rfl, rfl⟩

theorem i_where (T B : Nat) (s : RS) (i : Nat) (w : World) (h : iIs w T B s) (hn : 1 ≤ s.n) (hn2 : s.n ≤ 65536) (hf : s.f < s.n) (hi : i ≤ s.n) : Calls Tryd.prog 51 #[.pointer (some ⟨T, 0, none⟩), .int .i64 (i : Int)] w fun e w' => e = .returned (.int .i64 (at_ s.n s.f i : Int)) ∧ ∃ m, w' = w.drewN m := by
  have c0 := fun m => below_cell h.c0 ((Gr.refl w).drewN m).below
  have c1 := fun m => below_cell h.c1 ((Gr.refl w).drewN m).below
  clear h
  have e : ((at_ s.n s.f i : Nat) : Int) = ((s.f : Int) + (i : Int)) % (s.n : Int) := by unfold at_; simp
  rw [e]
  clear e
  generalize s.n = n at *
  generalize s.f = f at *
  have hn' : ¬ (n : Int) = 0 := by omega
  have hs : wrap64 ((f : Int) + (i : Int)) = (f : Int) + (i : Int) := by unfold wrap64; omega
  have h0 : (0 : Int) ≤ (f : Int) + (i : Int) := by omega
  have h1 : (f : Int) + (i : Int) ≤ 131072 := by omega
  go_enter Tryd.func51, Tryd.ntmps51
  go_wp2
  go_quiet (fail)
  go_wp2
  go_ret
  exact ⟨rfl, _, rfl⟩
theorem i_where_d (T B : Nat) (s : RS) (n f i : Nat) (x : Int) (w : World) (h : iIs w T B s) (hsn : s.n = n) (hsf : s.f = f) (hx : (i : Int) = x) (hn : 1 ≤ n) (hn2 : n ≤ 65536) (hf : f < n) (hi : i ≤ n) (m : Nat) :
    Calls Tryd.prog 51 #[.pointer (some ⟨T, 0, none⟩), .int .i64 x] (w.drewN m) fun e w' => e = .returned (.int .i64 (at_ n f i : Int)) ∧ ∃ m, w' = w.drewN m := by
  subst hsn hsf hx
  refine (i_where T B s i (w.drewN m) (h.gr ((Gr.refl w).drewN m)) hn hn2 hf hi).mono ?_
  rintro e w' ⟨rfl, q, rfl⟩
  exact ⟨rfl, m + q, by rw [World.drewN_drewN]⟩
theorem i_press (T B : Nat) (s : RS) (w : World) (h : iIs w T B s) : Calls Tryd.prog 52 #[.pointer (some ⟨T, 0, none⟩)] w fun e w' => e = .returned (.tuple #[]) ∧ iIs w' T B s.press ∧ Chg (fun k => k = T) w w' := by
  have c2 := fun m => below_cell h.c2 ((Gr.refl w).drewN m).below
  have c3 := fun m => below_cell h.c3 ((Gr.refl w).drewN m).below
  have c4 := fun m => below_cell h.c4 ((Gr.refl w).drewN m).below
  have c4' := h.c4
  have c5 := fun m => below_cell h.c5 ((Gr.refl w).drewN m).below
  have f5 := fun m => (h.gr ((Gr.refl w).drewN m)).fz 5
  have H := hid0 h
  clear h
  by_cases e1 : s.high = 0
  · have E2 := hid0 (press_0 s e1)
    have e1' : (s.high == 0) = true := by simp [e1]
    clear e1
    generalize s.press = s' at *
    go_enter Tryd.func52, Tryd.ntmps52
    go_wp2
    go_end0
    exact ⟨rfl, by rw [E2.out]; exact H.out, Chg.refl _ _⟩
  · by_cases e2 : s.high ≤ s.c
    · have E2 := hid0 (press_1 s e1 e2)
      have e1' : (s.high == 0) = false := by simpa using e1
      clear e1
      generalize s.press = s' at *
      go_enter Tryd.func52, Tryd.ntmps52
      go_wp2
      go_quiet (fail)
      go_wp2
      go_end0
      exact ⟨rfl, by rw [E2.out]; exact (H.out.gr ((Gr.refl w).drewN _)).setpr true, (Chg.of_gr ((Gr.refl w).drewN _)).trans (Chg.set (p := fun k => k = T) (a := ⟨T, 5, none⟩) _ rfl _)⟩
    · by_cases e3 : (s.c : Int) ≤ s.low
      · have E2 := hid0 (press_2 s e1 e2 e3)
        have e1' : (s.high == 0) = false := by simpa using e1
        clear e1
        generalize s.press = s' at *
        go_enter Tryd.func52, Tryd.ntmps52
        go_wp2
        go_quiet (fail)
        go_wp2
        go_quiet (fail)
        go_wp2
        go_end0
        exact ⟨rfl, by rw [E2.out]; exact (H.out.gr ((Gr.refl w).drewN _)).setpr false, (Chg.of_gr ((Gr.refl w).drewN _)).trans (Chg.set (p := fun k => k = T) (a := ⟨T, 5, none⟩) _ rfl _)⟩
      · have E2 := hid0 (press_3 s e2 e3)
        have e1' : (s.high == 0) = false := by simpa using e1
        clear e1
        generalize s.press = s' at *
        go_enter Tryd.func52, Tryd.ntmps52
        go_wp2
        go_quiet (fail)
        go_wp2
        go_quiet (fail)
        go_wp2
        go_end0
        exact ⟨rfl, by rw [E2.out]; exact H.out.gr (((Gr.refl w).drewN _).drewN _), Chg.of_gr (((Gr.refl w).drewN _).drewN _)⟩
theorem i_has_yes (T B : Nat) (s : RS) (i : Nat) (w : World) (h : iIs w T B s) (hn : 1 ≤ s.n) (hi : i < s.c) : Calls Tryd.prog 70 #[.pointer (some ⟨T, 0, none⟩), .int .i64 (i : Int)] w fun e w' => e = .returned (.bool true) ∧ w' = w := by
  have I := hid0 (i_absent T B s w h hn)
  have c2 := h.c2
  clear h
  have e1 : decide ((0 : Int) ≤ (i : Int)) = true := by simp
  have e2 : decide ((i : Int) < (s.c : Int)) = true := by simpa using hi
  generalize (s.c : Int) = c at *
  go_enter Tryd.func70, Tryd.ntmps70
  go_wp2_with (go_at_call 50; refine I.out.mono ?_; rintro e w1 ⟨rfl, rfl⟩)
  go_ret
  exact ⟨rfl, rfl⟩
theorem i_has_no (T B : Nat) (s : RS) (i : Int) (w : World) (h : iIs w T B s) (hn : 1 ≤ s.n) (hi : i < 0 ∨ (s.c : Int) ≤ i) : Calls Tryd.prog 70 #[.pointer (some ⟨T, 0, none⟩), .int .i64 i] w fun e w' => e = .returned (.bool false) ∧ w' = w := by
  have I := hid0 (i_absent T B s w h hn)
  have c2 := h.c2
  clear h
  generalize (s.c : Int) = c at *
  by_cases e1 : i < 0
  · clear hi
    have e1' : decide ((0 : Int) ≤ i) = false := by simp; omega
    go_enter Tryd.func70, Tryd.ntmps70
    go_wp2_with (go_at_call 50; refine I.out.mono ?_; rintro e w1 ⟨rfl, rfl⟩)
    go_ret
    exact ⟨rfl, rfl⟩
  · have e2' : decide (i < c) = false := by simp; omega
    have e1' : decide ((0 : Int) ≤ i) = true := by simp; omega
    clear hi
    go_enter Tryd.func70, Tryd.ntmps70
    go_wp2_with (go_at_call 50; refine I.out.mono ?_; rintro e w1 ⟨rfl, rfl⟩)
    go_ret
    exact ⟨rfl, rfl⟩
theorem i_at_no (T B : Nat) (s : RS) (i : Int) (w : World) (h : iIs w T B s) (hn : 1 ≤ s.n) (hi : i < 0 ∨ (s.c : Int) ≤ i) : Calls Tryd.prog 66 #[.pointer (some ⟨T, 0, none⟩), .int .i64 i] w fun e w' => e = .returned (.tuple #[iV 0, .bool false]) ∧ w' = w := by
  have I := hid0 (i_has_no T B s i w h hn hi)
  clear h hi
  go_enter Tryd.func66, Tryd.ntmps66
  go_wp2_with (go_at_call 70; refine I.out.mono ?_; rintro e w1 ⟨rfl, rfl⟩)
  go_ret2
  exact ⟨rfl, rfl⟩
theorem i_el (T B : Nat) (s : RS) (m : Nat) (v : Int) (w : World) (h : iIs w T B s) (hv : s.es[m]? = some v) : w.cell? ⟨B, m, none⟩ = some (iV v) := by
  have := h.el ienc_len hv (j := 0) (by omega)
  simpa [ienc] using this
theorem i_at_yes (T B : Nat) (s : RS) (i : Nat) (v : Int) (w : World) (h : iIs w T B s) (hn : 1 ≤ s.n) (hn2 : s.n ≤ 65536) (hf : s.f < s.n) (hcn : s.c ≤ s.n) (hi : i < s.c) (hv : s.es[at_ s.n s.f i]? = some v) :
    Calls Tryd.prog 66 #[.pointer (some ⟨T, 0, none⟩), .int .i64 (i : Int)] w fun e w' => e = .returned (.tuple #[iV v, .bool true]) ∧ ∃ m, w' = w.drewN m := by
  have I := hid0 (i_has_yes T B s i w h hn hi)
  have WH : Hid (∀ m, Calls Tryd.prog 51 #[.pointer (some ⟨T, 0, none⟩), .int .i64 (i : Int)] (w.drewN m) fun e w' => e = .returned (.int .i64 (at_ s.n s.f i : Int)) ∧ ∃ m, w' = w.drewN m) := fun m =>
    (i_where T B s i (w.drewN m) (h.gr ((Gr.refl w).drewN m)) hn hn2 hf (by omega)).mono (fun e w' k => ⟨k.1, by obtain ⟨q, hq⟩ := k.2; exact ⟨m + q, by rw [hq, World.drewN_drewN]⟩⟩)
  have c0 := fun m => below_cell h.c0 ((Gr.refl w).drewN m).below
  have ce := fun m => below_cell (i_el T B s _ v w h hv) ((Gr.refl w).drewN m).below
  have hlt : at_ s.n s.f i < s.n := at_lt hn
  clear h hv
  generalize at_ s.n s.f i = x at *
  have hlt' : (x : Int) < (s.n : Int) := by omega
  generalize s.n = n at *
  go_enter Tryd.func66, Tryd.ntmps66
  go_wp2_with (go_at_call 70; refine I.out.mono ?_; rintro e w1 ⟨rfl, rfl⟩)
  refine wp_region_quiet_lit (by kernel_rfl) (by kernel_rfl) ?_
  repeat (go_big_quiet_step (fail))
  go_big_quiet_step (exact WH.out _)
  repeat (go_big_quiet_step (fail))
  refine wpQuiet_nil ?_
  intro _ hw'
  obtain ⟨nq, rfl⟩ := hw'
  go_wp2
  go_ret2
  exact ⟨rfl, _, rfl⟩
theorem i_shed (T B : Nat) (s : RS) (w : World) (h : iIs w T B s) (hn : 1 ≤ s.n) (hn2 : s.n ≤ 65536) (hf : s.f < s.n) (hl : s.es.length = s.n) (hc : 1 ≤ s.c) (hc2 : s.c ≤ s.n) :
    Calls Tryd.prog 67 #[.pointer (some ⟨T, 0, none⟩)] w fun e w' => e = .returned (.tuple #[]) ∧ iIs w' T B s.shed ∧ Chg (tw T B) w w' := by
  have c0 := h.c0
  have c1 := h.c1
  obtain ⟨v, hv⟩ : ∃ v, s.es[s.f]? = some v := ⟨_, List.getElem?_eq_getElem (by omega)⟩
  have ce := i_el T B s _ v w h hv
  have fB := h.fzB s.f
  have hf' : (s.f : Int) < (s.n : Int) := by omega
  have K1 : Hid (iIs (w.setCell ⟨B, s.f, none⟩ (iV 0)).drew T B { s with es := s.es.set s.f 0 }) := (h.sete1 (fun _ => rfl) s.f 0).gr ((Gr.refl _).drew)
  have G1 : Hid (Chg (tw T B) w (w.setCell ⟨B, s.f, none⟩ (iV 0)).drew) := (Chg.set (p := tw T B) (a := ⟨B, s.f, none⟩) _ (.inr rfl) _).gr ((Gr.refl _).drew)
  rw [iV_zero] at K1 G1
  clear h hv
  go_enter Tryd.func67, Tryd.ntmps67
  go_wp2
  go_region
  generalize (World.drew (World.setCell w _ _)) = W1 at *
  clear c0 c1 ce fB
  have WH := hid0 (i_where T B _ 1 W1 K1.out hn hn2 hf hn)
  dsimp only at WH
  rw [show ((1 : Nat) : Int) = 1 from rfl] at WH
  go_wp2_with fail
  refine WH.out.mono ?_
  rintro e W2 ⟨rfl, m, hW2⟩
  have K2 := hid0 (K1.out.gr ((Gr.refl W1).drewN m))
  have G2 := hid0 (G1.out.gr ((Gr.refl W1).drewN m))
  rw [← hW2] at K2 G2
  clear WH K1 G1 hW2
  have c1 := K2.out.c1
  have f1 := K2.out.fz 1
  have K3 := hid0 (K2.out.setf (at_ s.n s.f 1))
  have G3 : Hid (Chg (tw T B) w (W2.setCell ⟨T, 1, none⟩ (.int .i64 (at_ s.n s.f 1 : Int)))) := G2.out.trans (Chg.set (p := tw T B) (a := ⟨T, 1, none⟩) _ (.inl rfl) _)
  dsimp only at c1 K3
  go_upto_region 3 with fail
  clear K2 G2 c1 f1
  generalize (World.setCell W2 _ _) = W3 at *
  have c2 := K3.out.c2
  have f2 := K3.out.fz 2
  have K4 := hid0 (K3.out.setc (s.c - 1))
  have G4 : Hid (Chg (tw T B) w (W3.setCell ⟨T, 2, none⟩ (.int .i64 ((s.c - 1 : Nat) : Int)))) := G3.out.trans (Chg.set (p := tw T B) (a := ⟨T, 2, none⟩) _ (.inl rfl) _)
  have e1 : ((s.c - 1 : Nat) : Int) = (s.c : Int) - 1 := by omega
  have hb : (s.c : Int) ≤ 65536 := by omega
  have hb2 : (1 : Int) ≤ (s.c : Int) := by omega
  rw [e1] at G4
  dsimp only at c2 K4
  rw [e1] at K4
  clear e1 K3 G3
  go_wp2
  go_end0
  exact ⟨rfl, K4.out, G4.out⟩
end Go.Proofs.YtodlhclaboofiaaDoor
