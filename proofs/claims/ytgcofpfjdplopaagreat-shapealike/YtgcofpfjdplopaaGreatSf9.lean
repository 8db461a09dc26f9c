/- Check of a shape that is no polygon. -/
import Derived.Test.YtgcofpfjdplopaaGreatSe9
import Derived.Test.YtgcofpfjdplopaaGreatRm9
namespace Go.Proofs.YtgcofpfjdplopaaGreat
section
set_option linter.unusedSimpArgs false
open Go.RowKit Go.Sort

set_option maxRecDepth 20000 in
set_option maxHeartbeats 8000000 in
theorem chk_kind {k : Int} (s : Int) (vo ho : Option Addr) (m vc n hc : Nat) (h : k < 1 ∨ (¬ k < 1 ∧ 4 < k)) (w : World) :
    Calls Tryz.prog 14 #[.agg #[.int .u8 k, .slice vo m vc, .slice ho n hc, .int .i32 s]] w fun e w' => e = .returned (.int .i64 90) ∧ Gr w w' := by
  rcases h with h | ⟨h0, h⟩
  all_goals
    go_enter Tryz.func14, Tryz.ntmps14
    go_wp2
    go_ret
    exact ⟨rfl, (Gr.refl _).alloc _⟩
set_option maxRecDepth 20000 in
set_option maxHeartbeats 8000000 in
theorem chk_for {k : Int} (s : Int) (vo ho : Option Addr) (m vc n hc : Nat) (h0 : ¬ k < 1) (h4 : ¬ 4 < k) (F : ∀ w, Calls Tryz.prog 39 #[.agg #[.int .u8 k, .slice vo m vc, .slice ho n hc, .int .i32 s]] w fun e w' => e = .returned (.bool true) ∧ Gr w w') (w : World) :
    Calls Tryz.prog 14 #[.agg #[.int .u8 k, .slice vo m vc, .slice ho n hc, .int .i32 s]] w fun e w' => e = .returned (.int .i64 91) ∧ Gr w w' := by
  replace F := fun w => hid' (F w)
  go_enter Tryz.func14, Tryz.ntmps14
  go_wp2_with (go_at_call 39; refine (F _).out.mono ?_; rintro e w1 ⟨rfl, g1⟩)
  go_ret
  exact ⟨rfl, ((Gr.refl _).alloc _).trans g1⟩
set_option maxRecDepth 20000 in
set_option maxHeartbeats 8000000 in
theorem chk_disc (s : Int) (b off : Nat) (ho : Option Addr) (vc n hc : Nat) (X Y : Int) (F : ∀ w, Calls Tryz.prog 39 #[.agg #[.int .u8 2, .slice (some ⟨b, off, none⟩) 1 vc, .slice ho n hc, .int .i32 s]] w fun e w' => e = .returned (.bool false) ∧ Gr w w') (w : World)
    (p0 : w.cell? ⟨b, off, none⟩ = some (.int .i32 X)) (p1 : w.cell? ⟨b, off + 1, none⟩ = some (.int .i32 Y)) :
    Calls Tryz.prog 14 #[.agg #[.int .u8 2, .slice (some ⟨b, off, none⟩) 1 vc, .slice ho n hc, .int .i32 s]] w fun e w' => e = .returned (.int .i64 (discF (X, Y) s)) ∧ Gr w w' := by
  have kA := Bl.new w 26 #[.int .u8 2, .slice (some ⟨b, off, none⟩) 1 vc, .slice ho n hc, .int .i32 s]
  have g : Gr w (w.alloc (.cells #[.int .u8 2, .slice (some ⟨b, off, none⟩) 1 vc, .slice ho n hc, .int .i32 s] 26)) := (Gr.refl w).alloc _
  have D : ∀ w, Hid (Calls Tryz.prog 41 #[pt X Y, .int .i32 s] w fun e w' => e = .returned (.int .i64 (discF (X, Y) s)) ∧ Gr w w') := fun w => discF_any (X, Y) s w
  replace F := fun w => hid' (F w)
  generalize discF (X, Y) s = R at *
  go_enter Tryz.func14, Tryz.ntmps14
  go_upto_region 9 with (go_at_call 39; refine (F _).out.mono ?_; rintro e w1 ⟨rfl, g1⟩; obtain ⟨x0, x1, x2, x3⟩ := (kA.gr g1).four9)
  replace kA := kA.gr g1
  have G1 := g.trans g1
  replace p0 : ∀ w', Gr w1 w' → w'.cell? ⟨b, off, none⟩ = some (.int .i32 X) := fun w' h => below_cell p0 (G1.trans h).below
  replace p1 : ∀ w', Gr w1 w' → w'.cell? ⟨b, off + 1, none⟩ = some (.int .i32 Y) := fun w' h => below_cell p1 (G1.trans h).below
  clear g g1 x0 x1 x2 x3 F
  obtain ⟨x0, x1, x2, x3⟩ := kA.four_gr9
  go_region_held3 (Gr w1)
    (first
      | exact (Gr.refl _).drew
      | exact Gr.trans (by assumption) (by assumption))
    (first
      | (go_at_call 41; refine (D _).out.mono ?_; rintro e w2 ⟨rfl, g2⟩))
  rename_i hH
  go_wp2
  go_ret
  exact ⟨rfl, G1.trans hH⟩
set_option maxRecDepth 20000 in
set_option maxHeartbeats 8000000 in
theorem chk_rect (b off : Nat) (ho : Option Addr) (vc n hc : Nat) (s X Y Z U : Int) (F : ∀ w, Calls Tryz.prog 39 #[.agg #[.int .u8 3, .slice (some ⟨b, off, none⟩) 2 vc, .slice ho n hc, .int .i32 s]] w fun e w' => e = .returned (.bool false) ∧ Gr w w') (w : World)
    (p0 : w.cell? ⟨b, off, none⟩ = some (.int .i32 X)) (p1 : w.cell? ⟨b, off + 1, none⟩ = some (.int .i32 Y)) (p2 : w.cell? ⟨b, off + 2, none⟩ = some (.int .i32 Z)) (p3 : w.cell? ⟨b, off + 2 + 1, none⟩ = some (.int .i32 U)) :
    Calls Tryz.prog 14 #[.agg #[.int .u8 3, .slice (some ⟨b, off, none⟩) 2 vc, .slice ho n hc, .int .i32 s]] w fun e w' => e = .returned (.int .i64 (rectF (X, Y) (Z, U))) ∧ Gr w w' := by
  have kA := Bl.new w 26 #[.int .u8 3, .slice (some ⟨b, off, none⟩) 2 vc, .slice ho n hc, .int .i32 s]
  have g : Gr w (w.alloc (.cells #[.int .u8 3, .slice (some ⟨b, off, none⟩) 2 vc, .slice ho n hc, .int .i32 s] 26)) := (Gr.refl w).alloc _
  have D : ∀ w, Hid (Calls Tryz.prog 42 #[pt X Y, pt Z U] w fun e w' => e = .returned (.int .i64 (rectF (X, Y) (Z, U))) ∧ Gr w w') := fun w => rectF_any (X, Y) (Z, U) w
  replace F := fun w => hid' (F w)
  generalize rectF (X, Y) (Z, U) = R at *
  go_enter Tryz.func14, Tryz.ntmps14
  go_upto_region 11 with (go_at_call 39; refine (F _).out.mono ?_; rintro e w1 ⟨rfl, g1⟩; obtain ⟨x0, x1, x2, x3⟩ := (kA.gr g1).four9)
  replace kA := kA.gr g1
  have G1 := g.trans g1
  replace p0 : ∀ w', Gr w1 w' → w'.cell? ⟨b, off, none⟩ = some (.int .i32 X) := fun w' h => below_cell p0 (G1.trans h).below
  replace p1 : ∀ w', Gr w1 w' → w'.cell? ⟨b, off + 1, none⟩ = some (.int .i32 Y) := fun w' h => below_cell p1 (G1.trans h).below
  replace p2 : ∀ w', Gr w1 w' → w'.cell? ⟨b, off + 2, none⟩ = some (.int .i32 Z) := fun w' h => below_cell p2 (G1.trans h).below
  replace p3 : ∀ w', Gr w1 w' → w'.cell? ⟨b, off + 2 + 1, none⟩ = some (.int .i32 U) := fun w' h => below_cell p3 (G1.trans h).below
  clear g g1 x0 x1 x2 x3 F
  obtain ⟨x0, x1, x2, x3⟩ := kA.four_gr9
  go_region_held3 (Gr w1)
    (first
      | exact (Gr.refl _).drew
      | exact Gr.trans (by assumption) (by assumption))
    (first
      | (go_at_call 42; refine (D _).out.mono ?_; rintro e w2 ⟨rfl, g2⟩))
  rename_i hH
  go_wp2
  go_ret
  exact ⟨rfl, G1.trans hH⟩
set_option maxRecDepth 20000 in
set_option maxHeartbeats 8000000 in
theorem chk_corr {R : Int} (s : Int) (vo ho : Option Addr) (m vc n hc : Nat) (F : ∀ w, Calls Tryz.prog 39 #[.agg #[.int .u8 4, .slice vo m vc, .slice ho n hc, .int .i32 s]] w fun e w' => e = .returned (.bool false) ∧ Gr w w') (w : World)
    (D : ∀ W, Gr w W → Calls Tryz.prog 43 #[.slice vo m vc, .int .i32 s] W fun e w' => e = .returned (.int .i64 R) ∧ Gr W w') :
    Calls Tryz.prog 14 #[.agg #[.int .u8 4, .slice vo m vc, .slice ho n hc, .int .i32 s]] w fun e w' => e = .returned (.int .i64 R) ∧ Gr w w' := by
  have kA := Bl.new w 26 #[.int .u8 4, .slice vo m vc, .slice ho n hc, .int .i32 s]
  have g : Gr w (w.alloc (.cells #[.int .u8 4, .slice vo m vc, .slice ho n hc, .int .i32 s] 26)) := (Gr.refl w).alloc _
  replace F := fun w => hid' (F w)
  replace D := hid' D
  go_enter Tryz.func14, Tryz.ntmps14
  go_wp2_with (first
    | (go_at_call 39; refine (F _).out.mono ?_; rintro e w1 ⟨rfl, g1⟩; obtain ⟨x0, x1, x2, x3⟩ := (kA.gr g1).four9)
    | (go_at_call 43; refine (D.out _ (g.trans g1)).mono ?_; rintro e w2 ⟨rfl, g2⟩))
  go_ret
  exact ⟨rfl, (g.trans g1).trans g2⟩
/-- What Check tells of a shape that is no polygon. -/
def chkF (k s : Int) (L : List (Int × Int)) (n : Nat) : Int :=
  if k < 1 ∨ 4 < k then 90 else if forB k L.length n s = true then 91 else if k = 2 then discF (L.getD 0 (0, 0)) s else if k = 3 then rectF (L.getD 0 (0, 0)) (L.getD 1 (0, 0)) else corrF L s
theorem forB_2 {m n : Nat} {s : Int} (h : forB 2 m n s = false) : m = 1 ∧ n = 0 := by unfold forB at h; simp at h; exact ⟨h.2, h.1⟩
theorem forB_3 {m n : Nat} {s : Int} (h : forB 3 m n s = false) : m = 2 ∧ n = 0 ∧ s = 0 := by unfold forB at h; simp at h; exact ⟨h.2, h.1.1, h.1.2⟩
theorem check_ne1 (k s : Int) (v : Hole) (ho : Option Addr) (n hc : Nat) (hk : ¬ k = 1) (hv1 : v.2.2.length ≤ 17592186043904) (hcp : v.2.2.length ≤ v.2.1) (hcm : v.2.1 ≤ 9223372036854775807) (hn : n ≤ 17592186043904) (w : World) (hP : Pts w v.1 v.2.2) :
    Calls Tryz.prog 14 #[shV k v ho n hc s] w fun e w' => e = .returned (.int .i64 (chkF k s v.2.2 n)) ∧ Gr w w' := by
  have F := foreign_any k v.1 ho v.2.2.length n v.2.1 hc s hv1 hn
  unfold chkF
  by_cases k0 : k < 1
  · rw [if_pos (.inl k0)]; exact chk_kind s _ _ _ _ _ _ (.inl k0) w
  · by_cases k4 : 4 < k
    · rw [if_pos (.inr k4)]; exact chk_kind s _ _ _ _ _ _ (.inr ⟨k0, k4⟩) w
    · rw [if_neg (by omega)]
      cases hf : forB k v.2.2.length n s with
      | true =>
        rw [hf] at F
        simp only [if_true]
        exact chk_for s _ _ _ _ _ _ k0 k4 F w
      | false =>
        rw [hf] at F
        simp only [Bool.false_eq_true, if_false]
        obtain ⟨vo, vc, l⟩ := v
        simp only at F hP hf hcp hcm hv1 ⊢
        by_cases k2 : k = 2
        · subst k2
          rw [if_pos rfl]
          obtain ⟨hm, _⟩ := forB_2 hf
          obtain ⟨b, off, rfl, p0, p1⟩ := hP 0 (by omega)
          simp only [Nat.zero_mul, Nat.add_zero] at p0 p1
          show Calls Tryz.prog 14 #[.agg #[.int .u8 2, .slice (some ⟨b, off, none⟩) l.length vc, .slice ho n hc, .int .i32 s]] w _
          rw [hm] at F ⊢
          generalize l.getD 0 (0, 0) = p at *
          obtain ⟨X, Y⟩ := p
          exact chk_disc s b off ho vc n hc X Y F w p0 p1
        · rw [if_neg k2]
          by_cases k3 : k = 3
          · subst k3
            rw [if_pos rfl]
            obtain ⟨hm, _⟩ := forB_3 hf
            obtain ⟨b, off, rfl, p0, p1⟩ := hP 0 (by omega)
            obtain ⟨b', off', e, q0, q1⟩ := hP 1 (by omega)
            simp only [Option.some.injEq, Addr.mk.injEq] at e
            obtain ⟨rfl, rfl, _⟩ := e
            simp only [Nat.zero_mul, Nat.add_zero, Nat.one_mul] at p0 p1 q0 q1
            show Calls Tryz.prog 14 #[.agg #[.int .u8 3, .slice (some ⟨b, off, none⟩) l.length vc, .slice ho n hc, .int .i32 s]] w _
            rw [hm] at F ⊢
            generalize l.getD 0 (0, 0) = p at *
            generalize l.getD 1 (0, 0) = q at *
            obtain ⟨X, Y⟩ := p
            obtain ⟨Z, U⟩ := q
            exact chk_rect b off ho vc n hc s X Y Z U F w p0 p1 q0 q1
          · rw [if_neg k3]
            have k4' : k = 4 := by omega
            subst k4'
            exact chk_corr s _ _ _ _ _ _ F w (fun W g => corrF_any _ _ l s hcp (by omega) hcm W (hP.mono g.below))
end
end Go.Proofs.YtgcofpfjdplopaaGreat
