/- The reference's Mean. -/
import Derived.Test.YtmjfphidcnjklaaMn1
import Derived.Test.YtmjfphidcnjklaaHd
import Derived.ControlIn
import Derived.CallsIn
set_option linter.unusedSimpArgs false
namespace Go.Proofs.Ytmjfphidcnjklaa
open Go.RowKit Go.Sort Ieee

set_option maxRecDepth 20000 in
set_option maxHeartbeats 3200000 in
theorem rmean_any (so : Option Addr) (cap : Nat) (l : List (Nat × Nat)) (w : World) (hl : l.length ≤ 281474976710656) (hok : OkC l) (hC : Ns w so l) :
    Calls Try.prog 34 #[.slice so l.length cap] w fun e w' => ∃ r s, e = .returned (numV r s) ∧ V r (mnR (SR l l.length) (SI l l.length)) ∧ V s (mnI (SR l l.length) (SI l l.length)) ∧ Gr w w' := by
  have HC := hid' hC
  have HO := hid' hok
  have sf := run_store_f
  obtain ⟨kR, kS, g⟩ := two_new w 33 33 #[.float .f64 0, .float .f64 0] #[.float .f64 0, .float .f64 0]
  clear hC hok
  go_enter Try.func34, Try.ntmps34
  go_upto_region 2 with fail
  generalize (w.alloc (Obj.cells #[Value.float FloatKind.f64 0, Value.float FloatKind.f64 0] 33)).alloc (Obj.cells #[Value.float FloatKind.f64 0, Value.float FloatKind.f64 0] 33) = w1 at *
  go_wp2
  go_loopw [4] (fun v4 wr => ∃ k x y : Nat, k ≤ l.length ∧ v4 = .int .i64 k ∧ Hid (V x (SR l k)) ∧ Hid (V y (SI l k)) ∧ Hid (Bl wr w.heap.size 33 #[.float .f64 0, .float .f64 0]) ∧ Hid (Bl wr (w.heap.size + 1) 33 #[.float .f64 x, .float .f64 y]) ∧ Hid (Gr w wr)) (fun v4 _ => l.length - (intOf v4).toNat)
  case atStart => exact ⟨0, 0, 0, by omega, rfl, v0, v0, kR, kS, g⟩
  case round =>
    clear kR kS g
    obtain ⟨k, x, y, hk, rfl, vx, vy, kR, kS, hG⟩ := hrel
    by_cases hlt : k < l.length
    · obtain ⟨b, off, rfl, c1, c2⟩ := HC.out k hlt
      obtain ⟨o1, o2⟩ := HO.out k
      have r1 := below_cell c1 hG.out.below
      have r2 := below_cell c2 hG.out.below
      obtain ⟨s1, s2, f1, f2⟩ := kS.out.two
      have va := V.refl o1
      have vb := V.refl o2
      have eR : SR l (k + 1) = fo .add (SR l k) (l.getD k (0, 0)).1 := rfl
      have eI : SI l (k + 1) = fo .add (SI l k) (l.getD k (0, 0)).2 := rfl
      have HR := hid' eR
      have HI := hid' eI
      clear c1 c2 o1 o2 eR eI
      generalize (l.getD k (0, 0)).1 = a at *
      generalize (l.getD k (0, 0)).2 = c at *
      have PL := fun w => hid' (rplus_any vx.out vy.out va vb w)
      go_wp2
      refine (wpIn_wide (n := 0)).1 ?_
      refine region_head_lit 5 (by kernel_rfl) (by kernel_rfl) (by simp) (by kernel_rfl) ?_
      simp only [List.take_succ_cons, List.take_zero, List.drop_succ_cons, List.drop_zero]
      repeat (gi_big_quiet_step (fail))
      refine wpQuietIn_nil ?_
      intro _ hw'
      obtain ⟨nq, hw''⟩ := hw'
      subst hw''
      gi_wp2
      refine ⟨trivial, rfl, (callsIn_wide.2 (PL _).out).mono ?_⟩
      rintro e w' ⟨r, s, rfl, k1, k2, g1⟩
      have g2 : Gr wr w' := ((Gr.refl wr).drewN nq).trans g1
      have kR2 := hid' (kR.out.gr g2)
      have kS2 := hid' (kS.out.gr g2)
      have hG2 := hid' (hG.out.trans g2)
      obtain ⟨q0, q1, q2, q3⟩ := kS2.out.two
      clear s1 s2 f1 f2 r1 r2 PL va vb kR kS hG g1 g2 vx vy
      gi_wp2
      go_wp2
      go_roundw
      case rel => exact ⟨k + 1, _, _, by omega, by go_num, by rw [HR.out]; exact k1, by rw [HI.out]; exact k2, (kR2.out.other (by simp) _).other (by simp) _, kS2.out.set2 _ _, (hG2.out.setCell (by simp only []; omega) _).setCell (by simp only []; omega) _⟩
      case measure => simp [intOf]; omega
    · obtain rfl : k = l.length := by omega
      obtain ⟨X, hX⟩ : ∃ X, X = SR l l.length := ⟨_, rfl⟩
      obtain ⟨Y, hY⟩ : ∃ Y, Y = SI l l.length := ⟨_, rfl⟩
      have HX := hid' hX
      have HY := hid' hY
      rw [← hX] at vx
      rw [← hY] at vy
      clear hX hY
      have E1 : (FloatKind.f64.format.order x 0 == some .eq) = z0B X := vx.out.z0
      have E2 : (FloatKind.f64.format.order y 0 == some .eq) = z0B Y := vy.out.z0
      have FN := fun w => hid' (rfinite_any vx.out vy.out w)
      have gd : Hid (goodB X Y = (!(z0B X && z0B Y) && (bdd X && bdd Y))) := rfl
      obtain ⟨s1, s2, f1, f2⟩ := kS.out.two
      obtain ⟨t1, t2, p1, p2⟩ := kR.out.two
      have C : Hid ((z0B X = true ∧ z0B Y = true ∧ goodB X Y = false) ∨ (((z0B X = false) ∨ (z0B X = true ∧ z0B Y = false)) ∧ ((bdd X && bdd Y) = false ∧ goodB X Y = false ∨ (bdd X && bdd Y) = true ∧ goodB X Y = true))) := by
        unfold Hid
        rw [gd.out]
        cases z0B X <;> cases z0B Y <;> cases (bdd X && bdd Y) <;> simp
      have Z : goodB X Y = false → Hid (mnR (SR l l.length) (SI l l.length) = 0 ∧ mnI (SR l l.length) (SI l l.length) = 0) := fun g0 => by unfold Hid; rw [← HX.out, ← HY.out]; unfold mnR mnI; rw [g0]; exact ⟨rfl, rfl⟩
      clear gd
      rcases C.out with ⟨z1, z2, g0⟩ | ⟨hz, ⟨hb, g0⟩ | ⟨hb, g0⟩⟩
      · have G1 := Z g0
        rw [z1] at E1
        rw [z2] at E2
        clear C Z g0 HX HY
        go_wp2
        refine bodyPost_ret (v := numV 0 0) (by simp [results, Try.results34, go_sem, t1, t2]) rfl ⟨0, 0, rfl, by rw [G1.out.1]; exact v0, by rw [G1.out.2]; exact v0, ?_⟩
        repeat (first | exact hG.out | refine Gr.setCell ?_ (by simp only []; omega) _ | refine Gr.drewN ?_ _ | refine Gr.alloc ?_ _)
      · have G1 := Z g0
        rw [hb] at FN
        clear C Z g0 HX HY
        rcases hz with z1 | ⟨z1, z2⟩
        all_goals
          rw [z1] at E1
          try rw [z2] at E2
          go_wp2_with (go_at_call 49; refine (FN _).out.mono ?_; rintro e w' ⟨rfl, g1⟩; have kR2 := kR.out.gr g1; obtain ⟨t1, t2, p1, p2⟩ := kR2.two)
          refine bodyPost_ret (v := numV 0 0) (by simp [results, Try.results34, go_sem, t1, t2]) rfl ⟨0, 0, rfl, by rw [G1.out.1]; exact v0, by rw [G1.out.2]; exact v0, ?_⟩
          repeat (first | exact hG.out.trans g1 | refine Gr.setCell ?_ (by simp only []; omega) _ | refine Gr.drewN ?_ _ | refine Gr.alloc ?_ _)
      · rw [hb] at FN
        rw [Bool.and_eq_true] at hb
        obtain ⟨n1, _⟩ := bdd_fin vx.out.2.1 hb.1
        obtain ⟨n2, _⟩ := bdd_fin vy.out.2.1 hb.2
        obtain ⟨lq, L, hL, eL, lL⟩ := sq_num n1 n2
        have G1 : Hid (mnR (SR l l.length) (SI l l.length) = fo .quo X L ∧ mnI (SR l l.length) (SI l l.length) = fo .quo Y L) := by rw [← HX.out, ← HY.out]; unfold mnR mnI; rw [g0, if_pos rfl, if_pos rfl, eL]; exact ⟨rfl, rfl⟩
        have SQ := fun w => hid' (rsquare_any vx.out vy.out w)
        have nq := hid' (not_nan lq)
        have RT := fun w => hid' (sqrt_any hL w)
        have vL := V.refl (show L < 18446744073709551616 by omega)
        replace vx := vx.out
        replace vy := vy.out
        clear hL eL lL lq n1 n2 hb g0 HX HY C Z
        generalize sqF X Y = S at *
        rcases hz with z1 | ⟨z1, z2⟩
        all_goals
          rw [z1] at E1
          try rw [z2] at E2
          go_wp2_with (first
            | (go_at_call 49; refine (FN _).out.mono ?_; rintro e w1 ⟨rfl, g1⟩; have kS1 := kS.out.gr g1; have kR1 := kR.out.gr g1; obtain ⟨s1, s2, f1, f2⟩ := kS1.two)
            | (go_at_call 48; refine (SQ _).out.mono ?_; rintro e w2 ⟨r, rfl, k1, g2⟩; obtain rfl := k1.num nq.out; have kS2 := kS1.gr g2; have kR2 := kR1.gr g2; obtain ⟨s1, s2, f1, f2⟩ := kS2.two; obtain ⟨t1, t2, p1, p2⟩ := kR2.two)
            | (go_at_call 66; refine (RT _).out.mono ?_; rintro e w3 ⟨rfl, rfl⟩)
            | (refine wpList_fl _ rfl .quo (.inr (.inr (.inr rfl))) _ _ rfl _ _ rfl rfl (by assumption) (by assumption) ?_; intro r n h'))
          rename_i r5 n5 h5
          refine bodyPost_ret (v := numV r5 r) (by simp [results, Try.results34, go_sem, t1, t2]) rfl ⟨_, _, rfl, by rw [G1.out.1]; exact h5, by rw [G1.out.2]; exact h', ?_⟩
          repeat (first | exact (hG.out.trans g1).trans g2 | refine Gr.setCell ?_ (by simp only []; omega) _ | refine Gr.drewN ?_ _ | refine Gr.alloc ?_ _)
end Go.Proofs.Ytmjfphidcnjklaa
