/- The law RealOrders, walked: for any three words the call returns true, and the memory that was there is as it was. -/
import Derived.Test.YtmkechhjgdanmaaGreatDoorCmp
import Derived.Test.YtmkechhjgdanmaaGreatDoorLives
namespace Go.Proofs.YtmkechhjgdanmaaGreatDoor
open Go.RowKit Go.Sort

theorem cmpI_bd (m n : Int) : -1 ≤ cmpI m n ∧ cmpI m n ≤ 1 := by unfold cmpI; split <;> (try split) <;> omega
theorem cmpI_neg (m n : Int) : cmpI n m = -cmpI m n := by unfold cmpI; split <;> (try split) <;> (try split) <;> omega
theorem cmpI_trans {a b c : Int} (h1 : cmpI a b ≤ 0) (h2 : cmpI b c ≤ 0) : cmpI a c ≤ 0 := by
  unfold cmpI at *
  split at h1 <;> split at h2 <;> (try split at h1) <;> (try split at h2) <;> split <;> (try split) <;> omega
theorem compare_gr (a b : Nat) (w : World) (ha : a < 18446744073709551616) (hb : b < 18446744073709551616) :
    Calls Tryz.prog 23 #[.float .f64 a, .float .f64 b] w fun e w' => e = .returned (.int .i64 (cmpI (key a) (key b))) ∧ Gr w w' :=
  (compare_any a b w ha hb).mono fun _ _ ⟨h1, h2⟩ => ⟨h1, h2 ▸ Gr.refl _⟩
theorem rcompare_gr (a b : Nat) (w : World) (ha : a < 18446744073709551616) (hb : b < 18446744073709551616) :
    Calls Tryz.prog 24 #[.float .f64 a, .float .f64 b] w fun e w' => e = .returned (.int .i64 (cmpI (key a) (key b))) ∧ Gr w w' :=
  (rcompare_any a b w ha hb).mono fun _ _ ⟨h1, h2⟩ => ⟨h1, h2 ▸ Gr.refl _⟩
set_option maxHeartbeats 400000 in
theorem of9 (b : Nat) (w : World) : Calls Tryz.prog 9 #[.int .u64 (b : Int)] w fun e w' => e = .returned (.float .f64 b) ∧ w' = w := by
  go_enter Tryz.func9, Tryz.ntmps9
  go_wp2_with (simp only [run42])
  go_ret
  exact ⟨rfl, rfl⟩
theorem T3.gr {w w' : World} {t b : Nat} {x y z : Value} (h : T3 w t b x y z) (g : Gr w w') : T3 w' t b x y z := h.mono g.below h.lt
theorem cell_grown {w : World} {a : Addr} {v : Value} (h : w.cell? a = some v) : ∀ n os, (grow (w.drewN n) os).cell? a = some v := fun n os => below_cell h (Gr.below ⟨n, os, rfl⟩)
set_option maxRecDepth 20000 in
set_option maxHeartbeats 6400000 in
theorem orders_walk (a b c : Nat) (ha : a < 18446744073709551616) (hb : b < 18446744073709551616) (hc : c < 18446744073709551616) (w : World) (hP : LvP w) (hF : LvF w) :
    Calls Tryz.prog 4 #[.int .u64 (a : Int), .int .u64 (b : Int), .int .u64 (c : Int)] w fun e w' => e = .returned (.bool true) ∧ Below w.heap.size w w' := by
  obtain ⟨F, f0, f1, f2⟩ : ∃ F : Nat → Nat, F 0 = a ∧ F 1 = b ∧ F 2 = c := ⟨fun i => if i = 0 then a else if i = 1 then b else c, rfl, rfl, rfl⟩
  have hlt : Hid (∀ i, i < 3 → F i < 18446744073709551616) := fun i hi => by
    rcases (show i = 0 ∨ i = 1 ∨ i = 2 from by omega) with rfl | rfl | rfl
    · rw [f0]; exact ha
    · rw [f1]; exact hb
    · rw [f2]; exact hc
  have k0 : T3 (w.alloc (.cells #[.float .f64 a, .float .f64 b, .float .f64 c] 40)) 40 w.heap.size (.float .f64 a) (.float .f64 b) (.float .f64 c) := T3.new w 40 _ _ _
  have G0 : Hid (Gr w (w.alloc (.cells #[.float .f64 a, .float .f64 b, .float .f64 c] 40))) := (Gr.refl w).alloc _
  have hcell : Hid (∀ W, Gr (w.alloc (.cells #[.float .f64 a, .float .f64 b, .float .f64 c] 40)) W → ∀ i, i < 3 → W.cell? ⟨w.heap.size, i, none⟩ = some (.float .f64 (F i))) := fun W g i hi => by
    have k := k0.gr g
    rcases (show i = 0 ∨ i = 1 ∨ i = 2 from by omega) with rfl | rfl | rfl
    · rw [f0]; exact k.c0
    · rw [f1]; exact k.c1
    · rw [f2]; exact k.c2
  have HP := hid' hP
  have HF := hid' hF
  clear k0 f0 f1 f2 hP hF ha hb hc
  have sf := run_store_f
  go_enter Tryz.func4, Tryz.ntmps4
  go_upto_region 2 with (go_at_call 9; refine (of9 _ _).mono ?_; rintro e w ⟨rfl, rfl⟩)
  generalize w.alloc (.cells #[.float .f64 a, .float .f64 b, .float .f64 c] 40) = W at *
  generalize hX : w.heap.size = X at *
  go_wp2
  go_loopw [8] (fun v wr => ∃ i : Nat, i ≤ 3 ∧ v = .int .i64 i ∧ Gr W wr) (fun v _ => 3 - (intOf v).toNat)
  case atStart => exact ⟨0, by omega, rfl, Gr.refl _⟩
  case round =>
    obtain ⟨i, hi, rfl, gi⟩ := hrel
    by_cases hi3 : i < 3
    · go_wp2
      go_loopw [9] (fun v wr => ∃ j : Nat, j ≤ 3 ∧ v = .int .i64 j ∧ Gr W wr) (fun v _ => 3 - (intOf v).toNat)
      case atStart => exact ⟨0, by omega, rfl, gi⟩
      case round =>
        clear gi
        obtain ⟨j, hj, rfl, gj⟩ := hrel
        by_cases hj3 : j < 3
        · have r1 := cell_grown (hcell.out _ gj i hi3)
          have r2 := cell_grown (hcell.out _ gj j hj3)
          have q1 := hlt.out i hi3
          have q2 := hlt.out j hj3
          have n1 := cmpI_neg (key (F i)) (key (F j))
          have B1 := cmpI_bd (key (F i)) (key (F j))
          go_wp2
          refine wp_region_quiet_grown (by kernel_rfl) (by kernel_rfl) ?_
          repeat (go_big_quiet_step ((go_at_call 23; refine Calls.grown_of (compare_gr _ _ _ (by assumption) (by assumption)))))
          refine wpQuiet_nil ?_
          intro _ hw'
          obtain ⟨⟨nq, osq⟩, hw''⟩ := hw'
          subst hw''
          have g2 : Gr wr (grow (wr.drewN nq) osq) := ⟨nq, osq, rfl⟩
          replace gj := gj.trans g2
          have C1 : Hid (∀ w, Calls Tryz.prog 24 #[.float .f64 (F i), .float .f64 (F j)] w fun e w' => e = .returned (.int .i64 (cmpI (key (F i)) (key (F j)))) ∧ Gr w w') := fun w => rcompare_gr _ _ w q1 q2
          have C2 : Hid (∀ w, Calls Tryz.prog 23 #[.float .f64 (F j), .float .f64 (F i)] w fun e w' => e = .returned (.int .i64 (-cmpI (key (F i)) (key (F j)))) ∧ Gr w w') := fun w => by
            rw [← n1]; exact compare_gr _ _ w q2 q1
          have C3 : Hid (∀ h, h < 3 → cmpI (key (F i)) (key (F j)) ≤ 0 → cmpI (key (F j)) (key (F h)) ≤ 0 → cmpI (key (F i)) (key (F h)) ≤ 0) := fun h _ h1 h2 => cmpI_trans h1 h2
          clear g2 r1 r2 n1
          show Exit.then _ _ Exit.normal _ (grow (wr.drewN nq) osq)
          generalize grow (wr.drewN nq) osq = W2 at *
          generalize cmpI (key (F i)) (key (F j)) = k at *
          have r1 := cell_grown (hcell.out _ gj i hi3)
          have r2 := cell_grown (hcell.out _ gj j hj3)
          go_wp2
          refine wp_region_quiet_grown (by kernel_rfl) (by kernel_rfl) ?_
          repeat (go_big_quiet_step (first
            | (go_at_call 24; refine Calls.grown_of (C1.out _))
            | (go_at_call 23; refine Calls.grown_of (C2.out _))))
          refine wpQuiet_nil ?_
          intro _ hw'
          obtain ⟨⟨nq2, osq2⟩, hw''⟩ := hw'
          subst hw''
          have g2 : Gr W2 (grow (W2.drewN nq2) osq2) := ⟨nq2, osq2, rfl⟩
          replace gj := gj.trans g2
          clear g2 r1 r2 C1 C2
          show Exit.then _ _ Exit.normal _ (grow (W2.drewN nq2) osq2)
          generalize grow (W2.drewN nq2) osq2 = W3 at *
          go_wp2
          go_loopw [11] (fun v wr => ∃ h : Nat, h ≤ 3 ∧ v = .int .i64 h ∧ Gr W wr) (fun v _ => 3 - (intOf v).toNat)
          case atStart => exact ⟨0, by omega, rfl, gj⟩
          case round =>
            clear gj
            obtain ⟨h, hh, rfl, gh⟩ := hrel
            by_cases hh3 : h < 3
            · have r1 := cell_grown (hcell.out _ gh i hi3)
              have r2 := cell_grown (hcell.out _ gh j hj3)
              have r3 := cell_grown (hcell.out _ gh h hh3)
              have q3 := hlt.out h hh3
              obtain ⟨cf, hcf⟩ : ∃ cf : Nat → Int, cf = fun a => cmpI (key a) (key (F h)) := ⟨_, rfl⟩
              have D : Hid (∀ (a : Nat) (w : World), a < 18446744073709551616 → Calls Tryz.prog 23 #[.float .f64 a, .float .f64 (F h)] w fun e w' => e = .returned (.int .i64 (cf a)) ∧ Gr w w') := fun a w ha => by rw [hcf]; exact compare_gr _ _ w ha q3
              have D3 := C3.out h hh3
              rw [show cmpI (key (F j)) (key (F h)) = cf (F j) from by rw [hcf], show cmpI (key (F i)) (key (F h)) = cf (F i) from by rw [hcf]] at D3
              clear hcf
              rcases (show 0 < k ∨ (k ≤ 0 ∧ 0 < cf (F j)) ∨ (k ≤ 0 ∧ cf (F j) ≤ 0) from by omega) with c1 | ⟨c1, c2⟩ | ⟨c1, c2⟩
              · have d1 : decide (k ≤ 0) = false := by simp; omega
                clear D3
                go_wp2
                refine wp_region_quiet_grown (by kernel_rfl) (by kernel_rfl) ?_
                repeat (go_big_quiet_step ((go_at_call 23; refine Calls.grown_of (D.out _ _ (by assumption)))))
                refine wpQuiet_nil ?_
                intro _ hw'
                obtain ⟨⟨nq, osq⟩, hw''⟩ := hw'
                subst hw''
                have g2 : Gr wr (grow (wr.drewN nq) osq) := ⟨nq, osq, rfl⟩
                replace gh := gh.trans g2
                go_wp2
                go_roundw
                case rel => exact ⟨h + 1, by omega, by go_num, gh⟩
                case measure => simp [intOf]; omega
              · have d1 : decide (k ≤ 0) = true := by simp; omega
                have d2 : decide (cf (F j) ≤ 0) = false := by simp; omega
                clear D3
                go_wp2
                refine wp_region_quiet_grown (by kernel_rfl) (by kernel_rfl) ?_
                repeat (go_big_quiet_step ((go_at_call 23; refine Calls.grown_of (D.out _ _ (by assumption)))))
                refine wpQuiet_nil ?_
                intro _ hw'
                obtain ⟨⟨nq, osq⟩, hw''⟩ := hw'
                subst hw''
                have g2 : Gr wr (grow (wr.drewN nq) osq) := ⟨nq, osq, rfl⟩
                replace gh := gh.trans g2
                clear r1 r2 r3
                go_wp2
                go_roundw
                case rel => exact ⟨h + 1, by omega, by go_num, gh⟩
                case measure => simp [intOf]; omega
              · have c3 := D3 c1 c2
                clear D3
                go_wp2
                refine wp_region_quiet_grown (by kernel_rfl) (by kernel_rfl) ?_
                repeat (go_big_quiet_step ((go_at_call 23; refine Calls.grown_of (D.out _ _ (by assumption)))))
                refine wpQuiet_nil ?_
                intro _ hw'
                obtain ⟨⟨nq, osq⟩, hw''⟩ := hw'
                subst hw''
                have g2 : Gr wr (grow (wr.drewN nq) osq) := ⟨nq, osq, rfl⟩
                replace gh := gh.trans g2
                clear r1 r2 r3
                go_wp2
                go_roundw
                case rel => exact ⟨h + 1, by omega, by go_num, gh⟩
                case measure => simp [intOf]; omega
            · go_wp2
              go_roundw
              case rel => exact ⟨j + 1, by omega, by go_num, gh⟩
              case measure => simp [intOf]; omega
        · go_wp2
          go_roundw
          case rel => exact ⟨i + 1, by omega, by go_num, gj⟩
          case measure => simp [intOf]; omega
    · have gw := G0.out.trans gi
      have HL := hid' (lives_any wr (HP.out.mono gw.below) (HF.out.mono gw.below))
      have HG := hid' gw
      clear gw gi
      go_wp2_with (go_at_call 22; refine HL.out.mono ?_; rintro e w2 ⟨rfl, l2⟩)
      go_ret
      exact ⟨rfl, HG.out.below.trans (l2.mono HG.out.size)⟩
end Go.Proofs.YtmkechhjgdanmaaGreatDoor
