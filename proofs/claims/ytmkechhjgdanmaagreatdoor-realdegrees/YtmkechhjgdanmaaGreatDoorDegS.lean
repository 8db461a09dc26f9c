/- Contract of the reference's reading of degrees. -/
import Derived.Test.YtmkechhjgdanmaaGreatDoorDegR
namespace Go.Proofs.YtmkechhjgdanmaaGreatDoor
open Go.RowKit Go.Sort Go.Lib

theorem sgM_big {l : List UInt8} {M : Nat} (h : 180000000 < M) : sgM l M = (0, 21) := by unfold sgM; rw [if_pos h]
theorem sgM_ok {l : List UInt8} {M : Nat} (h : ¬ 180000000 < M) : sgM l M = (if minus l then -(M : Int) else (M : Int), 0) := by unfold sgM; rw [if_neg h]
theorem pow_step {q v M : Nat} (h : v * 10 ^ (6 - q) = M) (hq : q < 6) : v * 10 * 10 ^ (6 - (q + 1)) = M := by
  rw [← h, Nat.mul_assoc, show 6 - q = (6 - (q + 1)) + 1 from by omega, Nat.pow_succ, Nat.mul_comm (10 ^ _) 10]
theorem pow_ge {v M k : Nat} (h : v * 10 ^ k = M) : v ≤ M := by
  rw [← h]
  exact Nat.le_mul_of_pos_right _ (Nat.pow_pos (by decide))
abbrev mT (p : Int × Int) : Value := .tuple #[.int .i32 p.1, .int .i64 p.2]
set_option maxRecDepth 20000 in
set_option maxHeartbeats 4000000 in
theorem micr_any (l : List UInt8) (hl : l.length ≤ 281474976710656) (w : World) :
    Calls Tryz.prog 39 #[.string ⟨l.toArray⟩] w fun e w' => e = .returned (micV l) ∧ w' = w := by
  have hsz : (⟨l.toArray⟩ : ByteArray).size = l.length := by simp [ByteArray.size]
  by_cases h64 : 64 < l.length
  · have HV : Hid (micV l = .tuple #[.int .i32 0, .int .i64 4]) := by
      show micV l = _
      unfold micV microV; rw [if_pos h64]
    generalize micV l = V at *
    go_enter Tryz.func39, Tryz.ntmps39
    go_wp2
    go_ret2
    exact ⟨by rw [HV.out]; rfl, rfl⟩
  · have hbl := beg_le l
    have HR : Hid (∀ i, i ≤ l.length → ∀ w, Calls Tryz.prog 60 #[.string ⟨l.toArray⟩, .int .i64 (i : Int)] w fun e w' => e = .returned (.int .i64 (enD l i : Nat)) ∧ w' = w) := fun i hi w => run_any l (by omega) i hi w
    have hle := enD_le l hbl
    by_cases h0 : l.length = 0
    · have : l = [] := List.eq_nil_of_length_eq_zero h0
      subst this
      have H1 : Hid (∀ w, Calls Tryz.prog 60 #[.string ⟨#[]⟩, .int .i64 0] w fun e w' => e = .returned (.int .i64 0) ∧ w' = w) := HR.out 0 (by simp)
      have HV : Hid (micV [] = .tuple #[.int .i32 0, .int .i64 22]) := rfl
      generalize micV [] = V at *
      clear HR hle hbl
      go_enter Tryz.func39, Tryz.ntmps39
      go_wp2_with (go_at_call 60; refine (H1.out _).mono ?_; rintro e w1 ⟨rfl, rfl⟩)
      go_ret2
      exact ⟨by rw [HV.out]; rfl, rfl⟩
    · have hpos : 0 < l.length := by omega
      have hm := minus_bt hpos
      have r0 : ∀ w, (Instr.index 9 (.string ⟨l.toArray⟩) (.int .i64 0)).run Tryz.prog w = .ok (.int .u8 (bt l 0)) w := run_bt l 0 hpos
      have HN := hid' (fun h => congrArg (fun p : Int × Int => Value.tuple #[.int .i32 p.1, .int .i64 p.2]) (mic_none (l := l) h64 h))
      have HF := hid' (fun h hp => mic_flat (l := l) h64 h hp)
      have HP := hid' (fun h hlt hp E hE => mic_point (l := l) h64 h hlt hp E hE)
      have HZ := hid' (fv_zero l)
      by_cases hmi : minus l = true
      · have hb : beg l = 1 := by unfold beg; rw [if_pos hmi]
        rw [hmi] at hm
        have hb0 : bt l 0 = 45 := by simpa using hm.symm
        rw [hb0] at r0
        clear hb0
        rw [hb] at HN HF HP HZ hle
        obtain ⟨e1, he1⟩ : ∃ e, enD l 1 = e := ⟨_, rfl⟩
        have H1 : Hid (∀ w, Calls Tryz.prog 60 #[.string ⟨l.toArray⟩, .int .i64 1] w fun e w' => e = .returned (.int .i64 (e1 : Nat)) ∧ w' = w) := fun w => by
          have := HR.out 1 (by omega) w
          rw [he1] at this
          exact this
        rw [he1] at HN HF HP hle
        by_cases hn : e1 = 1
        · subst hn
          have HV : Hid (micV l = .tuple #[.int .i32 0, .int .i64 22]) := HN.out rfl
          have H2 : Hid (∀ w, Calls Tryz.prog 60 #[.string ⟨l.toArray⟩, .int .i64 1] w fun e w' => e = .returned (.int .i64 1) ∧ w' = w) := H1
          generalize micV l = V at *
          clear HN HF HP HZ HR hb he1 hm hle H1
          go_enter Tryz.func39, Tryz.ntmps39
          go_wp2_with (go_at_call 60; refine (H2.out _).mono ?_; rintro e w1 ⟨rfl, rfl⟩)
          go_ret2
          exact ⟨by rw [HV.out]; rfl, rfl⟩
        · have hn' : ((e1 : Int) == 1) = false := by rw [beq_eq_false_iff_ne]; omega
          by_cases hp : ∃ h : e1 < l.length, l[e1] = 46
          · obtain ⟨hlt, hp46⟩ := hp
            obtain ⟨e2, he2⟩ : ∃ e, enD l (e1 + 1) = e := ⟨_, rfl⟩
            have hpt := HP.out hn hlt hp46 e2 he2
            have hle2 := enD_le l (i := e1 + 1) (by omega)
            have r1 := run_bt l e1 hlt
            have hb46 : bt l e1 = 46 := by rw [bt_get hlt, hp46]; rfl
            rw [hb46] at r1
            have H2 : Hid (∀ w, Calls Tryz.prog 60 #[.string ⟨l.toArray⟩, .int .i64 ((e1 : Int) + 1)] w fun e w' => e = .returned (.int .i64 (e2 : Nat)) ∧ w' = w) := fun w => by
              have := HR.out (e1 + 1) (by omega) w
              rw [he2] at this
              exact this
            rw [he2] at hle2
            clear he2 hb46 hp46 HN HF HP HR hb he1 hm
            by_cases c1 : e2 = e1 + 1
            · have HV : Hid (micV l = .tuple #[.int .i32 0, .int .i64 22]) := congrArg mT (hpt.1 (.inl c1))
              have H3 : Hid (∀ w, Calls Tryz.prog 60 #[.string ⟨l.toArray⟩, .int .i64 ((e1 : Int) + 1)] w fun e w' => e = .returned (.int .i64 ((e1 : Int) + 1)) ∧ w' = w) := by
                rw [c1] at H2
                exact H2
              generalize micV l = V at *
              clear hpt hle2 H2 c1 HZ
              go_enter Tryz.func39, Tryz.ntmps39
              go_upto_region 13 with (go_at_call 60; refine (H1.out _).mono ?_; rintro e w1 ⟨rfl, rfl⟩)
              go_wp2_with (go_at_call 60; refine (H3.out _).mono ?_; rintro e w2 ⟨rfl, rfl⟩)
              go_ret2
              exact ⟨by rw [HV.out]; rfl, rfl⟩
            · have c1' : ((e2 : Int) == (e1 : Int) + 1) = false := by rw [beq_eq_false_iff_ne]; omega
              by_cases c2 : e1 + 7 < e2
              · have HV : Hid (micV l = .tuple #[.int .i32 0, .int .i64 22]) := congrArg mT (hpt.1 (.inr (.inl c2)))
                generalize micV l = V at *
                clear hpt HZ
                go_enter Tryz.func39, Tryz.ntmps39
                go_upto_region 13 with (go_at_call 60; refine (H1.out _).mono ?_; rintro e w1 ⟨rfl, rfl⟩)
                go_wp2_with (go_at_call 60; refine (H2.out _).mono ?_; rintro e w2 ⟨rfl, rfl⟩)
                go_ret2
                exact ⟨by rw [HV.out]; rfl, rfl⟩
              · by_cases c3 : e2 = l.length
                · obtain ⟨M, hM⟩ : ∃ M, fv l l.length * 10 ^ (6 - (l.length - e1 - 1)) = M := ⟨_, rfl⟩
                  have HA := hid' hM
                  have hV := hpt.2 (by omega)
                  rw [hM] at hV
                  have HY : Hid (180000000 < M → micV l = mT (0, 21)) := fun h => congrArg mT (hV.trans (sgM_big h))
                  have HNN : Hid (¬ 180000000 < M → micV l = mT (-(M : Int), 0)) := fun h => congrArg mT (hV.trans ((sgM_ok h).trans (by rw [hmi]; rfl)))
                  generalize micV l = V at *
                  subst c3
                  clear hM hV hpt
                  have hd6 : ¬ ((e1 : Int) + 7 < (l.length : Int)) := by omega
                  go_enter Tryz.func39, Tryz.ntmps39
                  go_upto_region 13 with (go_at_call 60; refine (H1.out _).mono ?_; rintro e w1 ⟨rfl, rfl⟩)
                  go_wp2_with (go_at_call 60; refine (H2.out _).mono ?_; rintro e w3 ⟨rfl, rfl⟩)
                  go_loop [8, 9] (fun n j => ∃ k v : Nat, 1 ≤ k ∧ k ≤ l.length ∧ Hid (fv l k = v) ∧ v ≤ 180000000 ∧ n = .int .i64 (v : Int) ∧ j = .int .i64 (k : Int)) (fun _ j => l.length - (RowKit.intOf j).toNat)
                  case atStart => exact ⟨1, 0, by omega, by omega, HZ, by omega, rfl, rfl⟩
                  case round =>
                    obtain ⟨k, v, hk0, hk, hv, hv1, rfl, rfl⟩ := hrel
                    by_cases hlt : k < l.length
                    · have r1 := run_bt l k hlt
                      by_cases hd : isDg l[k] = true
                      · have HD := hid' (fun w => dig_l hlt hd w)
                        have hbb := hd
                        rw [dg_bt hlt] at hbb
                        have hb := of_decide_eq_true hbb
                        have ew : IntKind.u8.wrap (bt l k - 48) = bt l k - 48 := by rw [IntKind.wrap_u8]; omega
                        have hdv := fv_yes l hlt hd
                        rw [hv.out] at hdv
                        have HV := hid' hdv
                        have HL := hid' (fv_le l (k + 1))
                        clear hdv hd hbb
                        generalize bt l k = b at *
                        by_cases hbig : 180000000 < (v : Int) * 10 + (b - 48)
                        · have HY2 : Hid (V = mT (0, 21)) := HY.out (by have := HV.out; have := HL.out; have := pow_ge HA.out; omega)
                          go_wp2_with (go_at_call 61; refine (HD.out _).mono ?_; rintro e w2 ⟨rfl, rfl⟩)
                          go_ret2
                          exact ⟨by rw [HY2.out]; rfl, rfl⟩
                        · go_wp2_with (go_at_call 61; refine (HD.out _).mono ?_; rintro e w2 ⟨rfl, rfl⟩)
                          go_round
                          case rel => exact ⟨k + 1, fv l (k + 1), by omega, by omega, rfl, by have := HV.out; omega, by rw [HV.out], by go_num⟩
                          case measure => simp [RowKit.intOf]; omega
                      · have hd' : isDg l[k] = false := by simpa using hd
                        have HD := hid' (fun w => dig_l hlt hd' w)
                        have HV : Hid (fv l (k + 1) = v) := by
                          show fv l (k + 1) = v
                          rw [fv_no l hlt hd']; exact hv.out
                        clear hd hd'
                        generalize bt l k = b at *
                        go_wp2_with (go_at_call 61; refine (HD.out _).mono ?_; rintro e w2 ⟨rfl, rfl⟩)
                        go_round
                        case rel => exact ⟨k + 1, v, by omega, by omega, HV, by omega, rfl, by go_num⟩
                        case measure => simp [RowKit.intOf]; omega
                    · have HV : Hid (v * 10 ^ (6 - (l.length - e1 - 1)) = M) := by
                        show v * 10 ^ (6 - (l.length - e1 - 1)) = M
                        rw [← HA.out, ← hv.out, show k = l.length from by omega]
                      clear hv
                      have hkl : (k : Int) = l.length := by omega
                      obtain rfl : k = l.length := by omega
                      clear hkl hlt
                      go_wp2
                      go_loop [8, 11] (fun n j => ∃ q v : Nat, q ≤ 6 ∧ Hid (v * 10 ^ (6 - q) = M) ∧ v ≤ 180000000 ∧ n = .int .i64 (v : Int) ∧ j = .int .i64 (q : Int)) (fun _ j => 6 - (RowKit.intOf j).toNat)
                      case atStart => exact ⟨(l.length - e1 - 1), v, by omega, HV, by omega, rfl, by first | rfl | go_num⟩
                      case round =>
                        obtain ⟨q, v, hq, hv, hv1, rfl, rfl⟩ := hrel
                        by_cases hq6 : q < 6
                        · have HS := hid' (pow_step hv.out hq6)
                          by_cases hbig : 180000000 < (v : Int) * 10
                          · have HY2 : Hid (V = mT (0, 21)) := HY.out (by have := pow_ge HS.out; omega)
                            go_wp2
                            go_ret2
                            exact ⟨by rw [HY2.out]; rfl, rfl⟩
                          · go_wp2
                            go_round
                            case rel => exact ⟨q + 1, v * 10, by omega, HS, by omega, by go_num, by go_num⟩
                            case measure => simp [RowKit.intOf]; omega
                        · have HM : Hid (v = M) := by
                            show v = M
                            rw [← hv.out, show 6 - q = 0 from by omega, Nat.pow_zero, Nat.mul_one]
                          have HN2 := hid' (HNN.out (by rw [← HM.out]; omega))
                          go_wp2
                          go_ret2
                          exact ⟨by rw [HN2.out, ← HM.out]; rfl, rfl⟩
                · have HV : Hid (micV l = .tuple #[.int .i32 0, .int .i64 22]) := congrArg mT (hpt.1 (.inr (.inr c3)))
                  generalize micV l = V at *
                  clear hpt HZ
                  go_enter Tryz.func39, Tryz.ntmps39
                  go_upto_region 13 with (go_at_call 60; refine (H1.out _).mono ?_; rintro e w1 ⟨rfl, rfl⟩)
                  go_wp2_with (go_at_call 60; refine (H2.out _).mono ?_; rintro e w2 ⟨rfl, rfl⟩)
                  go_ret2
                  exact ⟨by rw [HV.out]; rfl, rfl⟩
          · have hf := HF.out hn (fun h e => hp ⟨h, e⟩)
            by_cases hel : e1 = l.length
            · obtain ⟨M, hM⟩ : ∃ M, fv l l.length * 10 ^ 6 = M := ⟨_, rfl⟩
              have HA : Hid (fv l l.length * 10 ^ (6 - 0) = M) := hM
              have hV := hf.2 hel
              rw [hM] at hV
              have HY : Hid (180000000 < M → micV l = mT (0, 21)) := fun h => congrArg mT (hV.trans (sgM_big h))
              have HNN : Hid (¬ 180000000 < M → micV l = mT (-(M : Int), 0)) := fun h => congrArg mT (hV.trans ((sgM_ok h).trans (by rw [hmi]; rfl)))
              generalize micV l = V at *
              clear hM hV HN HF HP HR hb he1 hm hf hp
              subst hel
              go_enter Tryz.func39, Tryz.ntmps39
              go_wp2_with (go_at_call 60; refine (H1.out _).mono ?_; rintro e w1 ⟨rfl, rfl⟩)
              go_loop [8, 9] (fun n j => ∃ k v : Nat, 1 ≤ k ∧ k ≤ l.length ∧ Hid (fv l k = v) ∧ v ≤ 180000000 ∧ n = .int .i64 (v : Int) ∧ j = .int .i64 (k : Int)) (fun _ j => l.length - (RowKit.intOf j).toNat)
              case atStart => exact ⟨1, 0, by omega, by omega, HZ, by omega, rfl, rfl⟩
              case round =>
                obtain ⟨k, v, hk0, hk, hv, hv1, rfl, rfl⟩ := hrel
                by_cases hlt : k < l.length
                · have r1 := run_bt l k hlt
                  by_cases hd : isDg l[k] = true
                  · have HD := hid' (fun w => dig_l hlt hd w)
                    have hbb := hd
                    rw [dg_bt hlt] at hbb
                    have hb := of_decide_eq_true hbb
                    have ew : IntKind.u8.wrap (bt l k - 48) = bt l k - 48 := by rw [IntKind.wrap_u8]; omega
                    have hdv := fv_yes l hlt hd
                    rw [hv.out] at hdv
                    have HV := hid' hdv
                    have HL := hid' (fv_le l (k + 1))
                    clear hdv hd hbb
                    generalize bt l k = b at *
                    by_cases hbig : 180000000 < (v : Int) * 10 + (b - 48)
                    · have HY2 : Hid (V = mT (0, 21)) := HY.out (by have := HV.out; have := HL.out; have := pow_ge HA.out; omega)
                      go_wp2_with (go_at_call 61; refine (HD.out _).mono ?_; rintro e w2 ⟨rfl, rfl⟩)
                      go_ret2
                      exact ⟨by rw [HY2.out]; rfl, rfl⟩
                    · go_wp2_with (go_at_call 61; refine (HD.out _).mono ?_; rintro e w2 ⟨rfl, rfl⟩)
                      go_round
                      case rel => exact ⟨k + 1, fv l (k + 1), by omega, by omega, rfl, by have := HV.out; omega, by rw [HV.out], by go_num⟩
                      case measure => simp [RowKit.intOf]; omega
                  · have hd' : isDg l[k] = false := by simpa using hd
                    have HD := hid' (fun w => dig_l hlt hd' w)
                    have HV : Hid (fv l (k + 1) = v) := by
                      show fv l (k + 1) = v
                      rw [fv_no l hlt hd']; exact hv.out
                    clear hd hd'
                    generalize bt l k = b at *
                    go_wp2_with (go_at_call 61; refine (HD.out _).mono ?_; rintro e w2 ⟨rfl, rfl⟩)
                    go_round
                    case rel => exact ⟨k + 1, v, by omega, by omega, HV, by omega, rfl, by go_num⟩
                    case measure => simp [RowKit.intOf]; omega
                · have HV : Hid (v * 10 ^ (6 - 0) = M) := by
                    show v * 10 ^ (6 - 0) = M
                    rw [← HA.out, ← hv.out, show k = l.length from by omega]
                  clear hv
                  have hkl : (k : Int) = l.length := by omega
                  obtain rfl : k = l.length := by omega
                  clear hkl hlt
                  go_wp2
                  go_loop [8, 11] (fun n j => ∃ q v : Nat, q ≤ 6 ∧ Hid (v * 10 ^ (6 - q) = M) ∧ v ≤ 180000000 ∧ n = .int .i64 (v : Int) ∧ j = .int .i64 (q : Int)) (fun _ j => 6 - (RowKit.intOf j).toNat)
                  case atStart => exact ⟨0, v, by omega, HV, by omega, rfl, by first | rfl | go_num⟩
                  case round =>
                    obtain ⟨q, v, hq, hv, hv1, rfl, rfl⟩ := hrel
                    by_cases hq6 : q < 6
                    · have HS := hid' (pow_step hv.out hq6)
                      by_cases hbig : 180000000 < (v : Int) * 10
                      · have HY2 : Hid (V = mT (0, 21)) := HY.out (by have := pow_ge HS.out; omega)
                        go_wp2
                        go_ret2
                        exact ⟨by rw [HY2.out]; rfl, rfl⟩
                      · go_wp2
                        go_round
                        case rel => exact ⟨q + 1, v * 10, by omega, HS, by omega, by go_num, by go_num⟩
                        case measure => simp [RowKit.intOf]; omega
                    · have HM : Hid (v = M) := by
                        show v = M
                        rw [← hv.out, show 6 - q = 0 from by omega, Nat.pow_zero, Nat.mul_one]
                      have HN2 := hid' (HNN.out (by rw [← HM.out]; omega))
                      go_wp2
                      go_ret2
                      exact ⟨by rw [HN2.out, ← HM.out]; rfl, rfl⟩
            · have HV : Hid (micV l = .tuple #[.int .i32 0, .int .i64 22]) := congrArg mT (hf.1 hel)
              have hlt : e1 < l.length := by omega
              have r1 := run_bt l e1 hlt
              have hb46 : (bt l e1 == 46) = false := by
                rw [beq_eq_false_iff_ne]
                intro e
                apply hp
                refine ⟨hlt, UInt8.toNat.inj ?_⟩
                rw [bt_get hlt] at e
                show _ = 46
                omega
              generalize bt l e1 = b1 at *
              generalize micV l = V at *
              clear HN HF HP HZ HR hb he1 hm hf hp
              go_enter Tryz.func39, Tryz.ntmps39
              go_wp2_with (go_at_call 60; refine (H1.out _).mono ?_; rintro e w1 ⟨rfl, rfl⟩)
              go_ret2
              exact ⟨by rw [HV.out]; rfl, rfl⟩
      · have hmf : minus l = false := by simpa using hmi
        have hb : beg l = 0 := by unfold beg; rw [if_neg hmi]
        rw [hmf] at hm
        have hb0 := hm.symm
        clear hm
        have hm := hb0
        clear hmi
        have hmi := hmf
        clear hmf
        generalize bt l 0 = b0 at *
        rw [hb] at HN HF HP HZ hle
        obtain ⟨e1, he1⟩ : ∃ e, enD l 0 = e := ⟨_, rfl⟩
        have H1 : Hid (∀ w, Calls Tryz.prog 60 #[.string ⟨l.toArray⟩, .int .i64 0] w fun e w' => e = .returned (.int .i64 (e1 : Nat)) ∧ w' = w) := fun w => by
          have := HR.out 0 (by omega) w
          rw [he1] at this
          exact this
        rw [he1] at HN HF HP hle
        by_cases hn : e1 = 0
        · subst hn
          have HV : Hid (micV l = .tuple #[.int .i32 0, .int .i64 22]) := HN.out rfl
          have H2 : Hid (∀ w, Calls Tryz.prog 60 #[.string ⟨l.toArray⟩, .int .i64 0] w fun e w' => e = .returned (.int .i64 0) ∧ w' = w) := H1
          generalize micV l = V at *
          clear HN HF HP HZ HR hb he1 hm hle H1
          go_enter Tryz.func39, Tryz.ntmps39
          go_wp2_with (go_at_call 60; refine (H2.out _).mono ?_; rintro e w1 ⟨rfl, rfl⟩)
          go_ret2
          exact ⟨by rw [HV.out]; rfl, rfl⟩
        · have hn' : ((e1 : Int) == 0) = false := by rw [beq_eq_false_iff_ne]; omega
          by_cases hp : ∃ h : e1 < l.length, l[e1] = 46
          · obtain ⟨hlt, hp46⟩ := hp
            obtain ⟨e2, he2⟩ : ∃ e, enD l (e1 + 1) = e := ⟨_, rfl⟩
            have hpt := HP.out hn hlt hp46 e2 he2
            have hle2 := enD_le l (i := e1 + 1) (by omega)
            have r1 := run_bt l e1 hlt
            have hb46 : bt l e1 = 46 := by rw [bt_get hlt, hp46]; rfl
            rw [hb46] at r1
            have H2 : Hid (∀ w, Calls Tryz.prog 60 #[.string ⟨l.toArray⟩, .int .i64 ((e1 : Int) + 1)] w fun e w' => e = .returned (.int .i64 (e2 : Nat)) ∧ w' = w) := fun w => by
              have := HR.out (e1 + 1) (by omega) w
              rw [he2] at this
              exact this
            rw [he2] at hle2
            clear he2 hb46 hp46 HN HF HP HR hb he1 hm
            by_cases c1 : e2 = e1 + 1
            · have HV : Hid (micV l = .tuple #[.int .i32 0, .int .i64 22]) := congrArg mT (hpt.1 (.inl c1))
              have H3 : Hid (∀ w, Calls Tryz.prog 60 #[.string ⟨l.toArray⟩, .int .i64 ((e1 : Int) + 1)] w fun e w' => e = .returned (.int .i64 ((e1 : Int) + 1)) ∧ w' = w) := by
                rw [c1] at H2
                exact H2
              generalize micV l = V at *
              clear hpt hle2 H2 c1 HZ
              go_enter Tryz.func39, Tryz.ntmps39
              go_upto_region 13 with (go_at_call 60; refine (H1.out _).mono ?_; rintro e w1 ⟨rfl, rfl⟩)
              go_wp2_with (go_at_call 60; refine (H3.out _).mono ?_; rintro e w2 ⟨rfl, rfl⟩)
              go_ret2
              exact ⟨by rw [HV.out]; rfl, rfl⟩
            · have c1' : ((e2 : Int) == (e1 : Int) + 1) = false := by rw [beq_eq_false_iff_ne]; omega
              by_cases c2 : e1 + 7 < e2
              · have HV : Hid (micV l = .tuple #[.int .i32 0, .int .i64 22]) := congrArg mT (hpt.1 (.inr (.inl c2)))
                generalize micV l = V at *
                clear hpt HZ
                go_enter Tryz.func39, Tryz.ntmps39
                go_upto_region 13 with (go_at_call 60; refine (H1.out _).mono ?_; rintro e w1 ⟨rfl, rfl⟩)
                go_wp2_with (go_at_call 60; refine (H2.out _).mono ?_; rintro e w2 ⟨rfl, rfl⟩)
                go_ret2
                exact ⟨by rw [HV.out]; rfl, rfl⟩
              · by_cases c3 : e2 = l.length
                · obtain ⟨M, hM⟩ : ∃ M, fv l l.length * 10 ^ (6 - (l.length - e1 - 1)) = M := ⟨_, rfl⟩
                  have HA := hid' hM
                  have hV := hpt.2 (by omega)
                  rw [hM] at hV
                  have HY : Hid (180000000 < M → micV l = mT (0, 21)) := fun h => congrArg mT (hV.trans (sgM_big h))
                  have HNN : Hid (¬ 180000000 < M → micV l = mT ((M : Int), 0)) := fun h => congrArg mT (hV.trans ((sgM_ok h).trans (by rw [hmi]; rfl)))
                  generalize micV l = V at *
                  subst c3
                  clear hM hV hpt
                  have hd6 : ¬ ((e1 : Int) + 7 < (l.length : Int)) := by omega
                  go_enter Tryz.func39, Tryz.ntmps39
                  go_upto_region 13 with (go_at_call 60; refine (H1.out _).mono ?_; rintro e w1 ⟨rfl, rfl⟩)
                  go_wp2_with (go_at_call 60; refine (H2.out _).mono ?_; rintro e w3 ⟨rfl, rfl⟩)
                  go_loop [8, 9] (fun n j => ∃ k v : Nat, 0 ≤ k ∧ k ≤ l.length ∧ Hid (fv l k = v) ∧ v ≤ 180000000 ∧ n = .int .i64 (v : Int) ∧ j = .int .i64 (k : Int)) (fun _ j => l.length - (RowKit.intOf j).toNat)
                  case atStart => exact ⟨0, 0, by omega, by omega, HZ, by omega, rfl, rfl⟩
                  case round =>
                    obtain ⟨k, v, hk0, hk, hv, hv1, rfl, rfl⟩ := hrel
                    by_cases hlt : k < l.length
                    · have r1 := run_bt l k hlt
                      by_cases hd : isDg l[k] = true
                      · have HD := hid' (fun w => dig_l hlt hd w)
                        have hbb := hd
                        rw [dg_bt hlt] at hbb
                        have hb := of_decide_eq_true hbb
                        have ew : IntKind.u8.wrap (bt l k - 48) = bt l k - 48 := by rw [IntKind.wrap_u8]; omega
                        have hdv := fv_yes l hlt hd
                        rw [hv.out] at hdv
                        have HV := hid' hdv
                        have HL := hid' (fv_le l (k + 1))
                        clear hdv hd hbb
                        generalize bt l k = b at *
                        by_cases hbig : 180000000 < (v : Int) * 10 + (b - 48)
                        · have HY2 : Hid (V = mT (0, 21)) := HY.out (by have := HV.out; have := HL.out; have := pow_ge HA.out; omega)
                          go_wp2_with (go_at_call 61; refine (HD.out _).mono ?_; rintro e w2 ⟨rfl, rfl⟩)
                          go_ret2
                          exact ⟨by rw [HY2.out]; rfl, rfl⟩
                        · go_wp2_with (go_at_call 61; refine (HD.out _).mono ?_; rintro e w2 ⟨rfl, rfl⟩)
                          go_round
                          case rel => exact ⟨k + 1, fv l (k + 1), by omega, by omega, rfl, by have := HV.out; omega, by rw [HV.out], by go_num⟩
                          case measure => simp [RowKit.intOf]; omega
                      · have hd' : isDg l[k] = false := by simpa using hd
                        have HD := hid' (fun w => dig_l hlt hd' w)
                        have HV : Hid (fv l (k + 1) = v) := by
                          show fv l (k + 1) = v
                          rw [fv_no l hlt hd']; exact hv.out
                        clear hd hd'
                        generalize bt l k = b at *
                        go_wp2_with (go_at_call 61; refine (HD.out _).mono ?_; rintro e w2 ⟨rfl, rfl⟩)
                        go_round
                        case rel => exact ⟨k + 1, v, by omega, by omega, HV, by omega, rfl, by go_num⟩
                        case measure => simp [RowKit.intOf]; omega
                    · have HV : Hid (v * 10 ^ (6 - (l.length - e1 - 1)) = M) := by
                        show v * 10 ^ (6 - (l.length - e1 - 1)) = M
                        rw [← HA.out, ← hv.out, show k = l.length from by omega]
                      clear hv
                      have hkl : (k : Int) = l.length := by omega
                      obtain rfl : k = l.length := by omega
                      clear hkl hlt
                      go_wp2
                      go_loop [8, 11] (fun n j => ∃ q v : Nat, q ≤ 6 ∧ Hid (v * 10 ^ (6 - q) = M) ∧ v ≤ 180000000 ∧ n = .int .i64 (v : Int) ∧ j = .int .i64 (q : Int)) (fun _ j => 6 - (RowKit.intOf j).toNat)
                      case atStart => exact ⟨(l.length - e1 - 1), v, by omega, HV, by omega, rfl, by first | rfl | go_num⟩
                      case round =>
                        obtain ⟨q, v, hq, hv, hv1, rfl, rfl⟩ := hrel
                        by_cases hq6 : q < 6
                        · have HS := hid' (pow_step hv.out hq6)
                          by_cases hbig : 180000000 < (v : Int) * 10
                          · have HY2 : Hid (V = mT (0, 21)) := HY.out (by have := pow_ge HS.out; omega)
                            go_wp2
                            go_ret2
                            exact ⟨by rw [HY2.out]; rfl, rfl⟩
                          · go_wp2
                            go_round
                            case rel => exact ⟨q + 1, v * 10, by omega, HS, by omega, by go_num, by go_num⟩
                            case measure => simp [RowKit.intOf]; omega
                        · have HM : Hid (v = M) := by
                            show v = M
                            rw [← hv.out, show 6 - q = 0 from by omega, Nat.pow_zero, Nat.mul_one]
                          have HN2 := hid' (HNN.out (by rw [← HM.out]; omega))
                          go_wp2
                          go_ret2
                          exact ⟨by rw [HN2.out, ← HM.out]; rfl, rfl⟩
                · have HV : Hid (micV l = .tuple #[.int .i32 0, .int .i64 22]) := congrArg mT (hpt.1 (.inr (.inr c3)))
                  generalize micV l = V at *
                  clear hpt HZ
                  go_enter Tryz.func39, Tryz.ntmps39
                  go_upto_region 13 with (go_at_call 60; refine (H1.out _).mono ?_; rintro e w1 ⟨rfl, rfl⟩)
                  go_wp2_with (go_at_call 60; refine (H2.out _).mono ?_; rintro e w2 ⟨rfl, rfl⟩)
                  go_ret2
                  exact ⟨by rw [HV.out]; rfl, rfl⟩
          · have hf := HF.out hn (fun h e => hp ⟨h, e⟩)
            by_cases hel : e1 = l.length
            · obtain ⟨M, hM⟩ : ∃ M, fv l l.length * 10 ^ 6 = M := ⟨_, rfl⟩
              have HA : Hid (fv l l.length * 10 ^ (6 - 0) = M) := hM
              have hV := hf.2 hel
              rw [hM] at hV
              have HY : Hid (180000000 < M → micV l = mT (0, 21)) := fun h => congrArg mT (hV.trans (sgM_big h))
              have HNN : Hid (¬ 180000000 < M → micV l = mT ((M : Int), 0)) := fun h => congrArg mT (hV.trans ((sgM_ok h).trans (by rw [hmi]; rfl)))
              generalize micV l = V at *
              clear hM hV HN HF HP HR hb he1 hm hf hp
              subst hel
              go_enter Tryz.func39, Tryz.ntmps39
              go_wp2_with (go_at_call 60; refine (H1.out _).mono ?_; rintro e w1 ⟨rfl, rfl⟩)
              go_loop [8, 9] (fun n j => ∃ k v : Nat, 0 ≤ k ∧ k ≤ l.length ∧ Hid (fv l k = v) ∧ v ≤ 180000000 ∧ n = .int .i64 (v : Int) ∧ j = .int .i64 (k : Int)) (fun _ j => l.length - (RowKit.intOf j).toNat)
              case atStart => exact ⟨0, 0, by omega, by omega, HZ, by omega, rfl, rfl⟩
              case round =>
                obtain ⟨k, v, hk0, hk, hv, hv1, rfl, rfl⟩ := hrel
                by_cases hlt : k < l.length
                · have r1 := run_bt l k hlt
                  by_cases hd : isDg l[k] = true
                  · have HD := hid' (fun w => dig_l hlt hd w)
                    have hbb := hd
                    rw [dg_bt hlt] at hbb
                    have hb := of_decide_eq_true hbb
                    have ew : IntKind.u8.wrap (bt l k - 48) = bt l k - 48 := by rw [IntKind.wrap_u8]; omega
                    have hdv := fv_yes l hlt hd
                    rw [hv.out] at hdv
                    have HV := hid' hdv
                    have HL := hid' (fv_le l (k + 1))
                    clear hdv hd hbb
                    generalize bt l k = b at *
                    by_cases hbig : 180000000 < (v : Int) * 10 + (b - 48)
                    · have HY2 : Hid (V = mT (0, 21)) := HY.out (by have := HV.out; have := HL.out; have := pow_ge HA.out; omega)
                      go_wp2_with (go_at_call 61; refine (HD.out _).mono ?_; rintro e w2 ⟨rfl, rfl⟩)
                      go_ret2
                      exact ⟨by rw [HY2.out]; rfl, rfl⟩
                    · go_wp2_with (go_at_call 61; refine (HD.out _).mono ?_; rintro e w2 ⟨rfl, rfl⟩)
                      go_round
                      case rel => exact ⟨k + 1, fv l (k + 1), by omega, by omega, rfl, by have := HV.out; omega, by rw [HV.out], by go_num⟩
                      case measure => simp [RowKit.intOf]; omega
                  · have hd' : isDg l[k] = false := by simpa using hd
                    have HD := hid' (fun w => dig_l hlt hd' w)
                    have HV : Hid (fv l (k + 1) = v) := by
                      show fv l (k + 1) = v
                      rw [fv_no l hlt hd']; exact hv.out
                    clear hd hd'
                    generalize bt l k = b at *
                    go_wp2_with (go_at_call 61; refine (HD.out _).mono ?_; rintro e w2 ⟨rfl, rfl⟩)
                    go_round
                    case rel => exact ⟨k + 1, v, by omega, by omega, HV, by omega, rfl, by go_num⟩
                    case measure => simp [RowKit.intOf]; omega
                · have HV : Hid (v * 10 ^ (6 - 0) = M) := by
                    show v * 10 ^ (6 - 0) = M
                    rw [← HA.out, ← hv.out, show k = l.length from by omega]
                  clear hv
                  have hkl : (k : Int) = l.length := by omega
                  obtain rfl : k = l.length := by omega
                  clear hkl hlt
                  go_wp2
                  go_loop [8, 11] (fun n j => ∃ q v : Nat, q ≤ 6 ∧ Hid (v * 10 ^ (6 - q) = M) ∧ v ≤ 180000000 ∧ n = .int .i64 (v : Int) ∧ j = .int .i64 (q : Int)) (fun _ j => 6 - (RowKit.intOf j).toNat)
                  case atStart => exact ⟨0, v, by omega, HV, by omega, rfl, by first | rfl | go_num⟩
                  case round =>
                    obtain ⟨q, v, hq, hv, hv1, rfl, rfl⟩ := hrel
                    by_cases hq6 : q < 6
                    · have HS := hid' (pow_step hv.out hq6)
                      by_cases hbig : 180000000 < (v : Int) * 10
                      · have HY2 : Hid (V = mT (0, 21)) := HY.out (by have := pow_ge HS.out; omega)
                        go_wp2
                        go_ret2
                        exact ⟨by rw [HY2.out]; rfl, rfl⟩
                      · go_wp2
                        go_round
                        case rel => exact ⟨q + 1, v * 10, by omega, HS, by omega, by go_num, by go_num⟩
                        case measure => simp [RowKit.intOf]; omega
                    · have HM : Hid (v = M) := by
                        show v = M
                        rw [← hv.out, show 6 - q = 0 from by omega, Nat.pow_zero, Nat.mul_one]
                      have HN2 := hid' (HNN.out (by rw [← HM.out]; omega))
                      go_wp2
                      go_ret2
                      exact ⟨by rw [HN2.out, ← HM.out]; rfl, rfl⟩
            · have HV : Hid (micV l = .tuple #[.int .i32 0, .int .i64 22]) := congrArg mT (hf.1 hel)
              have hlt : e1 < l.length := by omega
              have r1 := run_bt l e1 hlt
              have hb46 : (bt l e1 == 46) = false := by
                rw [beq_eq_false_iff_ne]
                intro e
                apply hp
                refine ⟨hlt, UInt8.toNat.inj ?_⟩
                rw [bt_get hlt] at e
                show _ = 46
                omega
              generalize bt l e1 = b1 at *
              generalize micV l = V at *
              clear HN HF HP HZ HR hb he1 hm hf hp
              go_enter Tryz.func39, Tryz.ntmps39
              go_wp2_with (go_at_call 60; refine (H1.out _).mono ?_; rintro e w1 ⟨rfl, rfl⟩)
              go_ret2
              exact ⟨by rw [HV.out]; rfl, rfl⟩
end Go.Proofs.YtmkechhjgdanmaaGreatDoor
