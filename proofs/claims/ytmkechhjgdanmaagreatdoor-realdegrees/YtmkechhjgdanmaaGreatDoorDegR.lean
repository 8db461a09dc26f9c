/- Contracts of the reference's reading of degrees. -/
import Derived.Test.YtmkechhjgdanmaaGreatDoorDegQ
namespace Go.Proofs.YtmkechhjgdanmaaGreatDoor
open Go.RowKit Go.Sort Go.Lib

set_option maxRecDepth 20000 in
set_option maxHeartbeats 1600000 in
theorem dig_any (b : Int) (hb : 0 ≤ b ∧ b ≤ 255) (w : World) : Calls Tryz.prog 61 #[.int .u8 b] w fun e w' => e = .returned (.bool (decide (48 ≤ b ∧ b ≤ 57))) ∧ w' = w := by
  by_cases h1 : 48 ≤ b
  · by_cases h2 : b ≤ 57
    · have e : decide (48 ≤ b ∧ b ≤ 57) = true := by simp [h1, h2]
      rw [e]
      clear e
      go_enter Tryz.func61, Tryz.ntmps61
      go_wp2
      go_ret
      exact ⟨rfl, rfl⟩
    · have e : decide (48 ≤ b ∧ b ≤ 57) = false := by simp; omega
      rw [e]
      clear e
      go_enter Tryz.func61, Tryz.ntmps61
      go_wp2
      go_ret
      exact ⟨rfl, rfl⟩
  · have e : decide (48 ≤ b ∧ b ≤ 57) = false := by simp; omega
    rw [e]
    clear e
    go_enter Tryz.func61, Tryz.ntmps61
    go_wp2
    go_ret
    exact ⟨rfl, rfl⟩
theorem dig_l {l : List UInt8} {k : Nat} (h : k < l.length) {d : Bool} (hd : isDg l[k] = d) (w : World) : Calls Tryz.prog 61 #[.int .u8 (bt l k)] w fun e w' => e = .returned (.bool d) ∧ w' = w := by
  have := dig_any (bt l k) (bt_bd l k) w
  rw [← dg_bt h, hd] at this
  exact this
set_option maxRecDepth 20000 in
set_option maxHeartbeats 1600000 in
theorem run_any (l : List UInt8) (hl : l.length ≤ 1000) (i : Nat) (hi : i ≤ l.length) (w : World) : Calls Tryz.prog 60 #[.string ⟨l.toArray⟩, .int .i64 (i : Int)] w fun e w' => e = .returned (.int .i64 (enD l i : Nat)) ∧ w' = w := by
  have hsz : (⟨l.toArray⟩ : ByteArray).size = l.length := by simp [ByteArray.size]

  obtain ⟨E, hE⟩ : ∃ E, enD l i = E := ⟨_, rfl⟩
  have HE := hid' hE
  rw [hE]
  clear hE
  go_enter Tryz.func60, Tryz.ntmps60
  go_wp2
  go_loop [1] (fun n => ∃ k : Nat, k ≤ l.length ∧ Hid (enD l k = E) ∧ n = .int .i64 (k : Int)) (fun n => l.length - (RowKit.intOf n).toNat)
  case atStart => exact ⟨i, hi, HE.out, rfl⟩
  case round =>
    obtain ⟨k, hk, hv, rfl⟩ := hrel
    by_cases hlt : k < l.length
    · have r1 := run_bt l k hlt
      by_cases hd : isDg l[k] = true
      · have HD := hid' (fun w => dig_l hlt hd w)
        have HV : Hid (enD l (k + 1) = E) := by
          show enD l (k + 1) = E
          rw [← enD_yes l hlt hd]; exact hv.out
        clear hd
        generalize bt l k = b at *
        go_wp2_with (go_at_call 61; refine (HD.out _).mono ?_; rintro e w1 ⟨rfl, rfl⟩)
        go_round
        case rel => exact ⟨k + 1, by omega, HV, by go_num⟩
        case measure => simp [RowKit.intOf]; omega
      · have hd' : isDg l[k] = false := by simpa using hd
        have HD := hid' (fun w => dig_l hlt hd' w)
        have HV : Hid (k = E) := by
          show k = E
          rw [← hv.out, enD_no l hlt hd']
        clear hd hd'
        generalize bt l k = b at *
        go_wp2_with (go_at_call 61; refine (HD.out _).mono ?_; rintro e w1 ⟨rfl, rfl⟩)
        go_ret
        exact ⟨by have := HV.out; subst this; rfl, rfl⟩
    · have HV : Hid (k = E) := by
        show k = E
        rw [← hv.out, enD_end l hlt]
      go_wp2
      go_ret
      exact ⟨by have := HV.out; subst this; rfl, rfl⟩
end Go.Proofs.YtmkechhjgdanmaaGreatDoor
