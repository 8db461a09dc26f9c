/- The library reads the text -1.5: walked once, for every world. -/
import Derived.Test.YtmkechhjgdanmaaGreatDoorBase
import Derived.Test.YtmkechhjgdanmaaGreatDoorKRun
import Derived.Laws.FloatArith
import Derived.KernelRfl
namespace Go.Proofs.YtmkechhjgdanmaaGreatDoor
open Go.RowKit Go.Sort

set_option maxRecDepth 20000 in
set_option maxHeartbeats 1600000 in
theorem lv173 (w : World) : Calls Tryz.prog 173 #[.string ⟨#[49, 46, 53]⟩, .string ⟨#[105, 110, 102, 105, 110, 105, 116, 121]⟩] w fun e w' => e = .returned (.int .i64 0) ∧ w' = w := by
  go_enter Tryz.func173, Tryz.ntmps173
  go_wp2
  go_rounds 1
  go_ret
  exact ⟨rfl, rfl⟩
set_option maxRecDepth 20000 in
set_option maxHeartbeats 1600000 in
theorem lv133 (w : World) : Calls Tryz.prog 133 #[.string ⟨#[45, 49, 46, 53]⟩] w fun e w' => e = .returned (.tuple #[.float .f64 0, .int .i64 0, .bool false]) ∧ w' = w := by
  go_enter Tryz.func133, Tryz.ntmps133
  go_wp2_with (go_at_call 173; refine (lv173 _).mono ?_; rintro e w' ⟨rfl, rfl⟩)
  go_ret3
  exact ⟨rfl, rfl⟩
theorem lv134 (w : World) : Calls Tryz.prog 134 #[.string ⟨#[45, 49, 46, 53]⟩] w fun e w' => e = .returned (.tuple #[.int .u64 15, .int .i64 (-1), .bool true, .bool false, .bool false, .int .i64 4, .bool true]) ∧ w' = w :=
  calls_run 600 Tryz.func134 (fun cs => by kernel_rfl) (fun cs => by kernel_rfl)
theorem neg15 (w : World) : (Op.unary .neg (.float .f64 (floatOfInt .f64 15))).run Tryz.prog w = .ok (.float .f64 13848005904210853888) w := by
  show Result.ok (Value.float .f64 (Op.negFloat .f64 (floatOfInt .f64 15))) w = _
  rw [show Op.negFloat .f64 (floatOfInt .f64 15) = 13848005904210853888 from by decide]
set_option maxRecDepth 20000 in
set_option maxHeartbeats 1600000 in
theorem lv144 (w : World) (h6 : w.cell? ⟨6, 0, none⟩ = some (.int .u64 52)) (b o c : Nat) (sp : Option Nat) (h10 : w.cell? ⟨10, 0, none⟩ = some (.slice (some ⟨b, o, sp⟩) 23 c)) (h1 : w.cell? ⟨b, o + 1, none⟩ = some (.float .f64 4621819117588971520)) :
    Calls Tryz.prog 144 #[.int .u64 15, .int .i64 (-1), .bool true] w fun e w' => e = .returned (.tuple #[.float .f64 13832806255468478464, .bool true]) ∧ w' = w := by
  have e1 : ∀ w, (binOp .quo 23 (.float .f64 13848005904210853888) (.float .f64 4621819117588971520)).run Tryz.prog w = .ok (.float .f64 13832806255468478464) w := fun w => run_float_arith w .quo 23 .f64 _ _ _ (by decide)
  have e2 := neg15
  go_enter Tryz.func144, Tryz.ntmps144
  go_wp2
  go_ret2
  exact ⟨rfl, rfl⟩
theorem lv142 (w : World) : Calls Tryz.prog 142 #[.bool true] w fun e w' => e = .returned (.int .u64 1) ∧ w' = w :=
  calls_run 60 Tryz.func142 (fun cs => by kernel_rfl) (fun cs => by kernel_rfl)
/-- The variables that the library reads here. -/
structure LvP (w : World) : Prop where
  h3 : w.cell? ⟨3, 0, none⟩ = some (.bool true)
  h6 : w.cell? ⟨6, 0, none⟩ = some (.int .u64 52)
  h10 : ∃ b o c sp, w.cell? ⟨10, 0, none⟩ = some (.slice (some ⟨b, o, sp⟩) 23 c) ∧ w.cell? ⟨b, o + 1, none⟩ = some (.float .f64 4621819117588971520)
set_option maxRecDepth 20000 in
set_option maxHeartbeats 1600000 in
theorem lv104 (w : World) (h : LvP w) : Calls Tryz.prog 104 #[.string ⟨#[45, 49, 46, 53]⟩] w fun e w' => e = .returned (.tuple #[.float .f64 13832806255468478464, .int .i64 4, .nilIface]) ∧ w' = w := by
  obtain ⟨h3, h6, b, o, c, sp, h10, h1⟩ := h
  have H := hid' (lv144 w h6 b o c sp h10 h1)
  clear h6 h10 h1
  go_enter Tryz.func104, Tryz.ntmps104
  go_wp2_with (first
    | (go_at_call 133; refine (lv133 _).mono ?_; rintro e w' ⟨rfl, rfl⟩)
    | (go_at_call 134; refine (lv134 _).mono ?_; rintro e w' ⟨rfl, rfl⟩)
    | (go_at_call 142; refine (lv142 _).mono ?_; rintro e w' ⟨rfl, rfl⟩)
    | (go_at_call 144; refine H.out.mono ?_; rintro e w' ⟨rfl, rfl⟩))
  go_ret3
  exact ⟨rfl, rfl⟩
set_option maxRecDepth 20000 in
set_option maxHeartbeats 1600000 in
theorem lv82 (w : World) (h : LvP w) : Calls Tryz.prog 82 #[.string ⟨#[45, 49, 46, 53]⟩, .int .i64 64] w fun e w' => e = .returned (.tuple #[.float .f64 13832806255468478464, .int .i64 4, .nilIface]) ∧ w' = w := by
  go_enter Tryz.func82, Tryz.ntmps82
  go_wp2_with (go_at_call 104; refine (lv104 _ h).mono ?_; rintro e w' ⟨rfl, rfl⟩)
  go_ret3
  exact ⟨rfl, rfl⟩
set_option maxRecDepth 20000 in
set_option maxHeartbeats 1600000 in
theorem lv66 (w : World) (h : LvP w) : Calls Tryz.prog 66 #[.string ⟨#[45, 49, 46, 53]⟩, .int .i64 64] w fun e w' => e = .returned (.tuple #[.float .f64 13832806255468478464, .nilIface]) ∧ w' = w := by
  go_enter Tryz.func66, Tryz.ntmps66
  go_wp2_with (go_at_call 82; refine (lv82 _ h).mono ?_; rintro e w' ⟨rfl, rfl⟩)
  go_ret2
  exact ⟨rfl, rfl⟩
set_option maxRecDepth 20000 in
set_option maxHeartbeats 1600000 in
theorem lv53 (w : World) (h : LvP w) : Calls Tryz.prog 53 #[.string ⟨#[45, 49, 46, 53]⟩, .int .i64 64] w fun e w' => e = .returned (.tuple #[.float .f64 13832806255468478464, .nilIface]) ∧ w' = w := by
  go_enter Tryz.func53, Tryz.ntmps53
  go_wp2_with (go_at_call 66; refine (lv66 _ h).mono ?_; rintro e w' ⟨rfl, rfl⟩)
  go_ret2
  exact ⟨rfl, rfl⟩
end Go.Proofs.YtmkechhjgdanmaaGreatDoor
