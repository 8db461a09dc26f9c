/- The widths, run by the kernel. -/
import Derived.Test.YtomklacjaadcaaaDoorKRun
namespace Go.Proofs.YtomklacjaadcaaaDoor
open Go.RowKit Go.Sort

theorem width75 (w : World) : Calls Tryd.prog 75 #[] w fun e w' => e = .returned (.int .i64 2) ∧ w' = w :=
  calls_run 200 Tryd.func75 (fun cs => by kernel_rfl) (fun cs => by kernel_rfl)
theorem width77 (w : World) : Calls Tryd.prog 77 #[] w fun e w' => e = .returned (.int .i64 1) ∧ w' = w :=
  calls_run 200 Tryd.func77 (fun cs => by kernel_rfl) (fun cs => by kernel_rfl)
theorem width78 (w : World) : Calls Tryd.prog 78 #[] w fun e w' => e = .returned (.int .i64 1) ∧ w' = w :=
  calls_run 200 Tryd.func78 (fun cs => by kernel_rfl) (fun cs => by kernel_rfl)
theorem width79 (w : World) : Calls Tryd.prog 79 #[] w fun e w' => e = .returned (.int .i64 2) ∧ w' = w :=
  calls_run 200 Tryd.func79 (fun cs => by kernel_rfl) (fun cs => by kernel_rfl)
theorem width80 (w : World) : Calls Tryd.prog 80 #[] w fun e w' => e = .returned (.int .i64 4) ∧ w' = w :=
  calls_run 400 Tryd.func80 (fun cs => by kernel_rfl) (fun cs => by kernel_rfl)
theorem width81 (w : World) : Calls Tryd.prog 81 #[] w fun e w' => e = .returned (.int .i64 4) ∧ w' = w :=
  calls_run 400 Tryd.func81 (fun cs => by kernel_rfl) (fun cs => by kernel_rfl)
theorem width82 (w : World) : Calls Tryd.prog 82 #[] w fun e w' => e = .returned (.int .i64 8) ∧ w' = w :=
  calls_run 800 Tryd.func82 (fun cs => by kernel_rfl) (fun cs => by kernel_rfl)
theorem width83 (w : World) : Calls Tryd.prog 83 #[] w fun e w' => e = .returned (.int .i64 8) ∧ w' = w :=
  calls_run 800 Tryd.func83 (fun cs => by kernel_rfl) (fun cs => by kernel_rfl)
theorem width85 (w : World) : Calls Tryd.prog 85 #[] w fun e w' => e = .returned (.int .i64 1) ∧ w' = w :=
  calls_run 200 Tryd.func85 (fun cs => by kernel_rfl) (fun cs => by kernel_rfl)
end Go.Proofs.YtomklacjaadcaaaDoor
