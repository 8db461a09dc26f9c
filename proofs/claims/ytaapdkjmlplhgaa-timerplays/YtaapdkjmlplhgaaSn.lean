/- slices.SortFunc of no dues at all. -/
import Derived.Test.YtaapdkjmlplhgaaShelf
import Derived.Test.YtaapdkjmlplhgaaBa
set_option linter.unusedSimpArgs false
set_option linter.unusedVariables false
namespace Go.Proofs.Ytaapdkjmlplhgaa
open Go.RowKit Go.Sort Go.Shelf
theorem ins_none (fv : Value) (w : World) : Calls Try.prog 52 #[.slice none 0 0, .int .i64 0, .int .i64 0, fv] w fun e w' => e = .returned (.tuple #[]) ∧ w' = w := by
  go_enter Try.func52, Try.ntmps52
  go_wp2
  go_loopw [8] (fun v wr => v = .int .i64 1 ∧ wr = w) (fun _ _ => 0)
  case atStart => exact ⟨rfl, rfl⟩
  case round =>
    obtain ⟨rfl, rfl⟩ := hrel
    go_wp2
    go_end0
    exact ⟨rfl, rfl⟩
theorem pdq_none (k : Int) (fv : Value) (w : World) : Calls Try.prog 50 #[.slice none 0 0, .int .i64 0, .int .i64 0, .int .i64 k, fv] w fun e w' => e = .returned (.tuple #[]) ∧ w' = w := by
  have IN := hid0 (ins_none fv w)
  go_enter Try.func50, Try.ntmps50
  go_wp2
  go_loopw [1, 2] (fun a b wr => a = .int .i64 0 ∧ b = .int .i64 0 ∧ wr = w) (fun _ _ _ => 0)
  case atStart => exact ⟨rfl, rfl, rfl⟩
  case round =>
    obtain ⟨rfl, rfl, rfl⟩ := hrel
    go_wp2_with fail
    refine IN.out.mono ?_
    rintro e w1 ⟨rfl, hw⟩
    cases hw
    go_wp2
    refine bodyPost_ret (results_none rfl _ _ _) rfl ?_
    exact ⟨rfl, rfl⟩
theorem sortfunc_none (fv : Value) (w : World) : Calls Try.prog 44 #[.slice none 0 0, fv] w fun e w' => e = .returned (.tuple #[]) ∧ w' = w := by
  have BL : Hid (Calls Try.prog 51 #[.int .u64 0] w fun e w' => e = .returned (.int .i64 (Lib.bitLen (Int.toNat 0) : Nat)) ∧ w' = w) := (Any.bits_Len (SlLaysF0.n15.bits (P := Try.prog) (ρ := Try.laysSort_ren) { Try.laysSort with }) (0 : Int) w (by omega) (by omega))
  have PD := fun k => hid0 (pdq_none k fv w)
  go_enter Try.func44, Try.ntmps44
  go_wp2_with fail
  refine BL.out.mono ?_
  rintro e w1 ⟨rfl, hw⟩
  cases hw
  generalize ((Lib.bitLen (Int.toNat 0) : Nat) : Int) = k
  go_wp2_with fail
  refine (PD k).out.mono ?_
  rintro e w1 ⟨rfl, hw⟩
  cases hw
  go_wp2
  go_end0
  exact ⟨rfl, rfl⟩
end Go.Proofs.Ytaapdkjmlplhgaa
