/- The reference's Del of a number that is not there. -/
import Derived.Test.YtpikhdfndnpidaaRb
set_option linter.unusedSimpArgs false
set_option linter.unusedVariables false
namespace Go.Proofs.Ytpikhdfndnpidaa
open Go.RowKit Go.Sort Go.Shelf
theorem rdel_no (base R : Nat) (l : List E) (k : Int) (w : World) (h : RefIs w base R l) (s : PT.Srt l) (hl : l.length ≤ 1000000) (hz : hasI k l = false) : Calls Try.prog 23 #[.pointer (some ⟨R, 0, none⟩), .int .u32 k] w fun e w' => e = .returned (.int .i64 141) ∧ Gr w w' := by
  have PL := hid0 (place_any base R l k _ h s hl)
  rw [hz] at PL
  clear h s hl hz
  generalize posL k l = P at *
  go_enter Try.func23, Try.ntmps23
  go_wp2_with fail
  refine PL.out.mono ?_
  rintro e V ⟨rfl, gA⟩
  clear PL
  go_wp2
  go_ret
  exact ⟨rfl, gA⟩
end Go.Proofs.Ytpikhdfndnpidaa
