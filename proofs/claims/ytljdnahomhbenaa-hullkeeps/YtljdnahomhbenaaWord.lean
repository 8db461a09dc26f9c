/- Contracts of the program's numbers of 64 bits as numbers of 128, and whether 64 bits hold one. -/
import Derived.Test.YtljdnahomhbenaaWide
import Derived.BigQuiet
namespace Go.Proofs.Ytljdnahomhbenaa
open Go.RowKit Go.Sort

theorem of_lo (v : Int) : IntKind.u64.wrap v = loI v := by rw [IntKind.wrap_u64]; rfl
theorem of_hi {v : Int} (h0 : -9223372036854775808 ≤ v) (h1 : v ≤ 9223372036854775807) : v / 9223372036854775808 = hiI v := by unfold hiI; omega

theorem low_in (m : Int) : -9223372036854775808 ≤ wrap64 (loI m) ∧ wrap64 (loI m) ≤ 9223372036854775807 := by unfold wrap64; omega
theorem low_lo (m : Int) : loI (wrap64 (loI m)) = loI m := by unfold loI wrap64; omega
theorem low_hi {m : Int} (hm : inI m) : hiI (wrap64 (loI m)) = hiI m ↔ (-9223372036854775808 ≤ m ∧ m ≤ 9223372036854775807) := by unfold inI hiI loI wrap64 at *; omega
theorem low_same {m : Int} (h : -9223372036854775808 ≤ m ∧ m ≤ 9223372036854775807) : wrap64 (loI m) = m := by unfold loI wrap64; omega

end Go.Proofs.Ytljdnahomhbenaa
