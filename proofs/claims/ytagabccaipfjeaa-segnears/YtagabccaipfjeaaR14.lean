/- Contract of the reference's number: a whole number of at most two words. -/
import Derived.Test.YtagabccaipfjeaaR12
namespace Go.Proofs.Ytagabccaipfjeaa
open Go.RowKit Go.Sort

theorem list_le2 {l : List Int} (h : l.length ≤ 2) : l = [] ∨ (∃ x, l = [x]) ∨ (∃ x y, l = [x, y]) := by
  match l, h with
  | [], _ => exact Or.inl rfl
  | [x], _ => exact Or.inr (Or.inl ⟨x, rfl⟩)
  | [x, y], _ => exact Or.inr (Or.inr ⟨x, y, rfl⟩)
set_option maxRecDepth 20000 in
set_option maxHeartbeats 2000000 in
theorem number_any (x : Value) (n : Int) (L : Nat) (w : World) (h : Nm w x n L) (hL : n.natAbs < 18446744073709551616) :
    Calls Try.prog 47 #[x] w fun e w' => e = .returned (.int .u64 n.natAbs) ∧ Gr w w' := by
  obtain ⟨ao, cap, l, rfl, hr, hn, hv, _⟩ := h
  have h2 : l.length ≤ 2 := nrm_short (allD_of hr.dig) hn 2 (by show _ < (1 * 4294967296 * 4294967296 : Int); omega)
  have hm := hr.cap
  have hle := hr.le
  have hD := hr.dig
  generalize decide (n < 0) = B at *
  generalize (n.natAbs : Int) = N at *
  rcases list_le2 h2 with rfl | ⟨a, rfl⟩ | ⟨a, b, rfl⟩
  · have E : Hid (N = 0) := hid' (hv.symm.trans rfl)
    clear hv hr hn hD
    go_enter Try.func47, Try.ntmps47
    go_wp2
    go_rounds 1
    go_ret
    exact ⟨by rw [E.out]; rfl, (Gr.refl _).alloc _⟩
  · have E : Hid (N = a) := hid' (hv.symm.trans (by show 0 + a * 1 = a; omega))
    obtain ⟨b, rfl⟩ := hr.has (by simp)
    have c0 := below_cell (hr.at (i := 0) (by simp)) ((Gr.refl w).alloc (.cells #[.bool B, .slice (some ⟨b, 0, none⟩) 1 cap] 51)).below
    have d0 : isD a := hD a (by simp)
    unfold isD at d0
    have c0' : (w.alloc (.cells #[.bool B, .slice (some ⟨b, 0, none⟩) 1 cap] 51)).cell? ⟨b, 0, none⟩ = some (.int .u32 a) := c0
    have e1 : IntKind.u64.wrap a = a := by rw [IntKind.wrap_u64]; omega
    clear hv hr hn hD c0 h2
    show Calls Try.prog 47 #[.agg #[.bool B, .slice (some ⟨b, 0, none⟩) 1 cap]] w _
    go_enter Try.func47, Try.ntmps47
    go_wp2
    go_rounds 2
    go_ret
    exact ⟨by rw [E.out]; rfl, (Gr.refl _).alloc _⟩
  · have E : Hid (N = b * 4294967296 + a) := hid' (hv.symm.trans (by show 0 + a * 1 + b * (1 * 4294967296) = _; omega))
    obtain ⟨g, rfl⟩ := hr.has (by simp)
    have c0 : (w.alloc (.cells #[.bool B, .slice (some ⟨g, 0, none⟩) 2 cap] 51)).cell? ⟨g, 0, none⟩ = some (.int .u32 a) := below_cell (hr.at (i := 0) (by simp)) ((Gr.refl w).alloc (.cells #[.bool B, .slice (some ⟨g, 0, none⟩) 2 cap] 51)).below
    have c1 : (w.alloc (.cells #[.bool B, .slice (some ⟨g, 0, none⟩) 2 cap] 51)).cell? ⟨g, 1, none⟩ = some (.int .u32 b) := below_cell (hr.at (i := 1) (by simp)) ((Gr.refl w).alloc (.cells #[.bool B, .slice (some ⟨g, 0, none⟩) 2 cap] 51)).below
    have d0 : isD a := hD a (by simp)
    have d1 : isD b := hD b (by simp)
    unfold isD at d0 d1
    have e1 : IntKind.u64.wrap a = a := by rw [IntKind.wrap_u64]; omega
    have e2 : IntKind.u64.wrap b = b := by rw [IntKind.wrap_u64]; omega
    have e3 : IntKind.u64.wrap (b * 4294967296) = b * 4294967296 := by rw [IntKind.wrap_u64]; omega
    have e4 : IntKind.u64.wrap (b * 4294967296 + a) = b * 4294967296 + a := by rw [IntKind.wrap_u64]; omega
    clear hv hr hn hD h2
    show Calls Try.prog 47 #[.agg #[.bool B, .slice (some ⟨g, 0, none⟩) 2 cap]] w _
    go_enter Try.func47, Try.ntmps47
    go_wp2
    go_rounds 3
    go_ret
    exact ⟨by rw [E.out]; rfl, (Gr.refl _).alloc _⟩
end Go.Proofs.Ytagabccaipfjeaa
