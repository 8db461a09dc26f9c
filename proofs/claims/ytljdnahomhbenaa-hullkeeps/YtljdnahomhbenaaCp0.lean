/- clear of points in a row of the call's own. -/
import Derived.Test.YtljdnahomhbenaaOwn
import Derived.Test.YtljdnahomhbenaaHuO
import Derived.Lib.SliceRun
namespace Go.Proofs.Ytljdnahomhbenaa
open Go.RowKit Go.Sort Go.Lib

def fillP : List (Int × Int) → Nat → Nat → List (Int × Int)
  | L, _, 0 => L
  | L, k, m + 1 => fillP (L.set k (0, 0)) (k + 1) m
theorem fill_take : ∀ (m : Nat) (L : List (Int × Int)) (k j : Nat), j ≤ k → (fillP L k m).take j = L.take j
  | 0, _, _, _, _ => rfl
  | m + 1, L, k, j, h => by
    rw [fillP, fill_take m _ (k + 1) j (by omega), List.take_set_of_le h]
theorem own_fill (B g n cap : Nat) (hg : B ≤ g) : ∀ (m k : Nat) (L : List (Int × Int)) (w : World), OwnP w B g n cap L → k + m ≤ n → OwnP (w.setCells g (k * 2) (List.replicate (m * 2) (.int .i32 0))) B g n cap (fillP L k m) ∧ Below B w (w.setCells g (k * 2) (List.replicate (m * 2) (.int .i32 0)))
  | 0, k, L, w, h, _ => by simpa [World.setCells, fillP] using ⟨h, Below.refl _ _⟩
  | m + 1, k, L, w, h, hk => by
    have e : (m + 1) * 2 = m * 2 + 1 + 1 := by omega
    rw [e, List.replicate_succ, List.replicate_succ, World.setCells, World.setCells]
    have i := own_fill B g n cap hg m (k + 1) _ _ (h.set k (by omega) 0 0) (by omega)
    rw [show k * 2 + 1 + 1 = (k + 1) * 2 by omega]
    exact ⟨i.1, (((Below.refl B w).setCell hg _).setCell hg _).trans i.2⟩
theorem run_clear_pts (w : World) (ty : TypeId) (B g n cap k c : Nat) (L : List (Int × Int)) (h : OwnP w B g n cap L) (hk : k < n) :
    (Builtin.clear_ #[22] ty #[.slice (some ⟨g, k * 2, none⟩) (n - k) c]).run Try.prog w = .ok (.tuple #[]) (w.setCells g (k * 2) (List.replicate ((n - k) * 2) (.int .i32 0))) := by
  have hzc : (Builtin.zeroCells (Value.agg #[.int .i32 0, .int .i32 0]).cells (n - k)).toList = List.replicate ((n - k) * 2) (.int .i32 0) := by
    simp [Builtin.zeroCells, Value.cells]
    apply List.ext_getElem
    · simp
    · intro i h1 h2
      simp
      rcases Nat.mod_two_eq_zero_or_one i with q | q <;> simp [q]
  have hst := run_storeCells_cells (P := Try.prog) g (k * 2) (List.replicate ((n - k) * 2) (Value.int .i32 0)) 0 w (fun j hj => by
    simp at hj
    rcases Nat.mod_two_eq_zero_or_one j with q | q
    · rw [show k * 2 + 0 + j = (k + j / 2) * 2 by omega, (h.at (k + j / 2) (by omega)).1]; rfl
    · rw [show k * 2 + 0 + j = (k + j / 2) * 2 + 1 by omega, (h.at (k + j / 2) (by omega)).2.1]; rfl) (fun j hj => by
    simp at hj
    rcases Nat.mod_two_eq_zero_or_one j with q | q
    · rw [show k * 2 + 0 + j = (k + j / 2) * 2 by omega, (h.at (k + j / 2) (by omega)).2.2.1]
    · rw [show k * 2 + 0 + j = (k + j / 2) * 2 + 1 by omega, (h.at (k + j / 2) (by omega)).2.2.2]) (fun v hv => by rw [List.eq_of_mem_replicate hv]; rfl)
  simp only [Nat.add_zero] at hst
  obtain ⟨m, hm⟩ : ∃ m, n - k = m + 1 := ⟨n - k - 1, by omega⟩
  rw [hm] at hzc hst ⊢
  have hv : (zeroValue 28).run Try.prog w = .ok (.agg #[.int .i32 0, .int .i32 0]) w := Try.zeroValue28 w
  simp [Builtin.clear_, run_underlying Try.underlying22, hv, hzc, hst]
end Go.Proofs.Ytljdnahomhbenaa
