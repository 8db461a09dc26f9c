/- slices.Delete of the last one. -/
import Derived.Test.YtaapdkjmlplhgaaPu
set_option linter.unusedSimpArgs false
set_option linter.unusedVariables false
namespace Go.Proofs.Ytaapdkjmlplhgaa
open Go.RowKit Go.Sort Go.Shelf Go.Maps

theorem zero32 (w : World) : (zeroValue 32).run Try.prog w = .ok (.agg #[.int .u32 0, .int .u32 0, .int .u32 0]) w := by kernel_rfl
theorem run_clear1 (ty : TypeId) (g off c : Nat) (w : World) (h0 : ∃ v, w.cell? ⟨g, off, none⟩ = some v) (h1 : ∃ v, w.cell? ⟨g, off + 1, none⟩ = some v) (h2 : ∃ v, w.cell? ⟨g, off + 2, none⟩ = some v)
    (hf : ∀ j, w.frozen? ⟨g, j, none⟩ = false) :
    (Builtin.clear_ #[36] ty #[.slice (some ⟨g, off, none⟩) 1 c]).run Try.prog w = .ok (.tuple #[]) (put3 w g off (0, 0, 0)) := by
  have hz : (Builtin.zeroCells (Value.agg #[Value.int .u32 0, Value.int .u32 0, Value.int .u32 0]).cells 1).toList = [Value.int .u32 0, Value.int .u32 0, Value.int .u32 0] := by kernel_rfl
  have hs := run_storeCells_cells (P := Try.prog) g off [Value.int .u32 0, Value.int .u32 0, Value.int .u32 0] 0 w (by
      intro j hj
      have : j = 0 ∨ j = 1 ∨ j = 2 := by simp at hj; omega
      rcases this with rfl | rfl | rfl
      · obtain ⟨v, h⟩ := h0; simp [h]
      · obtain ⟨v, h⟩ := h1; simp [h]
      · obtain ⟨v, h⟩ := h2; simp [h]) (fun j hj => hf _) (by simp [Value.oneCell'])
  simp [Builtin.clear_, run_underlying Try.underlying36, zero32, hz, hs]
  rfl
theorem RowG.drop {w : World} {g cp k : Nat} {l : List Du} (h : RowG w g cp l) (hk : l.length = k + 1) : RowG w g cp (l.take k) := by
  obtain ⟨r, h1, h2, h3⟩ := h
  have e : l = l.take k ++ [nth l k] := by
    rw [show nth l k = l.getD k (0, 0, 0) from rfl, ← (take_pre (show k < l.length by omega)).2, List.take_of_length_le (by omega)]
  have e2 : flat l = flat (l.take k) ++ dL (nth l k) := by
    conv => lhs; rw [e]
    rw [flat_app]
    rfl
  refine ⟨dL (nth l k) ++ r, ?_, ?_, h3⟩
  · rw [← List.append_assoc, ← e2]
    exact h1
  · simp
    omega
set_option maxRecDepth 100000 in
set_option maxHeartbeats 1000000 in
theorem delete_any (g cp k : Nat) (l : List Du) (w : World) (H : RowG w g cp l) (hk : l.length = k + 1) (hkl : k ≤ 5000) :
    Calls Try.prog 49 #[.slice (some ⟨g, 0, none⟩) (k + 1) cp, .int .i64 k, .int .i64 (k + 1 : Nat)] w fun e w' => e = .returned (.slice (some ⟨g, 0, none⟩) k cp) ∧ RowG w' g cp (l.take k) ∧ Chg (fun j => j = g) w w' := by
  obtain ⟨i0, hi, hz0, hz1, hz2⟩ := info_parts d_info
  obtain ⟨hcp, hcm⟩ : k + 1 ≤ cp ∧ cp ≤ maxLen := by
    obtain ⟨r, _, h2, h3⟩ := H
    exact ⟨by omega, h3⟩
  have hcm' : cp ≤ 9223372036854775807 := by unfold maxLen at hcm; omega
  obtain ⟨A, hA⟩ : ∃ A : Addr, (if cp = k + 1 then some (⟨g, 0, none⟩ : Addr) else some ⟨g, (k + 1) * 3, none⟩) = some A := by
    by_cases h : cp = k + 1
    · exact ⟨_, by simp [h]; rfl⟩
    · exact ⟨_, by simp [h]; rfl⟩
  have HH := hid0 H
  clear H hcm
  go_enter Try.func49, Try.ntmps49
  go_upto_region 5 with fail
  have hk0 : (0 : Int) ≤ (k : Int) + 1 := by omega
  have hk1 : (k : Int) + 1 ≤ (cp : Int) := by omega
  have hk2 : k ≤ cp := by omega
  have hk3 : ¬ (cp = k) := by omega
  go_region_law (refine step_append_room rfl (.tmp 22) (.tmp 25) 36 rfl 32 i0 3 Try.underlying36 hi hz1 g 0 k cp (by simp [Act.eval, Act.put]) A 0 (cp - (k + 1)) [] (by simp [Act.eval, Act.put, hA]) rfl (by intro j u h; simp at h) (by simp) (by omega) (by intro j hj; simp at hj) ?_)
  all_goals
    generalize hW : World.setCells _ _ _ _ = WW
    obtain rfl : WW = w.drew := by rw [← hW]; rfl
    clear hW
    have HR : RowG w.drew g cp l := HH.out.same rfl
    obtain ⟨r0, r1, r2⟩ := HR.at.cell (show k < l.length by omega)
    have HC := hid0 (HR.set (show k < l.length by omega) (0, 0, 0))
    have CC : Hid (Chg (fun j => j = g) w (put3 w.drew g (k * 3) (0, 0, 0))) := put3_chg (Chg.of_gr (Gr.refl w).drew) rfl
    have hfz := HR.frozen
    clear HR HH
    have HCL := run_clear1 0 g (k * 3) (cp - k) w.drew ⟨_, r0⟩ ⟨_, r1⟩ ⟨_, r2⟩ hfz
    clear r0 r1 r2 hfz
    generalize put3 w.drew g (k * 3) (0, 0, 0) = X at *
    go_wp2
    go_ret
    refine ⟨rfl, ?_, CC.out⟩
    have := HC.out.drop (k := k) (by simp; exact hk)
    rw [show (l.set k (0, 0, 0)).take k = l.take k by rw [List.take_set_of_le]; omega] at this
    exact this
end Go.Proofs.Ytaapdkjmlplhgaa
