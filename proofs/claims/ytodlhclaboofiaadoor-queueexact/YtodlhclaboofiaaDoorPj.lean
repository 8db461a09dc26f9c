/- The ring of pairs: New, Push, Cut, Pop. -/
import Derived.Test.YtodlhclaboofiaaDoorPi
import Derived.Test.YtodlhclaboofiaaDoorHd
import Derived.IntWalk
import Derived.Laws.OwnMore
set_option linter.unusedSimpArgs false
set_option linter.unusedVariables false
namespace Go.Proofs.YtodlhclaboofiaaDoor
open Go.RowKit Go.Sort

theorem p_info : (Tryd.prog.info? 38).map (fun i => (i.zero, i.size, i.bytes)) = some (some (pV 0), 2, 16) := by kernel_rfl
theorem p_make (n : Nat) (h : n ≤ 65536) (w : World) : (Instr.makeSlice 64 (.int .i64 (n : Int)) (.int .i64 (n : Int))).run Tryd.prog w = .ok (.slice (some ⟨w.heap.size, 0, none⟩) n n) (w.alloc (.cells (madeCells #[.int .i64 0, .float .f64 0] (n * 2)) 38)) := by
  obtain ⟨i, hi, hz0, hz1, hz2⟩ := info_parts p_info
  have := run_make (P := Tryd.prog) w 64 38 i (pV 0) Tryd.underlying64 hi hz0 .i64 .i64 (n : Int) (n : Int) (by omega) (by omega) (by rw [hz2]; omega) (by omega)
  rw [hz1, Int.toNat_natCast] at this
  exact this
theorem p_made (n : Nat) : (madeCells #[Value.int .i64 0, .float .f64 0] (n * 2)).toList = (RS.made n).es.flatMap penc := by
  show _ = (List.replicate n (0 : Int)).flatMap penc
  refine List.ext_getElem? fun k => ?_
  have hl : ((List.replicate n (0 : Int)).flatMap penc).length = n * 2 := by rw [flat_len penc_len, List.length_replicate]
  by_cases hk : k < n * 2
  · have e : k = k / 2 * 2 + k % 2 := by omega
    have h2 : ((List.replicate n (0 : Int)).flatMap penc)[k / 2 * 2 + k % 2]? = (penc 0)[k % 2]? := flat_at penc_len _ _ _ _ (by rw [List.getElem?_replicate, if_pos (by omega)]) (by omega)
    rw [← e] at h2
    rw [h2]
    have h3 : k % 2 = 0 ∨ k % 2 = 1 := by omega
    rcases h3 with h3 | h3
    · simp [madeCells, hk, h3, penc]
    · simp [madeCells, hk, h3, penc]
  · rw [List.getElem?_eq_none (show ((List.replicate n (0 : Int)).flatMap penc).length ≤ k by rw [hl]; omega), List.getElem?_eq_none (by simp [madeCells]; omega)]
theorem p_new_no (m : Int) (w : World) (h : m < 1 ∨ 65536 < m) : Calls Tryd.prog 6 #[.int .i64 m] w fun e w' => e = .returned (.tuple #[.pointer none, .int .i64 2]) ∧ w' = w := by
  by_cases c : m < 1
  · go_enter Tryd.func6, Tryd.ntmps6
    go_wp2
    go_ret2
    exact ⟨rfl, rfl⟩
  · have e1 : decide ((65536 : Int) < m) = true := by simp; omega
    go_enter Tryd.func6, Tryd.ntmps6
    go_wp2
    go_ret2
    exact ⟨rfl, rfl⟩
theorem p_new_yes (n : Nat) (w : World) (h1 : 1 ≤ n) (h2 : n ≤ 65536) : Calls Tryd.prog 6 #[.int .i64 (n : Int)] w fun e w' => ∃ T B, e = .returned (.tuple #[.pointer (some ⟨T, 0, none⟩), .int .i64 0]) ∧ w.heap.size ≤ T ∧ w.heap.size ≤ B ∧ pIs w' T B (RS.made n) ∧ Gr w w' := by
  have MK := p_make n h2 w
  have e1 : decide ((n : Int) < 1) = false := by simp; omega
  have e2 : decide ((65536 : Int) < (n : Int)) = false := by simp; omega
  have g : Gr w ((w.alloc (.cells (madeCells #[.int .i64 0, .float .f64 0] (n * 2)) 38)).alloc (.cells #[.slice (some ⟨w.heap.size, 0, none⟩) n n, .int .i64 0, .int .i64 0, .int .i64 0, .int .i64 0, .bool false, .int .i64 0, .int .i64 0] 66)) := ((Gr.refl w).alloc _).alloc _
  have kB : Bk (w.alloc (.cells (madeCells #[.int .i64 0, .float .f64 0] (n * 2)) 38)) w.heap.size 38 ((RS.made n).es.flatMap penc) := by rw [← p_made]; exact Bk.new w 38 _
  have kT := Bk.new (w.alloc (.cells (madeCells #[.int .i64 0, .float .f64 0] (n * 2)) 38)) 66 [.slice (some ⟨w.heap.size, 0, none⟩) n n, .int .i64 0, .int .i64 0, .int .i64 0, .int .i64 0, .bool false, .int .i64 0, .int .i64 0]
  rw [World.size_alloc] at kT
  have K : pIs ((w.alloc (.cells (madeCells #[.int .i64 0, .float .f64 0] (n * 2)) 38)).alloc (.cells #[.slice (some ⟨w.heap.size, 0, none⟩) n n, .int .i64 0, .int .i64 0, .int .i64 0, .int .i64 0, .bool false, .int .i64 0, .int .i64 0] 66)) (w.heap.size + 1) w.heap.size (RS.made n) :=
    ⟨kT, kB.alloc _, by omega⟩
  have HK := hid0 K
  have HG := hid0 g
  clear K kT kB g
  go_enter Tryd.func6, Tryd.ntmps6
  go_wp2
  go_ret2
  exact ⟨_, _, rfl, by omega, Nat.le_refl _, HK.out, HG.out⟩
end Go.Proofs.YtodlhclaboofiaaDoor
