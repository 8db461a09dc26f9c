/- The ring of numbers: New, Push, Cut, Pop. -/
import Derived.Test.YtodlhclaboofiaaDoorQi
import Derived.Test.YtodlhclaboofiaaDoorHd
import Derived.IntWalk
import Derived.Laws.OwnMore
set_option linter.unusedSimpArgs false
set_option linter.unusedVariables false
namespace Go.Proofs.YtodlhclaboofiaaDoor
open Go.RowKit Go.Sort

theorem i_info : (Tryd.prog.info? 3).map (fun i => (i.zero, i.size, i.bytes)) = some (some (iV 0), 1, 8) := by kernel_rfl
theorem i_make (n : Nat) (h : n ≤ 65536) (w : World) : (Instr.makeSlice 47 (.int .i64 (n : Int)) (.int .i64 (n : Int))).run Tryd.prog w = .ok (.slice (some ⟨w.heap.size, 0, none⟩) n n) (w.alloc (.cells (madeCells #[iV 0] n) 3)) := by
  obtain ⟨i, hi, hz0, hz1, hz2⟩ := info_parts i_info
  have := run_make (P := Tryd.prog) w 47 3 i (iV 0) Tryd.underlying47 hi hz0 .i64 .i64 (n : Int) (n : Int) (by omega) (by omega) (by rw [hz2]; omega) (by omega)
  rw [hz1, Int.toNat_natCast, Nat.mul_one] at this
  exact this
theorem i_made (n : Nat) : ((madeCells #[iV 0] n).toList) = (RS.made n).es.flatMap ienc := by
  rw [toList_madeCells_one]
  show _ = (List.replicate n (0 : Int)).flatMap ienc
  induction n with
  | zero => rfl
  | succ n ih => rw [List.replicate_succ, ih, List.replicate_succ, List.flatMap_cons]; rfl
theorem i_new_no (m : Int) (w : World) (h : m < 1 ∨ 65536 < m) : Calls Tryd.prog 13 #[.int .i64 m] w fun e w' => e = .returned (.tuple #[.pointer none, .int .i64 2]) ∧ w' = w := by
  by_cases c : m < 1
  · go_enter Tryd.func13, Tryd.ntmps13
    go_wp2
    go_ret2
    exact ⟨rfl, rfl⟩
  · have e1 : decide ((65536 : Int) < m) = true := by simp; omega
    go_enter Tryd.func13, Tryd.ntmps13
    go_wp2
    go_ret2
    exact ⟨rfl, rfl⟩
theorem i_new_yes (n : Nat) (w : World) (h1 : 1 ≤ n) (h2 : n ≤ 65536) : Calls Tryd.prog 13 #[.int .i64 (n : Int)] w fun e w' => ∃ T B, e = .returned (.tuple #[.pointer (some ⟨T, 0, none⟩), .int .i64 0]) ∧ w.heap.size ≤ T ∧ w.heap.size ≤ B ∧ iIs w' T B (RS.made n) ∧ Gr w w' := by
  have MK := i_make n h2 w
  have e1 : decide ((n : Int) < 1) = false := by simp; omega
  have e2 : decide ((65536 : Int) < (n : Int)) = false := by simp; omega
  have g : Gr w ((w.alloc (.cells (madeCells #[iV 0] n) 3)).alloc (.cells #[.slice (some ⟨w.heap.size, 0, none⟩) n n, .int .i64 0, .int .i64 0, .int .i64 0, .int .i64 0, .bool false, .int .i64 0, .int .i64 0] 83)) := ((Gr.refl w).alloc _).alloc _
  have kB : Bk (w.alloc (.cells (madeCells #[iV 0] n) 3)) w.heap.size 3 ((RS.made n).es.flatMap ienc) := by rw [← i_made]; exact Bk.new w 3 _
  have kT := Bk.new (w.alloc (.cells (madeCells #[iV 0] n) 3)) 83 [.slice (some ⟨w.heap.size, 0, none⟩) n n, .int .i64 0, .int .i64 0, .int .i64 0, .int .i64 0, .bool false, .int .i64 0, .int .i64 0]
  rw [World.size_alloc] at kT
  have K : iIs ((w.alloc (.cells (madeCells #[iV 0] n) 3)).alloc (.cells #[.slice (some ⟨w.heap.size, 0, none⟩) n n, .int .i64 0, .int .i64 0, .int .i64 0, .int .i64 0, .bool false, .int .i64 0, .int .i64 0] 83)) (w.heap.size + 1) w.heap.size (RS.made n) :=
    ⟨kT, kB.alloc _, by omega⟩
  have HK := hid0 K
  have HG := hid0 g
  clear K kT kB g
  go_enter Tryd.func13, Tryd.ntmps13
  go_wp2
  go_ret2
  exact ⟨_, _, rfl, by omega, Nat.le_refl _, HK.out, HG.out⟩
end Go.Proofs.YtodlhclaboofiaaDoor
