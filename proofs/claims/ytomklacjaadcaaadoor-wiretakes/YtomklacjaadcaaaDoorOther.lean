/- Takes of no kind. -/
import Derived.Test.YtomklacjaadcaaaDoorFlt2
namespace Go.Proofs.YtomklacjaadcaaaDoor
open Go.RowKit Go.Sort

set_option maxRecDepth 20000 in
set_option maxHeartbeats 3200000 in
theorem width_other (k : Int) (hk : k < 1 ∨ 12 < k) (w : World) : Calls Tryd.prog 48 #[.int .i64 k] w fun e w' => e = .returned (.int .i64 0) ∧ w' = w := by
  have e1 : (k == 1) = false := by simp; omega
  have e2 : (k == 2) = false := by simp; omega
  have e3 : (k == 3) = false := by simp; omega
  have e4 : (k == 4) = false := by simp; omega
  have e5 : (k == 5) = false := by simp; omega
  have e6 : (k == 6) = false := by simp; omega
  have e7 : (k == 7) = false := by simp; omega
  have e8 : (k == 8) = false := by simp; omega
  have e9 : (k == 9) = false := by simp; omega
  have e10 : (k == 10) = false := by simp; omega
  have e11 : (k == 11) = false := by simp; omega
  have e12 : (k == 12) = false := by simp; omega
  clear hk
  go_enter Tryd.func48, Tryd.ntmps48
  go_wp2
  go_ret
  exact ⟨rfl, rfl⟩
set_option maxRecDepth 20000 in
set_option maxHeartbeats 3200000 in
theorem takes_other (p : Value) (k most : Int) (hk : k < 1 ∨ 12 < k) (w : World) : Calls Tryd.prog 18 #[p, .agg #[.int .i64 k, .int .i64 most]] w fun e w' => e = .returned (gotV 0 []) ∧ Below w.heap.size w w' := by
  have e1 : (k == 1) = false := by simp; omega
  have e2 : (k == 2) = false := by simp; omega
  have e3 : (k == 3) = false := by simp; omega
  have e4 : (k == 4) = false := by simp; omega
  have e5 : (k == 5) = false := by simp; omega
  have e6 : (k == 6) = false := by simp; omega
  have e7 : (k == 7) = false := by simp; omega
  have e8 : (k == 8) = false := by simp; omega
  have e9 : (k == 9) = false := by simp; omega
  have e10 : (k == 10) = false := by simp; omega
  have e11 : (k == 11) = false := by simp; omega
  have e12 : (k == 12) = false := by simp; omega
  clear hk
  go_enter Tryd.func18, Tryd.ntmps18
  go_upto_region 2 with fail
  have gB : Below w.heap.size w ((w.alloc (.cells #[.int .i64 k, .int .i64 most] 57)).alloc (.cells #[.int .u64 0, .string ⟨#[]⟩] 54)) := ((Below.refl _ w).alloc (Nat.le_refl _) _).alloc (by simp) _
  have rg : Row ((w.alloc (.cells #[.int .i64 k, .int .i64 most] 57)).alloc (.cells #[.int .u64 0, .string ⟨#[]⟩] 54)) (w.heap.size + 1) 54 [.int .u64 0, .string ⟨#[]⟩] := by
    have := Row.new (w.alloc (.cells #[.int .i64 k, .int .i64 most] 57)) 54 [.int .u64 0, .string ⟨#[]⟩]
    rwa [World.size_alloc] at this
  have rk : Row ((w.alloc (.cells #[.int .i64 k, .int .i64 most] 57)).alloc (.cells #[.int .u64 0, .string ⟨#[]⟩] 54)) w.heap.size 57 [.int .i64 k, .int .i64 most] := (Row.new w 57 [.int .i64 k, .int .i64 most]).alloc _
  generalize (w.alloc (.cells #[.int .i64 k, .int .i64 most] 57)).alloc (.cells #[.int .u64 0, .string ⟨#[]⟩] 54) = W at *
  have kk0 : W.cell? ⟨w.heap.size, 0, none⟩ = some (.int .i64 k) := rk.cell 0
  have k0 : W.cell? ⟨w.heap.size + 1, 0, none⟩ = some (.int .u64 0) := rg.cell 0
  have k1 : W.cell? ⟨w.heap.size + 1, 1, none⟩ = some (.string ⟨#[]⟩) := rg.cell 1
  have f0 := rg.frozen 0
  have f1 := rg.frozen 1
  go_wp2
  have z0 : ((W.setCell ⟨w.heap.size + 1, 0, none⟩ (.int .u64 0)).setCell ⟨w.heap.size + 1, 1, none⟩ (.string ⟨#[]⟩)).cell? ⟨w.heap.size + 1, 0, none⟩ = some (.int .u64 0) := ((rg.set 0 (.int .u64 0)).set 1 (.string ⟨#[]⟩)).cell 0
  have z1 : ((W.setCell ⟨w.heap.size + 1, 0, none⟩ (.int .u64 0)).setCell ⟨w.heap.size + 1, 1, none⟩ (.string ⟨#[]⟩)).cell? ⟨w.heap.size + 1, 1, none⟩ = some (.string ⟨#[]⟩) := ((rg.set 0 (.int .u64 0)).set 1 (.string ⟨#[]⟩)).cell 1
  have gs : Below w.heap.size w ((W.setCell ⟨w.heap.size + 1, 0, none⟩ (.int .u64 0)).setCell ⟨w.heap.size + 1, 1, none⟩ (.string ⟨#[]⟩)) := (gB.setCell (p := ⟨w.heap.size + 1, 0, none⟩) (by simp) _).setCell (p := ⟨w.heap.size + 1, 1, none⟩) (by simp) _
  refine bodyPost_ret (v := gotV 0 []) (by simp [results, Tryd.results18, go_sem, z0, z1, gotV]) rfl ⟨rfl, gs⟩
set_option maxRecDepth 20000 in
set_option maxHeartbeats 3200000 in
theorem taken_other (p : Value) (k most : Int) (hk : k < 1 ∨ 12 < k) (w : World) : Calls Tryd.prog 19 #[p, .agg #[.int .i64 k, .int .i64 most]] w fun e w' => e = .returned (gotV 0 []) ∧ Below w.heap.size w w' := by
  have HWd := hid' (fun w => width_other k hk w)
  have e1 : (k == 1) = false := by simp; omega
  have e2 : (k == 2) = false := by simp; omega
  have e3 : (k == 3) = false := by simp; omega
  have e4 : (k == 4) = false := by simp; omega
  have e5 : (k == 5) = false := by simp; omega
  have e6 : (k == 6) = false := by simp; omega
  have e7 : (k == 7) = false := by simp; omega
  have e8 : (k == 8) = false := by simp; omega
  have e9 : (k == 9) = false := by simp; omega
  have e10 : (k == 10) = false := by simp; omega
  have e11 : (k == 11) = false := by simp; omega
  have e12 : (k == 12) = false := by simp; omega
  clear hk
  go_enter Tryd.func19, Tryd.ntmps19
  go_upto_region 2 with fail
  have gB : Below w.heap.size w ((w.alloc (.cells #[.int .i64 k, .int .i64 most] 57)).alloc (.cells #[.int .u64 0, .string ⟨#[]⟩] 54)) := ((Below.refl _ w).alloc (Nat.le_refl _) _).alloc (by simp) _
  have rg : Row ((w.alloc (.cells #[.int .i64 k, .int .i64 most] 57)).alloc (.cells #[.int .u64 0, .string ⟨#[]⟩] 54)) (w.heap.size + 1) 54 [.int .u64 0, .string ⟨#[]⟩] := by
    have := Row.new (w.alloc (.cells #[.int .i64 k, .int .i64 most] 57)) 54 [.int .u64 0, .string ⟨#[]⟩]
    rwa [World.size_alloc] at this
  have rk : Row ((w.alloc (.cells #[.int .i64 k, .int .i64 most] 57)).alloc (.cells #[.int .u64 0, .string ⟨#[]⟩] 54)) w.heap.size 57 [.int .i64 k, .int .i64 most] := (Row.new w 57 [.int .i64 k, .int .i64 most]).alloc _
  generalize (w.alloc (.cells #[.int .i64 k, .int .i64 most] 57)).alloc (.cells #[.int .u64 0, .string ⟨#[]⟩] 54) = W at *
  have kk0 : W.cell? ⟨w.heap.size, 0, none⟩ = some (.int .i64 k) := rk.cell 0
  have k0 : W.cell? ⟨w.heap.size + 1, 0, none⟩ = some (.int .u64 0) := rg.cell 0
  have k1 : W.cell? ⟨w.heap.size + 1, 1, none⟩ = some (.string ⟨#[]⟩) := rg.cell 1
  have f0 := rg.frozen 0
  have f1 := rg.frozen 1
  go_wp2_with (go_at_call 48; refine (HWd.out _).mono ?_; rintro e w9 ⟨rfl, rfl⟩)
  have z0 : ((w9.setCell ⟨w.heap.size + 1, 0, none⟩ (.int .u64 0)).setCell ⟨w.heap.size + 1, 1, none⟩ (.string ⟨#[]⟩)).cell? ⟨w.heap.size + 1, 0, none⟩ = some (.int .u64 0) := ((rg.set 0 (.int .u64 0)).set 1 (.string ⟨#[]⟩)).cell 0
  have z1 : ((w9.setCell ⟨w.heap.size + 1, 0, none⟩ (.int .u64 0)).setCell ⟨w.heap.size + 1, 1, none⟩ (.string ⟨#[]⟩)).cell? ⟨w.heap.size + 1, 1, none⟩ = some (.string ⟨#[]⟩) := ((rg.set 0 (.int .u64 0)).set 1 (.string ⟨#[]⟩)).cell 1
  have gs : Below w.heap.size w ((w9.setCell ⟨w.heap.size + 1, 0, none⟩ (.int .u64 0)).setCell ⟨w.heap.size + 1, 1, none⟩ (.string ⟨#[]⟩)) := (gB.setCell (p := ⟨w.heap.size + 1, 0, none⟩) (by simp) _).setCell (p := ⟨w.heap.size + 1, 1, none⟩) (by simp) _
  refine bodyPost_ret (v := gotV 0 []) (by simp [results, Tryd.results19, go_sem, z0, z1, gotV]) rfl ⟨rfl, gs⟩
end Go.Proofs.YtomklacjaadcaaaDoor
