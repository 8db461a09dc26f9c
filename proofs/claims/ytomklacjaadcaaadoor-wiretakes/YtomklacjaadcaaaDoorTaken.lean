/- What the document takes, by kind. -/
import Derived.Test.YtomklacjaadcaaaDoorGot9
namespace Go.Proofs.YtomklacjaadcaaaDoor
open Go.RowKit Go.Sort

theorem wd2 (w : World) : Calls Tryd.prog 48 #[.int .i64 2] w fun e w' => e = .returned (.int .i64 1) ∧ w' = w := calls_run 200 Tryd.func48 (fun cs => by kernel_rfl) (fun cs => by kernel_rfl)
theorem wd4 (w : World) : Calls Tryd.prog 48 #[.int .i64 4] w fun e w' => e = .returned (.int .i64 2) ∧ w' = w := calls_run 200 Tryd.func48 (fun cs => by kernel_rfl) (fun cs => by kernel_rfl)
theorem wd6 (w : World) : Calls Tryd.prog 48 #[.int .i64 6] w fun e w' => e = .returned (.int .i64 4) ∧ w' = w := calls_run 200 Tryd.func48 (fun cs => by kernel_rfl) (fun cs => by kernel_rfl)
theorem wd7 (w : World) : Calls Tryd.prog 48 #[.int .i64 7] w fun e w' => e = .returned (.int .i64 8) ∧ w' = w := calls_run 200 Tryd.func48 (fun cs => by kernel_rfl) (fun cs => by kernel_rfl)
theorem wd8 (w : World) : Calls Tryd.prog 48 #[.int .i64 8] w fun e w' => e = .returned (.int .i64 8) ∧ w' = w := calls_run 200 Tryd.func48 (fun cs => by kernel_rfl) (fun cs => by kernel_rfl)
theorem wd12 (w : World) : Calls Tryd.prog 48 #[.int .i64 12] w fun e w' => e = .returned (.int .i64 1) ∧ w' = w := calls_run 200 Tryd.func48 (fun cs => by kernel_rfl) (fun cs => by kernel_rfl)
set_option maxRecDepth 20000 in
set_option maxHeartbeats 3200000 in
theorem taken1 (p : Value) (most z : Int) (w : World) (i : Nat) (hi : i < w.heap.size) (R : World → Prop) (hR : ∀ a b, R a → Row a (w.heap.size + 1) 54 [.int .u64 0, .string ⟨#[]⟩] → a.grownBy b (some (w.heap.size + 1)) → R b) (H : Hid (∀ w1, Below w.heap.size w w1 → Calls Tryd.prog 63 #[p, .int .i64 1] w1 fun e w2 => e = .returned (.int .u64 z) ∧ R w2 ∧ w1.grownBy w2 (some i))) :
    Calls Tryd.prog 19 #[p, .agg #[.int .i64 1, .int .i64 most]] w fun e w' => e = .returned (gotV (IntKind.u64.wrap (IntKind.i8.wrap z)) []) ∧ R w' ∧ w.grownBy w' (some i) := by
  go_enter Tryd.func19, Tryd.ntmps19
  go_upto_region 3 with fail
  have gB : Below w.heap.size w ((w.alloc (.cells #[.int .i64 1, .int .i64 most] 57)).alloc (.cells #[.int .u64 0, .string ⟨#[]⟩] 54)) := ((Below.refl _ w).alloc (Nat.le_refl _) _).alloc (by simp) _
  have rg : Row ((w.alloc (.cells #[.int .i64 1, .int .i64 most] 57)).alloc (.cells #[.int .u64 0, .string ⟨#[]⟩] 54)) (w.heap.size + 1) 54 [.int .u64 0, .string ⟨#[]⟩] := by
    have := Row.new (w.alloc (.cells #[.int .i64 1, .int .i64 most] 57)) 54 [.int .u64 0, .string ⟨#[]⟩]
    rwa [World.size_alloc] at this
  have rk : Row ((w.alloc (.cells #[.int .i64 1, .int .i64 most] 57)).alloc (.cells #[.int .u64 0, .string ⟨#[]⟩] 54)) w.heap.size 57 [.int .i64 1, .int .i64 most] := (Row.new w 57 [.int .i64 1, .int .i64 most]).alloc _
  generalize (w.alloc (.cells #[.int .i64 1, .int .i64 most] 57)).alloc (.cells #[.int .u64 0, .string ⟨#[]⟩] 54) = W at *
  have kk0 : W.cell? ⟨w.heap.size, 0, none⟩ = some (.int .i64 1) := rk.cell 0
  have kk1 : W.cell? ⟨w.heap.size, 1, none⟩ = some (.int .i64 most) := rk.cell 1
  go_wp2_with (go_at_call 63; refine (H.out _ gB).mono ?_; rintro e w2 ⟨rfl, q2, g2⟩; have rg2 := rg.grown g2 (by intro e; cases e; omega); have k0 : w2.cell? ⟨w.heap.size + 1, 0, none⟩ = some (.int .u64 0) := rg2.cell 0; have k1 : w2.cell? ⟨w.heap.size + 1, 1, none⟩ = some (.string ⟨#[]⟩) := rg2.cell 1; have f0 := rg2.frozen 0; have f1 := rg2.frozen 1)
  have z0 : ((w2.setCell ⟨w.heap.size + 1, 0, none⟩ (.int .u64 (IntKind.u64.wrap (IntKind.i8.wrap z)))).setCell ⟨w.heap.size + 1, 1, none⟩ (.string ⟨#[]⟩)).cell? ⟨w.heap.size + 1, 0, none⟩ = some (.int .u64 (IntKind.u64.wrap (IntKind.i8.wrap z))) := ((rg2.set 0 (.int .u64 (IntKind.u64.wrap (IntKind.i8.wrap z)))).set 1 (.string ⟨#[]⟩)).cell 0
  have z1 : ((w2.setCell ⟨w.heap.size + 1, 0, none⟩ (.int .u64 (IntKind.u64.wrap (IntKind.i8.wrap z)))).setCell ⟨w.heap.size + 1, 1, none⟩ (.string ⟨#[]⟩)).cell? ⟨w.heap.size + 1, 1, none⟩ = some (.string ⟨#[]⟩) := ((rg2.set 0 (.int .u64 (IntKind.u64.wrap (IntKind.i8.wrap z)))).set 1 (.string ⟨#[]⟩)).cell 1
  have gs : w2.grownBy ((w2.setCell ⟨w.heap.size + 1, 0, none⟩ (.int .u64 (IntKind.u64.wrap (IntKind.i8.wrap z)))).setCell ⟨w.heap.size + 1, 1, none⟩ (.string ⟨#[]⟩)) (some (w.heap.size + 1)) := setCells_grown [_, _] 0 w2
  have gw := grown_box gB rg.lt g2 gs
  generalize (w2.setCell ⟨w.heap.size + 1, 0, none⟩ (.int .u64 (IntKind.u64.wrap (IntKind.i8.wrap z)))).setCell ⟨w.heap.size + 1, 1, none⟩ (.string ⟨#[]⟩) = W4 at *
  refine bodyPost_ret (v := gotV (IntKind.u64.wrap (IntKind.i8.wrap z)) []) (by simp [results, Tryd.results19, go_sem, z0, z1, gotV]) rfl ⟨rfl, hR _ _ q2 rg2 gs, gw⟩
set_option maxRecDepth 20000 in
set_option maxHeartbeats 3200000 in
theorem taken3 (p : Value) (most z : Int) (w : World) (i : Nat) (hi : i < w.heap.size) (R : World → Prop) (hR : ∀ a b, R a → Row a (w.heap.size + 1) 54 [.int .u64 0, .string ⟨#[]⟩] → a.grownBy b (some (w.heap.size + 1)) → R b) (H : Hid (∀ w1, Below w.heap.size w w1 → Calls Tryd.prog 63 #[p, .int .i64 2] w1 fun e w2 => e = .returned (.int .u64 z) ∧ R w2 ∧ w1.grownBy w2 (some i))) :
    Calls Tryd.prog 19 #[p, .agg #[.int .i64 3, .int .i64 most]] w fun e w' => e = .returned (gotV (IntKind.u64.wrap (IntKind.i16.wrap z)) []) ∧ R w' ∧ w.grownBy w' (some i) := by
  go_enter Tryd.func19, Tryd.ntmps19
  go_upto_region 5 with fail
  have gB : Below w.heap.size w ((w.alloc (.cells #[.int .i64 3, .int .i64 most] 57)).alloc (.cells #[.int .u64 0, .string ⟨#[]⟩] 54)) := ((Below.refl _ w).alloc (Nat.le_refl _) _).alloc (by simp) _
  have rg : Row ((w.alloc (.cells #[.int .i64 3, .int .i64 most] 57)).alloc (.cells #[.int .u64 0, .string ⟨#[]⟩] 54)) (w.heap.size + 1) 54 [.int .u64 0, .string ⟨#[]⟩] := by
    have := Row.new (w.alloc (.cells #[.int .i64 3, .int .i64 most] 57)) 54 [.int .u64 0, .string ⟨#[]⟩]
    rwa [World.size_alloc] at this
  have rk : Row ((w.alloc (.cells #[.int .i64 3, .int .i64 most] 57)).alloc (.cells #[.int .u64 0, .string ⟨#[]⟩] 54)) w.heap.size 57 [.int .i64 3, .int .i64 most] := (Row.new w 57 [.int .i64 3, .int .i64 most]).alloc _
  generalize (w.alloc (.cells #[.int .i64 3, .int .i64 most] 57)).alloc (.cells #[.int .u64 0, .string ⟨#[]⟩] 54) = W at *
  have kk0 : W.cell? ⟨w.heap.size, 0, none⟩ = some (.int .i64 3) := rk.cell 0
  have kk1 : W.cell? ⟨w.heap.size, 1, none⟩ = some (.int .i64 most) := rk.cell 1
  go_wp2_with (go_at_call 63; refine (H.out _ gB).mono ?_; rintro e w2 ⟨rfl, q2, g2⟩; have rg2 := rg.grown g2 (by intro e; cases e; omega); have k0 : w2.cell? ⟨w.heap.size + 1, 0, none⟩ = some (.int .u64 0) := rg2.cell 0; have k1 : w2.cell? ⟨w.heap.size + 1, 1, none⟩ = some (.string ⟨#[]⟩) := rg2.cell 1; have f0 := rg2.frozen 0; have f1 := rg2.frozen 1)
  have z0 : ((w2.setCell ⟨w.heap.size + 1, 0, none⟩ (.int .u64 (IntKind.u64.wrap (IntKind.i16.wrap z)))).setCell ⟨w.heap.size + 1, 1, none⟩ (.string ⟨#[]⟩)).cell? ⟨w.heap.size + 1, 0, none⟩ = some (.int .u64 (IntKind.u64.wrap (IntKind.i16.wrap z))) := ((rg2.set 0 (.int .u64 (IntKind.u64.wrap (IntKind.i16.wrap z)))).set 1 (.string ⟨#[]⟩)).cell 0
  have z1 : ((w2.setCell ⟨w.heap.size + 1, 0, none⟩ (.int .u64 (IntKind.u64.wrap (IntKind.i16.wrap z)))).setCell ⟨w.heap.size + 1, 1, none⟩ (.string ⟨#[]⟩)).cell? ⟨w.heap.size + 1, 1, none⟩ = some (.string ⟨#[]⟩) := ((rg2.set 0 (.int .u64 (IntKind.u64.wrap (IntKind.i16.wrap z)))).set 1 (.string ⟨#[]⟩)).cell 1
  have gs : w2.grownBy ((w2.setCell ⟨w.heap.size + 1, 0, none⟩ (.int .u64 (IntKind.u64.wrap (IntKind.i16.wrap z)))).setCell ⟨w.heap.size + 1, 1, none⟩ (.string ⟨#[]⟩)) (some (w.heap.size + 1)) := setCells_grown [_, _] 0 w2
  have gw := grown_box gB rg.lt g2 gs
  generalize (w2.setCell ⟨w.heap.size + 1, 0, none⟩ (.int .u64 (IntKind.u64.wrap (IntKind.i16.wrap z)))).setCell ⟨w.heap.size + 1, 1, none⟩ (.string ⟨#[]⟩) = W4 at *
  refine bodyPost_ret (v := gotV (IntKind.u64.wrap (IntKind.i16.wrap z)) []) (by simp [results, Tryd.results19, go_sem, z0, z1, gotV]) rfl ⟨rfl, hR _ _ q2 rg2 gs, gw⟩
set_option maxRecDepth 20000 in
set_option maxHeartbeats 3200000 in
theorem taken5 (p : Value) (most z : Int) (w : World) (i : Nat) (hi : i < w.heap.size) (R : World → Prop) (hR : ∀ a b, R a → Row a (w.heap.size + 1) 54 [.int .u64 0, .string ⟨#[]⟩] → a.grownBy b (some (w.heap.size + 1)) → R b) (H : Hid (∀ w1, Below w.heap.size w w1 → Calls Tryd.prog 63 #[p, .int .i64 4] w1 fun e w2 => e = .returned (.int .u64 z) ∧ R w2 ∧ w1.grownBy w2 (some i))) :
    Calls Tryd.prog 19 #[p, .agg #[.int .i64 5, .int .i64 most]] w fun e w' => e = .returned (gotV (IntKind.u64.wrap (wrap32 z)) []) ∧ R w' ∧ w.grownBy w' (some i) := by
  go_enter Tryd.func19, Tryd.ntmps19
  go_upto_region 7 with fail
  have gB : Below w.heap.size w ((w.alloc (.cells #[.int .i64 5, .int .i64 most] 57)).alloc (.cells #[.int .u64 0, .string ⟨#[]⟩] 54)) := ((Below.refl _ w).alloc (Nat.le_refl _) _).alloc (by simp) _
  have rg : Row ((w.alloc (.cells #[.int .i64 5, .int .i64 most] 57)).alloc (.cells #[.int .u64 0, .string ⟨#[]⟩] 54)) (w.heap.size + 1) 54 [.int .u64 0, .string ⟨#[]⟩] := by
    have := Row.new (w.alloc (.cells #[.int .i64 5, .int .i64 most] 57)) 54 [.int .u64 0, .string ⟨#[]⟩]
    rwa [World.size_alloc] at this
  have rk : Row ((w.alloc (.cells #[.int .i64 5, .int .i64 most] 57)).alloc (.cells #[.int .u64 0, .string ⟨#[]⟩] 54)) w.heap.size 57 [.int .i64 5, .int .i64 most] := (Row.new w 57 [.int .i64 5, .int .i64 most]).alloc _
  generalize (w.alloc (.cells #[.int .i64 5, .int .i64 most] 57)).alloc (.cells #[.int .u64 0, .string ⟨#[]⟩] 54) = W at *
  have kk0 : W.cell? ⟨w.heap.size, 0, none⟩ = some (.int .i64 5) := rk.cell 0
  have kk1 : W.cell? ⟨w.heap.size, 1, none⟩ = some (.int .i64 most) := rk.cell 1
  go_wp2_with (go_at_call 63; refine (H.out _ gB).mono ?_; rintro e w2 ⟨rfl, q2, g2⟩; have rg2 := rg.grown g2 (by intro e; cases e; omega); have k0 : w2.cell? ⟨w.heap.size + 1, 0, none⟩ = some (.int .u64 0) := rg2.cell 0; have k1 : w2.cell? ⟨w.heap.size + 1, 1, none⟩ = some (.string ⟨#[]⟩) := rg2.cell 1; have f0 := rg2.frozen 0; have f1 := rg2.frozen 1)
  have z0 : ((w2.setCell ⟨w.heap.size + 1, 0, none⟩ (.int .u64 (IntKind.u64.wrap (wrap32 z)))).setCell ⟨w.heap.size + 1, 1, none⟩ (.string ⟨#[]⟩)).cell? ⟨w.heap.size + 1, 0, none⟩ = some (.int .u64 (IntKind.u64.wrap (wrap32 z))) := ((rg2.set 0 (.int .u64 (IntKind.u64.wrap (wrap32 z)))).set 1 (.string ⟨#[]⟩)).cell 0
  have z1 : ((w2.setCell ⟨w.heap.size + 1, 0, none⟩ (.int .u64 (IntKind.u64.wrap (wrap32 z)))).setCell ⟨w.heap.size + 1, 1, none⟩ (.string ⟨#[]⟩)).cell? ⟨w.heap.size + 1, 1, none⟩ = some (.string ⟨#[]⟩) := ((rg2.set 0 (.int .u64 (IntKind.u64.wrap (wrap32 z)))).set 1 (.string ⟨#[]⟩)).cell 1
  have gs : w2.grownBy ((w2.setCell ⟨w.heap.size + 1, 0, none⟩ (.int .u64 (IntKind.u64.wrap (wrap32 z)))).setCell ⟨w.heap.size + 1, 1, none⟩ (.string ⟨#[]⟩)) (some (w.heap.size + 1)) := setCells_grown [_, _] 0 w2
  have gw := grown_box gB rg.lt g2 gs
  generalize (w2.setCell ⟨w.heap.size + 1, 0, none⟩ (.int .u64 (IntKind.u64.wrap (wrap32 z)))).setCell ⟨w.heap.size + 1, 1, none⟩ (.string ⟨#[]⟩) = W4 at *
  refine bodyPost_ret (v := gotV (IntKind.u64.wrap (wrap32 z)) []) (by simp [results, Tryd.results19, go_sem, z0, z1, gotV]) rfl ⟨rfl, hR _ _ q2 rg2 gs, gw⟩
set_option maxRecDepth 20000 in
set_option maxHeartbeats 3200000 in
theorem taken2 (p : Value) (most z : Int) (w : World) (i : Nat) (hi : i < w.heap.size) (R : World → Prop) (hR : ∀ a b, R a → Row a (w.heap.size + 1) 54 [.int .u64 0, .string ⟨#[]⟩] → a.grownBy b (some (w.heap.size + 1)) → R b) (H : Hid (∀ w1, Below w.heap.size w w1 → Calls Tryd.prog 63 #[p, .int .i64 1] w1 fun e w2 => e = .returned (.int .u64 z) ∧ R w2 ∧ w1.grownBy w2 (some i))) :
    Calls Tryd.prog 19 #[p, .agg #[.int .i64 2, .int .i64 most]] w fun e w' => e = .returned (gotV (z) []) ∧ R w' ∧ w.grownBy w' (some i) := by
  go_enter Tryd.func19, Tryd.ntmps19
  go_upto_region 17 with fail
  have gB : Below w.heap.size w ((w.alloc (.cells #[.int .i64 2, .int .i64 most] 57)).alloc (.cells #[.int .u64 0, .string ⟨#[]⟩] 54)) := ((Below.refl _ w).alloc (Nat.le_refl _) _).alloc (by simp) _
  have rg : Row ((w.alloc (.cells #[.int .i64 2, .int .i64 most] 57)).alloc (.cells #[.int .u64 0, .string ⟨#[]⟩] 54)) (w.heap.size + 1) 54 [.int .u64 0, .string ⟨#[]⟩] := by
    have := Row.new (w.alloc (.cells #[.int .i64 2, .int .i64 most] 57)) 54 [.int .u64 0, .string ⟨#[]⟩]
    rwa [World.size_alloc] at this
  have rk : Row ((w.alloc (.cells #[.int .i64 2, .int .i64 most] 57)).alloc (.cells #[.int .u64 0, .string ⟨#[]⟩] 54)) w.heap.size 57 [.int .i64 2, .int .i64 most] := (Row.new w 57 [.int .i64 2, .int .i64 most]).alloc _
  generalize (w.alloc (.cells #[.int .i64 2, .int .i64 most] 57)).alloc (.cells #[.int .u64 0, .string ⟨#[]⟩] 54) = W at *
  have kk0 : W.cell? ⟨w.heap.size, 0, none⟩ = some (.int .i64 2) := rk.cell 0
  have kk1 : W.cell? ⟨w.heap.size, 1, none⟩ = some (.int .i64 most) := rk.cell 1
  go_wp2_with (first | (go_at_call 48; refine (wd2 _).mono ?_; rintro e w9 ⟨rfl, rfl⟩) | (go_at_call 63; refine (H.out _ gB).mono ?_; rintro e w2 ⟨rfl, q2, g2⟩; have rg2 := rg.grown g2 (by intro e; cases e; omega); have k0 : w2.cell? ⟨w.heap.size + 1, 0, none⟩ = some (.int .u64 0) := rg2.cell 0; have k1 : w2.cell? ⟨w.heap.size + 1, 1, none⟩ = some (.string ⟨#[]⟩) := rg2.cell 1; have f0 := rg2.frozen 0; have f1 := rg2.frozen 1))
  have z0 : ((w2.setCell ⟨w.heap.size + 1, 0, none⟩ (.int .u64 (z))).setCell ⟨w.heap.size + 1, 1, none⟩ (.string ⟨#[]⟩)).cell? ⟨w.heap.size + 1, 0, none⟩ = some (.int .u64 (z)) := ((rg2.set 0 (.int .u64 (z))).set 1 (.string ⟨#[]⟩)).cell 0
  have z1 : ((w2.setCell ⟨w.heap.size + 1, 0, none⟩ (.int .u64 (z))).setCell ⟨w.heap.size + 1, 1, none⟩ (.string ⟨#[]⟩)).cell? ⟨w.heap.size + 1, 1, none⟩ = some (.string ⟨#[]⟩) := ((rg2.set 0 (.int .u64 (z))).set 1 (.string ⟨#[]⟩)).cell 1
  have gs : w2.grownBy ((w2.setCell ⟨w.heap.size + 1, 0, none⟩ (.int .u64 (z))).setCell ⟨w.heap.size + 1, 1, none⟩ (.string ⟨#[]⟩)) (some (w.heap.size + 1)) := setCells_grown [_, _] 0 w2
  have gw := grown_box gB rg.lt g2 gs
  generalize (w2.setCell ⟨w.heap.size + 1, 0, none⟩ (.int .u64 (z))).setCell ⟨w.heap.size + 1, 1, none⟩ (.string ⟨#[]⟩) = W4 at *
  refine bodyPost_ret (v := gotV (z) []) (by simp [results, Tryd.results19, go_sem, z0, z1, gotV]) rfl ⟨rfl, hR _ _ q2 rg2 gs, gw⟩
set_option maxRecDepth 20000 in
set_option maxHeartbeats 3200000 in
theorem taken4 (p : Value) (most z : Int) (w : World) (i : Nat) (hi : i < w.heap.size) (R : World → Prop) (hR : ∀ a b, R a → Row a (w.heap.size + 1) 54 [.int .u64 0, .string ⟨#[]⟩] → a.grownBy b (some (w.heap.size + 1)) → R b) (H : Hid (∀ w1, Below w.heap.size w w1 → Calls Tryd.prog 63 #[p, .int .i64 2] w1 fun e w2 => e = .returned (.int .u64 z) ∧ R w2 ∧ w1.grownBy w2 (some i))) :
    Calls Tryd.prog 19 #[p, .agg #[.int .i64 4, .int .i64 most]] w fun e w' => e = .returned (gotV (z) []) ∧ R w' ∧ w.grownBy w' (some i) := by
  go_enter Tryd.func19, Tryd.ntmps19
  go_upto_region 17 with fail
  have gB : Below w.heap.size w ((w.alloc (.cells #[.int .i64 4, .int .i64 most] 57)).alloc (.cells #[.int .u64 0, .string ⟨#[]⟩] 54)) := ((Below.refl _ w).alloc (Nat.le_refl _) _).alloc (by simp) _
  have rg : Row ((w.alloc (.cells #[.int .i64 4, .int .i64 most] 57)).alloc (.cells #[.int .u64 0, .string ⟨#[]⟩] 54)) (w.heap.size + 1) 54 [.int .u64 0, .string ⟨#[]⟩] := by
    have := Row.new (w.alloc (.cells #[.int .i64 4, .int .i64 most] 57)) 54 [.int .u64 0, .string ⟨#[]⟩]
    rwa [World.size_alloc] at this
  have rk : Row ((w.alloc (.cells #[.int .i64 4, .int .i64 most] 57)).alloc (.cells #[.int .u64 0, .string ⟨#[]⟩] 54)) w.heap.size 57 [.int .i64 4, .int .i64 most] := (Row.new w 57 [.int .i64 4, .int .i64 most]).alloc _
  generalize (w.alloc (.cells #[.int .i64 4, .int .i64 most] 57)).alloc (.cells #[.int .u64 0, .string ⟨#[]⟩] 54) = W at *
  have kk0 : W.cell? ⟨w.heap.size, 0, none⟩ = some (.int .i64 4) := rk.cell 0
  have kk1 : W.cell? ⟨w.heap.size, 1, none⟩ = some (.int .i64 most) := rk.cell 1
  go_wp2_with (first | (go_at_call 48; refine (wd4 _).mono ?_; rintro e w9 ⟨rfl, rfl⟩) | (go_at_call 63; refine (H.out _ gB).mono ?_; rintro e w2 ⟨rfl, q2, g2⟩; have rg2 := rg.grown g2 (by intro e; cases e; omega); have k0 : w2.cell? ⟨w.heap.size + 1, 0, none⟩ = some (.int .u64 0) := rg2.cell 0; have k1 : w2.cell? ⟨w.heap.size + 1, 1, none⟩ = some (.string ⟨#[]⟩) := rg2.cell 1; have f0 := rg2.frozen 0; have f1 := rg2.frozen 1))
  have z0 : ((w2.setCell ⟨w.heap.size + 1, 0, none⟩ (.int .u64 (z))).setCell ⟨w.heap.size + 1, 1, none⟩ (.string ⟨#[]⟩)).cell? ⟨w.heap.size + 1, 0, none⟩ = some (.int .u64 (z)) := ((rg2.set 0 (.int .u64 (z))).set 1 (.string ⟨#[]⟩)).cell 0
  have z1 : ((w2.setCell ⟨w.heap.size + 1, 0, none⟩ (.int .u64 (z))).setCell ⟨w.heap.size + 1, 1, none⟩ (.string ⟨#[]⟩)).cell? ⟨w.heap.size + 1, 1, none⟩ = some (.string ⟨#[]⟩) := ((rg2.set 0 (.int .u64 (z))).set 1 (.string ⟨#[]⟩)).cell 1
  have gs : w2.grownBy ((w2.setCell ⟨w.heap.size + 1, 0, none⟩ (.int .u64 (z))).setCell ⟨w.heap.size + 1, 1, none⟩ (.string ⟨#[]⟩)) (some (w.heap.size + 1)) := setCells_grown [_, _] 0 w2
  have gw := grown_box gB rg.lt g2 gs
  generalize (w2.setCell ⟨w.heap.size + 1, 0, none⟩ (.int .u64 (z))).setCell ⟨w.heap.size + 1, 1, none⟩ (.string ⟨#[]⟩) = W4 at *
  refine bodyPost_ret (v := gotV (z) []) (by simp [results, Tryd.results19, go_sem, z0, z1, gotV]) rfl ⟨rfl, hR _ _ q2 rg2 gs, gw⟩
set_option maxRecDepth 20000 in
set_option maxHeartbeats 3200000 in
theorem taken6 (p : Value) (most z : Int) (w : World) (i : Nat) (hi : i < w.heap.size) (R : World → Prop) (hR : ∀ a b, R a → Row a (w.heap.size + 1) 54 [.int .u64 0, .string ⟨#[]⟩] → a.grownBy b (some (w.heap.size + 1)) → R b) (H : Hid (∀ w1, Below w.heap.size w w1 → Calls Tryd.prog 63 #[p, .int .i64 4] w1 fun e w2 => e = .returned (.int .u64 z) ∧ R w2 ∧ w1.grownBy w2 (some i))) :
    Calls Tryd.prog 19 #[p, .agg #[.int .i64 6, .int .i64 most]] w fun e w' => e = .returned (gotV (z) []) ∧ R w' ∧ w.grownBy w' (some i) := by
  go_enter Tryd.func19, Tryd.ntmps19
  go_upto_region 17 with fail
  have gB : Below w.heap.size w ((w.alloc (.cells #[.int .i64 6, .int .i64 most] 57)).alloc (.cells #[.int .u64 0, .string ⟨#[]⟩] 54)) := ((Below.refl _ w).alloc (Nat.le_refl _) _).alloc (by simp) _
  have rg : Row ((w.alloc (.cells #[.int .i64 6, .int .i64 most] 57)).alloc (.cells #[.int .u64 0, .string ⟨#[]⟩] 54)) (w.heap.size + 1) 54 [.int .u64 0, .string ⟨#[]⟩] := by
    have := Row.new (w.alloc (.cells #[.int .i64 6, .int .i64 most] 57)) 54 [.int .u64 0, .string ⟨#[]⟩]
    rwa [World.size_alloc] at this
  have rk : Row ((w.alloc (.cells #[.int .i64 6, .int .i64 most] 57)).alloc (.cells #[.int .u64 0, .string ⟨#[]⟩] 54)) w.heap.size 57 [.int .i64 6, .int .i64 most] := (Row.new w 57 [.int .i64 6, .int .i64 most]).alloc _
  generalize (w.alloc (.cells #[.int .i64 6, .int .i64 most] 57)).alloc (.cells #[.int .u64 0, .string ⟨#[]⟩] 54) = W at *
  have kk0 : W.cell? ⟨w.heap.size, 0, none⟩ = some (.int .i64 6) := rk.cell 0
  have kk1 : W.cell? ⟨w.heap.size, 1, none⟩ = some (.int .i64 most) := rk.cell 1
  go_wp2_with (first | (go_at_call 48; refine (wd6 _).mono ?_; rintro e w9 ⟨rfl, rfl⟩) | (go_at_call 63; refine (H.out _ gB).mono ?_; rintro e w2 ⟨rfl, q2, g2⟩; have rg2 := rg.grown g2 (by intro e; cases e; omega); have k0 : w2.cell? ⟨w.heap.size + 1, 0, none⟩ = some (.int .u64 0) := rg2.cell 0; have k1 : w2.cell? ⟨w.heap.size + 1, 1, none⟩ = some (.string ⟨#[]⟩) := rg2.cell 1; have f0 := rg2.frozen 0; have f1 := rg2.frozen 1))
  have z0 : ((w2.setCell ⟨w.heap.size + 1, 0, none⟩ (.int .u64 (z))).setCell ⟨w.heap.size + 1, 1, none⟩ (.string ⟨#[]⟩)).cell? ⟨w.heap.size + 1, 0, none⟩ = some (.int .u64 (z)) := ((rg2.set 0 (.int .u64 (z))).set 1 (.string ⟨#[]⟩)).cell 0
  have z1 : ((w2.setCell ⟨w.heap.size + 1, 0, none⟩ (.int .u64 (z))).setCell ⟨w.heap.size + 1, 1, none⟩ (.string ⟨#[]⟩)).cell? ⟨w.heap.size + 1, 1, none⟩ = some (.string ⟨#[]⟩) := ((rg2.set 0 (.int .u64 (z))).set 1 (.string ⟨#[]⟩)).cell 1
  have gs : w2.grownBy ((w2.setCell ⟨w.heap.size + 1, 0, none⟩ (.int .u64 (z))).setCell ⟨w.heap.size + 1, 1, none⟩ (.string ⟨#[]⟩)) (some (w.heap.size + 1)) := setCells_grown [_, _] 0 w2
  have gw := grown_box gB rg.lt g2 gs
  generalize (w2.setCell ⟨w.heap.size + 1, 0, none⟩ (.int .u64 (z))).setCell ⟨w.heap.size + 1, 1, none⟩ (.string ⟨#[]⟩) = W4 at *
  refine bodyPost_ret (v := gotV (z) []) (by simp [results, Tryd.results19, go_sem, z0, z1, gotV]) rfl ⟨rfl, hR _ _ q2 rg2 gs, gw⟩
set_option maxRecDepth 20000 in
set_option maxHeartbeats 3200000 in
theorem taken7 (p : Value) (most z : Int) (w : World) (i : Nat) (hi : i < w.heap.size) (R : World → Prop) (hR : ∀ a b, R a → Row a (w.heap.size + 1) 54 [.int .u64 0, .string ⟨#[]⟩] → a.grownBy b (some (w.heap.size + 1)) → R b) (H : Hid (∀ w1, Below w.heap.size w w1 → Calls Tryd.prog 63 #[p, .int .i64 8] w1 fun e w2 => e = .returned (.int .u64 z) ∧ R w2 ∧ w1.grownBy w2 (some i))) :
    Calls Tryd.prog 19 #[p, .agg #[.int .i64 7, .int .i64 most]] w fun e w' => e = .returned (gotV (z) []) ∧ R w' ∧ w.grownBy w' (some i) := by
  go_enter Tryd.func19, Tryd.ntmps19
  go_upto_region 17 with fail
  have gB : Below w.heap.size w ((w.alloc (.cells #[.int .i64 7, .int .i64 most] 57)).alloc (.cells #[.int .u64 0, .string ⟨#[]⟩] 54)) := ((Below.refl _ w).alloc (Nat.le_refl _) _).alloc (by simp) _
  have rg : Row ((w.alloc (.cells #[.int .i64 7, .int .i64 most] 57)).alloc (.cells #[.int .u64 0, .string ⟨#[]⟩] 54)) (w.heap.size + 1) 54 [.int .u64 0, .string ⟨#[]⟩] := by
    have := Row.new (w.alloc (.cells #[.int .i64 7, .int .i64 most] 57)) 54 [.int .u64 0, .string ⟨#[]⟩]
    rwa [World.size_alloc] at this
  have rk : Row ((w.alloc (.cells #[.int .i64 7, .int .i64 most] 57)).alloc (.cells #[.int .u64 0, .string ⟨#[]⟩] 54)) w.heap.size 57 [.int .i64 7, .int .i64 most] := (Row.new w 57 [.int .i64 7, .int .i64 most]).alloc _
  generalize (w.alloc (.cells #[.int .i64 7, .int .i64 most] 57)).alloc (.cells #[.int .u64 0, .string ⟨#[]⟩] 54) = W at *
  have kk0 : W.cell? ⟨w.heap.size, 0, none⟩ = some (.int .i64 7) := rk.cell 0
  have kk1 : W.cell? ⟨w.heap.size, 1, none⟩ = some (.int .i64 most) := rk.cell 1
  go_wp2_with (first | (go_at_call 48; refine (wd7 _).mono ?_; rintro e w9 ⟨rfl, rfl⟩) | (go_at_call 63; refine (H.out _ gB).mono ?_; rintro e w2 ⟨rfl, q2, g2⟩; have rg2 := rg.grown g2 (by intro e; cases e; omega); have k0 : w2.cell? ⟨w.heap.size + 1, 0, none⟩ = some (.int .u64 0) := rg2.cell 0; have k1 : w2.cell? ⟨w.heap.size + 1, 1, none⟩ = some (.string ⟨#[]⟩) := rg2.cell 1; have f0 := rg2.frozen 0; have f1 := rg2.frozen 1))
  have z0 : ((w2.setCell ⟨w.heap.size + 1, 0, none⟩ (.int .u64 (z))).setCell ⟨w.heap.size + 1, 1, none⟩ (.string ⟨#[]⟩)).cell? ⟨w.heap.size + 1, 0, none⟩ = some (.int .u64 (z)) := ((rg2.set 0 (.int .u64 (z))).set 1 (.string ⟨#[]⟩)).cell 0
  have z1 : ((w2.setCell ⟨w.heap.size + 1, 0, none⟩ (.int .u64 (z))).setCell ⟨w.heap.size + 1, 1, none⟩ (.string ⟨#[]⟩)).cell? ⟨w.heap.size + 1, 1, none⟩ = some (.string ⟨#[]⟩) := ((rg2.set 0 (.int .u64 (z))).set 1 (.string ⟨#[]⟩)).cell 1
  have gs : w2.grownBy ((w2.setCell ⟨w.heap.size + 1, 0, none⟩ (.int .u64 (z))).setCell ⟨w.heap.size + 1, 1, none⟩ (.string ⟨#[]⟩)) (some (w.heap.size + 1)) := setCells_grown [_, _] 0 w2
  have gw := grown_box gB rg.lt g2 gs
  generalize (w2.setCell ⟨w.heap.size + 1, 0, none⟩ (.int .u64 (z))).setCell ⟨w.heap.size + 1, 1, none⟩ (.string ⟨#[]⟩) = W4 at *
  refine bodyPost_ret (v := gotV (z) []) (by simp [results, Tryd.results19, go_sem, z0, z1, gotV]) rfl ⟨rfl, hR _ _ q2 rg2 gs, gw⟩
set_option maxRecDepth 20000 in
set_option maxHeartbeats 3200000 in
theorem taken8 (p : Value) (most z : Int) (w : World) (i : Nat) (hi : i < w.heap.size) (R : World → Prop) (hR : ∀ a b, R a → Row a (w.heap.size + 1) 54 [.int .u64 0, .string ⟨#[]⟩] → a.grownBy b (some (w.heap.size + 1)) → R b) (H : Hid (∀ w1, Below w.heap.size w w1 → Calls Tryd.prog 63 #[p, .int .i64 8] w1 fun e w2 => e = .returned (.int .u64 z) ∧ R w2 ∧ w1.grownBy w2 (some i))) :
    Calls Tryd.prog 19 #[p, .agg #[.int .i64 8, .int .i64 most]] w fun e w' => e = .returned (gotV (z) []) ∧ R w' ∧ w.grownBy w' (some i) := by
  go_enter Tryd.func19, Tryd.ntmps19
  go_upto_region 17 with fail
  have gB : Below w.heap.size w ((w.alloc (.cells #[.int .i64 8, .int .i64 most] 57)).alloc (.cells #[.int .u64 0, .string ⟨#[]⟩] 54)) := ((Below.refl _ w).alloc (Nat.le_refl _) _).alloc (by simp) _
  have rg : Row ((w.alloc (.cells #[.int .i64 8, .int .i64 most] 57)).alloc (.cells #[.int .u64 0, .string ⟨#[]⟩] 54)) (w.heap.size + 1) 54 [.int .u64 0, .string ⟨#[]⟩] := by
    have := Row.new (w.alloc (.cells #[.int .i64 8, .int .i64 most] 57)) 54 [.int .u64 0, .string ⟨#[]⟩]
    rwa [World.size_alloc] at this
  have rk : Row ((w.alloc (.cells #[.int .i64 8, .int .i64 most] 57)).alloc (.cells #[.int .u64 0, .string ⟨#[]⟩] 54)) w.heap.size 57 [.int .i64 8, .int .i64 most] := (Row.new w 57 [.int .i64 8, .int .i64 most]).alloc _
  generalize (w.alloc (.cells #[.int .i64 8, .int .i64 most] 57)).alloc (.cells #[.int .u64 0, .string ⟨#[]⟩] 54) = W at *
  have kk0 : W.cell? ⟨w.heap.size, 0, none⟩ = some (.int .i64 8) := rk.cell 0
  have kk1 : W.cell? ⟨w.heap.size, 1, none⟩ = some (.int .i64 most) := rk.cell 1
  go_wp2_with (first | (go_at_call 48; refine (wd8 _).mono ?_; rintro e w9 ⟨rfl, rfl⟩) | (go_at_call 63; refine (H.out _ gB).mono ?_; rintro e w2 ⟨rfl, q2, g2⟩; have rg2 := rg.grown g2 (by intro e; cases e; omega); have k0 : w2.cell? ⟨w.heap.size + 1, 0, none⟩ = some (.int .u64 0) := rg2.cell 0; have k1 : w2.cell? ⟨w.heap.size + 1, 1, none⟩ = some (.string ⟨#[]⟩) := rg2.cell 1; have f0 := rg2.frozen 0; have f1 := rg2.frozen 1))
  have z0 : ((w2.setCell ⟨w.heap.size + 1, 0, none⟩ (.int .u64 (z))).setCell ⟨w.heap.size + 1, 1, none⟩ (.string ⟨#[]⟩)).cell? ⟨w.heap.size + 1, 0, none⟩ = some (.int .u64 (z)) := ((rg2.set 0 (.int .u64 (z))).set 1 (.string ⟨#[]⟩)).cell 0
  have z1 : ((w2.setCell ⟨w.heap.size + 1, 0, none⟩ (.int .u64 (z))).setCell ⟨w.heap.size + 1, 1, none⟩ (.string ⟨#[]⟩)).cell? ⟨w.heap.size + 1, 1, none⟩ = some (.string ⟨#[]⟩) := ((rg2.set 0 (.int .u64 (z))).set 1 (.string ⟨#[]⟩)).cell 1
  have gs : w2.grownBy ((w2.setCell ⟨w.heap.size + 1, 0, none⟩ (.int .u64 (z))).setCell ⟨w.heap.size + 1, 1, none⟩ (.string ⟨#[]⟩)) (some (w.heap.size + 1)) := setCells_grown [_, _] 0 w2
  have gw := grown_box gB rg.lt g2 gs
  generalize (w2.setCell ⟨w.heap.size + 1, 0, none⟩ (.int .u64 (z))).setCell ⟨w.heap.size + 1, 1, none⟩ (.string ⟨#[]⟩) = W4 at *
  refine bodyPost_ret (v := gotV (z) []) (by simp [results, Tryd.results19, go_sem, z0, z1, gotV]) rfl ⟨rfl, hR _ _ q2 rg2 gs, gw⟩
set_option maxRecDepth 20000 in
set_option maxHeartbeats 3200000 in
theorem taken12 (p : Value) (most z : Int) (w : World) (i : Nat) (hi : i < w.heap.size) (R : World → Prop) (hR : ∀ a b, R a → Row a (w.heap.size + 1) 54 [.int .u64 0, .string ⟨#[]⟩] → a.grownBy b (some (w.heap.size + 1)) → R b) (H : Hid (∀ w1, Below w.heap.size w w1 → Calls Tryd.prog 63 #[p, .int .i64 1] w1 fun e w2 => e = .returned (.int .u64 z) ∧ R w2 ∧ w1.grownBy w2 (some i))) :
    Calls Tryd.prog 19 #[p, .agg #[.int .i64 12, .int .i64 most]] w fun e w' => e = .returned (gotV (z) []) ∧ R w' ∧ w.grownBy w' (some i) := by
  go_enter Tryd.func19, Tryd.ntmps19
  go_upto_region 17 with fail
  have gB : Below w.heap.size w ((w.alloc (.cells #[.int .i64 12, .int .i64 most] 57)).alloc (.cells #[.int .u64 0, .string ⟨#[]⟩] 54)) := ((Below.refl _ w).alloc (Nat.le_refl _) _).alloc (by simp) _
  have rg : Row ((w.alloc (.cells #[.int .i64 12, .int .i64 most] 57)).alloc (.cells #[.int .u64 0, .string ⟨#[]⟩] 54)) (w.heap.size + 1) 54 [.int .u64 0, .string ⟨#[]⟩] := by
    have := Row.new (w.alloc (.cells #[.int .i64 12, .int .i64 most] 57)) 54 [.int .u64 0, .string ⟨#[]⟩]
    rwa [World.size_alloc] at this
  have rk : Row ((w.alloc (.cells #[.int .i64 12, .int .i64 most] 57)).alloc (.cells #[.int .u64 0, .string ⟨#[]⟩] 54)) w.heap.size 57 [.int .i64 12, .int .i64 most] := (Row.new w 57 [.int .i64 12, .int .i64 most]).alloc _
  generalize (w.alloc (.cells #[.int .i64 12, .int .i64 most] 57)).alloc (.cells #[.int .u64 0, .string ⟨#[]⟩] 54) = W at *
  have kk0 : W.cell? ⟨w.heap.size, 0, none⟩ = some (.int .i64 12) := rk.cell 0
  have kk1 : W.cell? ⟨w.heap.size, 1, none⟩ = some (.int .i64 most) := rk.cell 1
  go_wp2_with (first | (go_at_call 48; refine (wd12 _).mono ?_; rintro e w9 ⟨rfl, rfl⟩) | (go_at_call 63; refine (H.out _ gB).mono ?_; rintro e w2 ⟨rfl, q2, g2⟩; have rg2 := rg.grown g2 (by intro e; cases e; omega); have k0 : w2.cell? ⟨w.heap.size + 1, 0, none⟩ = some (.int .u64 0) := rg2.cell 0; have k1 : w2.cell? ⟨w.heap.size + 1, 1, none⟩ = some (.string ⟨#[]⟩) := rg2.cell 1; have f0 := rg2.frozen 0; have f1 := rg2.frozen 1))
  have z0 : ((w2.setCell ⟨w.heap.size + 1, 0, none⟩ (.int .u64 (z))).setCell ⟨w.heap.size + 1, 1, none⟩ (.string ⟨#[]⟩)).cell? ⟨w.heap.size + 1, 0, none⟩ = some (.int .u64 (z)) := ((rg2.set 0 (.int .u64 (z))).set 1 (.string ⟨#[]⟩)).cell 0
  have z1 : ((w2.setCell ⟨w.heap.size + 1, 0, none⟩ (.int .u64 (z))).setCell ⟨w.heap.size + 1, 1, none⟩ (.string ⟨#[]⟩)).cell? ⟨w.heap.size + 1, 1, none⟩ = some (.string ⟨#[]⟩) := ((rg2.set 0 (.int .u64 (z))).set 1 (.string ⟨#[]⟩)).cell 1
  have gs : w2.grownBy ((w2.setCell ⟨w.heap.size + 1, 0, none⟩ (.int .u64 (z))).setCell ⟨w.heap.size + 1, 1, none⟩ (.string ⟨#[]⟩)) (some (w.heap.size + 1)) := setCells_grown [_, _] 0 w2
  have gw := grown_box gB rg.lt g2 gs
  generalize (w2.setCell ⟨w.heap.size + 1, 0, none⟩ (.int .u64 (z))).setCell ⟨w.heap.size + 1, 1, none⟩ (.string ⟨#[]⟩) = W4 at *
  refine bodyPost_ret (v := gotV (z) []) (by simp [results, Tryd.results19, go_sem, z0, z1, gotV]) rfl ⟨rfl, hR _ _ q2 rg2 gs, gw⟩
set_option maxRecDepth 20000 in
set_option maxHeartbeats 3200000 in
theorem taken11 (p : Value) (most z : Int) (w : World) (i : Nat) (hi : i < w.heap.size) (R : World → Prop) (hR : ∀ a b, R a → Row a (w.heap.size + 1) 54 [.int .u64 0, .string ⟨#[]⟩] → a.grownBy b (some (w.heap.size + 1)) → R b) (H : Hid (∀ w1, Below w.heap.size w w1 → Calls Tryd.prog 66 #[p, .int .i64 most] w1 fun e w2 => e = .returned (.int .i64 z) ∧ R w2 ∧ w1.grownBy w2 (some i))) :
    Calls Tryd.prog 19 #[p, .agg #[.int .i64 11, .int .i64 most]] w fun e w' => e = .returned (gotV (IntKind.u64.wrap z) []) ∧ R w' ∧ w.grownBy w' (some i) := by
  go_enter Tryd.func19, Tryd.ntmps19
  go_upto_region 16 with fail
  have gB : Below w.heap.size w ((w.alloc (.cells #[.int .i64 11, .int .i64 most] 57)).alloc (.cells #[.int .u64 0, .string ⟨#[]⟩] 54)) := ((Below.refl _ w).alloc (Nat.le_refl _) _).alloc (by simp) _
  have rg : Row ((w.alloc (.cells #[.int .i64 11, .int .i64 most] 57)).alloc (.cells #[.int .u64 0, .string ⟨#[]⟩] 54)) (w.heap.size + 1) 54 [.int .u64 0, .string ⟨#[]⟩] := by
    have := Row.new (w.alloc (.cells #[.int .i64 11, .int .i64 most] 57)) 54 [.int .u64 0, .string ⟨#[]⟩]
    rwa [World.size_alloc] at this
  have rk : Row ((w.alloc (.cells #[.int .i64 11, .int .i64 most] 57)).alloc (.cells #[.int .u64 0, .string ⟨#[]⟩] 54)) w.heap.size 57 [.int .i64 11, .int .i64 most] := (Row.new w 57 [.int .i64 11, .int .i64 most]).alloc _
  generalize (w.alloc (.cells #[.int .i64 11, .int .i64 most] 57)).alloc (.cells #[.int .u64 0, .string ⟨#[]⟩] 54) = W at *
  have kk0 : W.cell? ⟨w.heap.size, 0, none⟩ = some (.int .i64 11) := rk.cell 0
  have kk1 : W.cell? ⟨w.heap.size, 1, none⟩ = some (.int .i64 most) := rk.cell 1
  go_wp2_with (go_at_call 66; refine (H.out _ gB).mono ?_; rintro e w2 ⟨rfl, q2, g2⟩; have rg2 := rg.grown g2 (by intro e; cases e; omega); have k0 : w2.cell? ⟨w.heap.size + 1, 0, none⟩ = some (.int .u64 0) := rg2.cell 0; have k1 : w2.cell? ⟨w.heap.size + 1, 1, none⟩ = some (.string ⟨#[]⟩) := rg2.cell 1; have f0 := rg2.frozen 0; have f1 := rg2.frozen 1)
  have z0 : ((w2.setCell ⟨w.heap.size + 1, 0, none⟩ (.int .u64 (IntKind.u64.wrap z))).setCell ⟨w.heap.size + 1, 1, none⟩ (.string ⟨#[]⟩)).cell? ⟨w.heap.size + 1, 0, none⟩ = some (.int .u64 (IntKind.u64.wrap z)) := ((rg2.set 0 (.int .u64 (IntKind.u64.wrap z))).set 1 (.string ⟨#[]⟩)).cell 0
  have z1 : ((w2.setCell ⟨w.heap.size + 1, 0, none⟩ (.int .u64 (IntKind.u64.wrap z))).setCell ⟨w.heap.size + 1, 1, none⟩ (.string ⟨#[]⟩)).cell? ⟨w.heap.size + 1, 1, none⟩ = some (.string ⟨#[]⟩) := ((rg2.set 0 (.int .u64 (IntKind.u64.wrap z))).set 1 (.string ⟨#[]⟩)).cell 1
  have gs : w2.grownBy ((w2.setCell ⟨w.heap.size + 1, 0, none⟩ (.int .u64 (IntKind.u64.wrap z))).setCell ⟨w.heap.size + 1, 1, none⟩ (.string ⟨#[]⟩)) (some (w.heap.size + 1)) := setCells_grown [_, _] 0 w2
  have gw := grown_box gB rg.lt g2 gs
  generalize (w2.setCell ⟨w.heap.size + 1, 0, none⟩ (.int .u64 (IntKind.u64.wrap z))).setCell ⟨w.heap.size + 1, 1, none⟩ (.string ⟨#[]⟩) = W4 at *
  refine bodyPost_ret (v := gotV (IntKind.u64.wrap z) []) (by simp [results, Tryd.results19, go_sem, z0, z1, gotV]) rfl ⟨rfl, hR _ _ q2 rg2 gs, gw⟩
set_option maxRecDepth 20000 in
set_option maxHeartbeats 3200000 in
theorem taken10 (p : Value) (most : Int) (s : List UInt8) (w : World) (i : Nat) (hi : i < w.heap.size) (R : World → Prop) (hR : ∀ a b, R a → Row a (w.heap.size + 1) 54 [.int .u64 0, .string ⟨#[]⟩] → a.grownBy b (some (w.heap.size + 1)) → R b) (H : Hid (∀ w1, Below w.heap.size w w1 → Calls Tryd.prog 65 #[p, .int .i64 most] w1 fun e w2 => e = .returned (.string ⟨s.toArray⟩) ∧ R w2 ∧ w1.grownBy w2 (some i))) :
    Calls Tryd.prog 19 #[p, .agg #[.int .i64 10, .int .i64 most]] w fun e w' => e = .returned (gotV 0 s) ∧ R w' ∧ w.grownBy w' (some i) := by
  go_enter Tryd.func19, Tryd.ntmps19
  go_upto_region 14 with fail
  have gB : Below w.heap.size w ((w.alloc (.cells #[.int .i64 10, .int .i64 most] 57)).alloc (.cells #[.int .u64 0, .string ⟨#[]⟩] 54)) := ((Below.refl _ w).alloc (Nat.le_refl _) _).alloc (by simp) _
  have rg : Row ((w.alloc (.cells #[.int .i64 10, .int .i64 most] 57)).alloc (.cells #[.int .u64 0, .string ⟨#[]⟩] 54)) (w.heap.size + 1) 54 [.int .u64 0, .string ⟨#[]⟩] := by
    have := Row.new (w.alloc (.cells #[.int .i64 10, .int .i64 most] 57)) 54 [.int .u64 0, .string ⟨#[]⟩]
    rwa [World.size_alloc] at this
  have rk : Row ((w.alloc (.cells #[.int .i64 10, .int .i64 most] 57)).alloc (.cells #[.int .u64 0, .string ⟨#[]⟩] 54)) w.heap.size 57 [.int .i64 10, .int .i64 most] := (Row.new w 57 [.int .i64 10, .int .i64 most]).alloc _
  generalize (w.alloc (.cells #[.int .i64 10, .int .i64 most] 57)).alloc (.cells #[.int .u64 0, .string ⟨#[]⟩] 54) = W at *
  have kk0 : W.cell? ⟨w.heap.size, 0, none⟩ = some (.int .i64 10) := rk.cell 0
  have kk1 : W.cell? ⟨w.heap.size, 1, none⟩ = some (.int .i64 most) := rk.cell 1
  go_wp2_with (go_at_call 65; refine (H.out _ gB).mono ?_; rintro e w2 ⟨rfl, q2, g2⟩; have rg2 := rg.grown g2 (by intro e; cases e; omega); have k0 : w2.cell? ⟨w.heap.size + 1, 0, none⟩ = some (.int .u64 0) := rg2.cell 0; have k1 : w2.cell? ⟨w.heap.size + 1, 1, none⟩ = some (.string ⟨#[]⟩) := rg2.cell 1; have f0 := rg2.frozen 0; have f1 := rg2.frozen 1)
  have z0 : ((w2.setCell ⟨w.heap.size + 1, 0, none⟩ (.int .u64 0)).setCell ⟨w.heap.size + 1, 1, none⟩ (.string ⟨s.toArray⟩)).cell? ⟨w.heap.size + 1, 0, none⟩ = some (.int .u64 0) := ((rg2.set 0 (.int .u64 0)).set 1 (.string ⟨s.toArray⟩)).cell 0
  have z1 : ((w2.setCell ⟨w.heap.size + 1, 0, none⟩ (.int .u64 0)).setCell ⟨w.heap.size + 1, 1, none⟩ (.string ⟨s.toArray⟩)).cell? ⟨w.heap.size + 1, 1, none⟩ = some (.string ⟨s.toArray⟩) := ((rg2.set 0 (.int .u64 0)).set 1 (.string ⟨s.toArray⟩)).cell 1
  have gs : w2.grownBy ((w2.setCell ⟨w.heap.size + 1, 0, none⟩ (.int .u64 0)).setCell ⟨w.heap.size + 1, 1, none⟩ (.string ⟨s.toArray⟩)) (some (w.heap.size + 1)) := setCells_grown [_, _] 0 w2
  have gw := grown_box gB rg.lt g2 gs
  generalize (w2.setCell ⟨w.heap.size + 1, 0, none⟩ (.int .u64 0)).setCell ⟨w.heap.size + 1, 1, none⟩ (.string ⟨s.toArray⟩) = W4 at *
  refine bodyPost_ret (v := gotV 0 s) (by simp [results, Tryd.results19, go_sem, z0, z1, gotV]) rfl ⟨rfl, hR _ _ q2 rg2 gs, gw⟩
end Go.Proofs.YtomklacjaadcaaaDoor
