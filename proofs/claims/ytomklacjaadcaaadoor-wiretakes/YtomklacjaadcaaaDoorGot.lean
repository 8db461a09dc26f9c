/- The law's takes: what each kind answers, by what the program's own call answers. -/
import Derived.Test.YtomklacjaadcaaaDoorRef4
namespace Go.Proofs.YtomklacjaadcaaaDoor
open Go.RowKit Go.Sort
def gotV (n : Int) (t : List UInt8) : Value := .agg #[.int .u64 n, .string ⟨t.toArray⟩]
theorem grown_box {w W w2 w4 : World} {i : Nat} (gB : Below w.heap.size w W) (hb : w.heap.size + 1 < W.heap.size) (g2 : W.grownBy w2 (some i)) (gs : w2.grownBy w4 (some (w.heap.size + 1))) : w.grownBy w4 (some i) :=
  ⟨gs.os.trans (g2.os.trans gB.os), gs.tape.trans (g2.tape.trans gB.tape), gs.output.trans (g2.output.trans gB.output), Nat.le_trans gB.size (Nat.le_trans g2.size gs.size), fun k hk hr =>
    (gs.block k (by have := g2.size; omega) (by intro e; cases e; omega)).trans ((g2.block k (by omega) hr).trans (gB.block k hk))⟩
set_option maxRecDepth 20000 in
set_option maxHeartbeats 3200000 in
theorem takes1 (p : Value) (most z : Int) (w : World) (i : Nat) (hi : i < w.heap.size) (R : World → Prop) (hR : ∀ a b, R a → Row a (w.heap.size + 1) 54 [.int .u64 0, .string ⟨#[]⟩] → a.grownBy b (some (w.heap.size + 1)) → R b) (H : Hid (∀ w1, Below w.heap.size w w1 → Calls Tryd.prog 51 #[p] w1 fun e w2 => e = .returned (.int .i8 z) ∧ R w2 ∧ w1.grownBy w2 (some i))) :
    Calls Tryd.prog 18 #[p, .agg #[.int .i64 1, .int .i64 most]] w fun e w' => e = .returned (gotV (IntKind.u64.wrap z) []) ∧ R w' ∧ w.grownBy w' (some i) := by
  go_enter Tryd.func18, Tryd.ntmps18
  go_upto_region 3 with fail
  have gB : Below w.heap.size w ((w.alloc (.cells #[.int .i64 1, .int .i64 most] 57)).alloc (.cells #[.int .u64 0, .string ⟨#[]⟩] 54)) := ((Below.refl _ w).alloc (Nat.le_refl _) _).alloc (by simp) _
  have rg : Row ((w.alloc (.cells #[.int .i64 1, .int .i64 most] 57)).alloc (.cells #[.int .u64 0, .string ⟨#[]⟩] 54)) (w.heap.size + 1) 54 [.int .u64 0, .string ⟨#[]⟩] := by
    have := Row.new (w.alloc (.cells #[.int .i64 1, .int .i64 most] 57)) 54 [.int .u64 0, .string ⟨#[]⟩]
    rwa [World.size_alloc] at this
  generalize (w.alloc (.cells #[.int .i64 1, .int .i64 most] 57)).alloc (.cells #[.int .u64 0, .string ⟨#[]⟩] 54) = W at *
  go_wp2_with (go_at_call 51; refine (H.out _ gB).mono ?_; rintro e w2 ⟨rfl, q2, g2⟩; have rg2 := rg.grown g2 (by intro e; cases e; omega); have k0 : w2.cell? ⟨w.heap.size + 1, 0, none⟩ = some (.int .u64 0) := rg2.cell 0; have k1 : w2.cell? ⟨w.heap.size + 1, 1, none⟩ = some (.string ⟨#[]⟩) := rg2.cell 1; have f0 := rg2.frozen 0; have f1 := rg2.frozen 1)
  have z0 : ((w2.setCell ⟨w.heap.size + 1, 0, none⟩ (.int .u64 (IntKind.u64.wrap z))).setCell ⟨w.heap.size + 1, 1, none⟩ (.string ⟨#[]⟩)).cell? ⟨w.heap.size + 1, 0, none⟩ = some (.int .u64 (IntKind.u64.wrap z)) := ((rg2.set 0 (.int .u64 (IntKind.u64.wrap z))).set 1 (.string ⟨#[]⟩)).cell 0
  have z1 : ((w2.setCell ⟨w.heap.size + 1, 0, none⟩ (.int .u64 (IntKind.u64.wrap z))).setCell ⟨w.heap.size + 1, 1, none⟩ (.string ⟨#[]⟩)).cell? ⟨w.heap.size + 1, 1, none⟩ = some (.string ⟨#[]⟩) := ((rg2.set 0 (.int .u64 (IntKind.u64.wrap z))).set 1 (.string ⟨#[]⟩)).cell 1
  have gs : w2.grownBy ((w2.setCell ⟨w.heap.size + 1, 0, none⟩ (.int .u64 (IntKind.u64.wrap z))).setCell ⟨w.heap.size + 1, 1, none⟩ (.string ⟨#[]⟩)) (some (w.heap.size + 1)) := setCells_grown [_, _] 0 w2
  have gw := grown_box gB rg.lt g2 gs
  generalize (w2.setCell ⟨w.heap.size + 1, 0, none⟩ (.int .u64 (IntKind.u64.wrap z))).setCell ⟨w.heap.size + 1, 1, none⟩ (.string ⟨#[]⟩) = W4 at *
  refine bodyPost_ret (v := gotV (IntKind.u64.wrap z) []) (by simp [results, Tryd.results18, go_sem, z0, z1, gotV]) rfl ⟨rfl, hR _ _ q2 rg2 gs, gw⟩
set_option maxRecDepth 20000 in
set_option maxHeartbeats 3200000 in
theorem takes2 (p : Value) (most z : Int) (w : World) (i : Nat) (hi : i < w.heap.size) (R : World → Prop) (hR : ∀ a b, R a → Row a (w.heap.size + 1) 54 [.int .u64 0, .string ⟨#[]⟩] → a.grownBy b (some (w.heap.size + 1)) → R b) (H : Hid (∀ w1, Below w.heap.size w w1 → Calls Tryd.prog 52 #[p] w1 fun e w2 => e = .returned (.int .u8 z) ∧ R w2 ∧ w1.grownBy w2 (some i))) :
    Calls Tryd.prog 18 #[p, .agg #[.int .i64 2, .int .i64 most]] w fun e w' => e = .returned (gotV (IntKind.u64.wrap z) []) ∧ R w' ∧ w.grownBy w' (some i) := by
  go_enter Tryd.func18, Tryd.ntmps18
  go_upto_region 3 with fail
  have gB : Below w.heap.size w ((w.alloc (.cells #[.int .i64 2, .int .i64 most] 57)).alloc (.cells #[.int .u64 0, .string ⟨#[]⟩] 54)) := ((Below.refl _ w).alloc (Nat.le_refl _) _).alloc (by simp) _
  have rg : Row ((w.alloc (.cells #[.int .i64 2, .int .i64 most] 57)).alloc (.cells #[.int .u64 0, .string ⟨#[]⟩] 54)) (w.heap.size + 1) 54 [.int .u64 0, .string ⟨#[]⟩] := by
    have := Row.new (w.alloc (.cells #[.int .i64 2, .int .i64 most] 57)) 54 [.int .u64 0, .string ⟨#[]⟩]
    rwa [World.size_alloc] at this
  generalize (w.alloc (.cells #[.int .i64 2, .int .i64 most] 57)).alloc (.cells #[.int .u64 0, .string ⟨#[]⟩] 54) = W at *
  go_wp2_with (go_at_call 52; refine (H.out _ gB).mono ?_; rintro e w2 ⟨rfl, q2, g2⟩; have rg2 := rg.grown g2 (by intro e; cases e; omega); have k0 : w2.cell? ⟨w.heap.size + 1, 0, none⟩ = some (.int .u64 0) := rg2.cell 0; have k1 : w2.cell? ⟨w.heap.size + 1, 1, none⟩ = some (.string ⟨#[]⟩) := rg2.cell 1; have f0 := rg2.frozen 0; have f1 := rg2.frozen 1)
  have z0 : ((w2.setCell ⟨w.heap.size + 1, 0, none⟩ (.int .u64 (IntKind.u64.wrap z))).setCell ⟨w.heap.size + 1, 1, none⟩ (.string ⟨#[]⟩)).cell? ⟨w.heap.size + 1, 0, none⟩ = some (.int .u64 (IntKind.u64.wrap z)) := ((rg2.set 0 (.int .u64 (IntKind.u64.wrap z))).set 1 (.string ⟨#[]⟩)).cell 0
  have z1 : ((w2.setCell ⟨w.heap.size + 1, 0, none⟩ (.int .u64 (IntKind.u64.wrap z))).setCell ⟨w.heap.size + 1, 1, none⟩ (.string ⟨#[]⟩)).cell? ⟨w.heap.size + 1, 1, none⟩ = some (.string ⟨#[]⟩) := ((rg2.set 0 (.int .u64 (IntKind.u64.wrap z))).set 1 (.string ⟨#[]⟩)).cell 1
  have gs : w2.grownBy ((w2.setCell ⟨w.heap.size + 1, 0, none⟩ (.int .u64 (IntKind.u64.wrap z))).setCell ⟨w.heap.size + 1, 1, none⟩ (.string ⟨#[]⟩)) (some (w.heap.size + 1)) := setCells_grown [_, _] 0 w2
  have gw := grown_box gB rg.lt g2 gs
  generalize (w2.setCell ⟨w.heap.size + 1, 0, none⟩ (.int .u64 (IntKind.u64.wrap z))).setCell ⟨w.heap.size + 1, 1, none⟩ (.string ⟨#[]⟩) = W4 at *
  refine bodyPost_ret (v := gotV (IntKind.u64.wrap z) []) (by simp [results, Tryd.results18, go_sem, z0, z1, gotV]) rfl ⟨rfl, hR _ _ q2 rg2 gs, gw⟩
set_option maxRecDepth 20000 in
set_option maxHeartbeats 3200000 in
theorem takes3 (p : Value) (most z : Int) (w : World) (i : Nat) (hi : i < w.heap.size) (R : World → Prop) (hR : ∀ a b, R a → Row a (w.heap.size + 1) 54 [.int .u64 0, .string ⟨#[]⟩] → a.grownBy b (some (w.heap.size + 1)) → R b) (H : Hid (∀ w1, Below w.heap.size w w1 → Calls Tryd.prog 53 #[p] w1 fun e w2 => e = .returned (.int .i16 z) ∧ R w2 ∧ w1.grownBy w2 (some i))) :
    Calls Tryd.prog 18 #[p, .agg #[.int .i64 3, .int .i64 most]] w fun e w' => e = .returned (gotV (IntKind.u64.wrap z) []) ∧ R w' ∧ w.grownBy w' (some i) := by
  go_enter Tryd.func18, Tryd.ntmps18
  go_upto_region 3 with fail
  have gB : Below w.heap.size w ((w.alloc (.cells #[.int .i64 3, .int .i64 most] 57)).alloc (.cells #[.int .u64 0, .string ⟨#[]⟩] 54)) := ((Below.refl _ w).alloc (Nat.le_refl _) _).alloc (by simp) _
  have rg : Row ((w.alloc (.cells #[.int .i64 3, .int .i64 most] 57)).alloc (.cells #[.int .u64 0, .string ⟨#[]⟩] 54)) (w.heap.size + 1) 54 [.int .u64 0, .string ⟨#[]⟩] := by
    have := Row.new (w.alloc (.cells #[.int .i64 3, .int .i64 most] 57)) 54 [.int .u64 0, .string ⟨#[]⟩]
    rwa [World.size_alloc] at this
  generalize (w.alloc (.cells #[.int .i64 3, .int .i64 most] 57)).alloc (.cells #[.int .u64 0, .string ⟨#[]⟩] 54) = W at *
  go_wp2_with (go_at_call 53; refine (H.out _ gB).mono ?_; rintro e w2 ⟨rfl, q2, g2⟩; have rg2 := rg.grown g2 (by intro e; cases e; omega); have k0 : w2.cell? ⟨w.heap.size + 1, 0, none⟩ = some (.int .u64 0) := rg2.cell 0; have k1 : w2.cell? ⟨w.heap.size + 1, 1, none⟩ = some (.string ⟨#[]⟩) := rg2.cell 1; have f0 := rg2.frozen 0; have f1 := rg2.frozen 1)
  have z0 : ((w2.setCell ⟨w.heap.size + 1, 0, none⟩ (.int .u64 (IntKind.u64.wrap z))).setCell ⟨w.heap.size + 1, 1, none⟩ (.string ⟨#[]⟩)).cell? ⟨w.heap.size + 1, 0, none⟩ = some (.int .u64 (IntKind.u64.wrap z)) := ((rg2.set 0 (.int .u64 (IntKind.u64.wrap z))).set 1 (.string ⟨#[]⟩)).cell 0
  have z1 : ((w2.setCell ⟨w.heap.size + 1, 0, none⟩ (.int .u64 (IntKind.u64.wrap z))).setCell ⟨w.heap.size + 1, 1, none⟩ (.string ⟨#[]⟩)).cell? ⟨w.heap.size + 1, 1, none⟩ = some (.string ⟨#[]⟩) := ((rg2.set 0 (.int .u64 (IntKind.u64.wrap z))).set 1 (.string ⟨#[]⟩)).cell 1
  have gs : w2.grownBy ((w2.setCell ⟨w.heap.size + 1, 0, none⟩ (.int .u64 (IntKind.u64.wrap z))).setCell ⟨w.heap.size + 1, 1, none⟩ (.string ⟨#[]⟩)) (some (w.heap.size + 1)) := setCells_grown [_, _] 0 w2
  have gw := grown_box gB rg.lt g2 gs
  generalize (w2.setCell ⟨w.heap.size + 1, 0, none⟩ (.int .u64 (IntKind.u64.wrap z))).setCell ⟨w.heap.size + 1, 1, none⟩ (.string ⟨#[]⟩) = W4 at *
  refine bodyPost_ret (v := gotV (IntKind.u64.wrap z) []) (by simp [results, Tryd.results18, go_sem, z0, z1, gotV]) rfl ⟨rfl, hR _ _ q2 rg2 gs, gw⟩
set_option maxRecDepth 20000 in
set_option maxHeartbeats 3200000 in
theorem takes4 (p : Value) (most z : Int) (w : World) (i : Nat) (hi : i < w.heap.size) (R : World → Prop) (hR : ∀ a b, R a → Row a (w.heap.size + 1) 54 [.int .u64 0, .string ⟨#[]⟩] → a.grownBy b (some (w.heap.size + 1)) → R b) (H : Hid (∀ w1, Below w.heap.size w w1 → Calls Tryd.prog 33 #[p] w1 fun e w2 => e = .returned (.int .u16 z) ∧ R w2 ∧ w1.grownBy w2 (some i))) :
    Calls Tryd.prog 18 #[p, .agg #[.int .i64 4, .int .i64 most]] w fun e w' => e = .returned (gotV (IntKind.u64.wrap z) []) ∧ R w' ∧ w.grownBy w' (some i) := by
  go_enter Tryd.func18, Tryd.ntmps18
  go_upto_region 3 with fail
  have gB : Below w.heap.size w ((w.alloc (.cells #[.int .i64 4, .int .i64 most] 57)).alloc (.cells #[.int .u64 0, .string ⟨#[]⟩] 54)) := ((Below.refl _ w).alloc (Nat.le_refl _) _).alloc (by simp) _
  have rg : Row ((w.alloc (.cells #[.int .i64 4, .int .i64 most] 57)).alloc (.cells #[.int .u64 0, .string ⟨#[]⟩] 54)) (w.heap.size + 1) 54 [.int .u64 0, .string ⟨#[]⟩] := by
    have := Row.new (w.alloc (.cells #[.int .i64 4, .int .i64 most] 57)) 54 [.int .u64 0, .string ⟨#[]⟩]
    rwa [World.size_alloc] at this
  generalize (w.alloc (.cells #[.int .i64 4, .int .i64 most] 57)).alloc (.cells #[.int .u64 0, .string ⟨#[]⟩] 54) = W at *
  go_wp2_with (go_at_call 33; refine (H.out _ gB).mono ?_; rintro e w2 ⟨rfl, q2, g2⟩; have rg2 := rg.grown g2 (by intro e; cases e; omega); have k0 : w2.cell? ⟨w.heap.size + 1, 0, none⟩ = some (.int .u64 0) := rg2.cell 0; have k1 : w2.cell? ⟨w.heap.size + 1, 1, none⟩ = some (.string ⟨#[]⟩) := rg2.cell 1; have f0 := rg2.frozen 0; have f1 := rg2.frozen 1)
  have z0 : ((w2.setCell ⟨w.heap.size + 1, 0, none⟩ (.int .u64 (IntKind.u64.wrap z))).setCell ⟨w.heap.size + 1, 1, none⟩ (.string ⟨#[]⟩)).cell? ⟨w.heap.size + 1, 0, none⟩ = some (.int .u64 (IntKind.u64.wrap z)) := ((rg2.set 0 (.int .u64 (IntKind.u64.wrap z))).set 1 (.string ⟨#[]⟩)).cell 0
  have z1 : ((w2.setCell ⟨w.heap.size + 1, 0, none⟩ (.int .u64 (IntKind.u64.wrap z))).setCell ⟨w.heap.size + 1, 1, none⟩ (.string ⟨#[]⟩)).cell? ⟨w.heap.size + 1, 1, none⟩ = some (.string ⟨#[]⟩) := ((rg2.set 0 (.int .u64 (IntKind.u64.wrap z))).set 1 (.string ⟨#[]⟩)).cell 1
  have gs : w2.grownBy ((w2.setCell ⟨w.heap.size + 1, 0, none⟩ (.int .u64 (IntKind.u64.wrap z))).setCell ⟨w.heap.size + 1, 1, none⟩ (.string ⟨#[]⟩)) (some (w.heap.size + 1)) := setCells_grown [_, _] 0 w2
  have gw := grown_box gB rg.lt g2 gs
  generalize (w2.setCell ⟨w.heap.size + 1, 0, none⟩ (.int .u64 (IntKind.u64.wrap z))).setCell ⟨w.heap.size + 1, 1, none⟩ (.string ⟨#[]⟩) = W4 at *
  refine bodyPost_ret (v := gotV (IntKind.u64.wrap z) []) (by simp [results, Tryd.results18, go_sem, z0, z1, gotV]) rfl ⟨rfl, hR _ _ q2 rg2 gs, gw⟩
set_option maxRecDepth 20000 in
set_option maxHeartbeats 3200000 in
theorem takes5 (p : Value) (most z : Int) (w : World) (i : Nat) (hi : i < w.heap.size) (R : World → Prop) (hR : ∀ a b, R a → Row a (w.heap.size + 1) 54 [.int .u64 0, .string ⟨#[]⟩] → a.grownBy b (some (w.heap.size + 1)) → R b) (H : Hid (∀ w1, Below w.heap.size w w1 → Calls Tryd.prog 54 #[p] w1 fun e w2 => e = .returned (.int .i32 z) ∧ R w2 ∧ w1.grownBy w2 (some i))) :
    Calls Tryd.prog 18 #[p, .agg #[.int .i64 5, .int .i64 most]] w fun e w' => e = .returned (gotV (IntKind.u64.wrap z) []) ∧ R w' ∧ w.grownBy w' (some i) := by
  go_enter Tryd.func18, Tryd.ntmps18
  go_upto_region 3 with fail
  have gB : Below w.heap.size w ((w.alloc (.cells #[.int .i64 5, .int .i64 most] 57)).alloc (.cells #[.int .u64 0, .string ⟨#[]⟩] 54)) := ((Below.refl _ w).alloc (Nat.le_refl _) _).alloc (by simp) _
  have rg : Row ((w.alloc (.cells #[.int .i64 5, .int .i64 most] 57)).alloc (.cells #[.int .u64 0, .string ⟨#[]⟩] 54)) (w.heap.size + 1) 54 [.int .u64 0, .string ⟨#[]⟩] := by
    have := Row.new (w.alloc (.cells #[.int .i64 5, .int .i64 most] 57)) 54 [.int .u64 0, .string ⟨#[]⟩]
    rwa [World.size_alloc] at this
  generalize (w.alloc (.cells #[.int .i64 5, .int .i64 most] 57)).alloc (.cells #[.int .u64 0, .string ⟨#[]⟩] 54) = W at *
  go_wp2_with (go_at_call 54; refine (H.out _ gB).mono ?_; rintro e w2 ⟨rfl, q2, g2⟩; have rg2 := rg.grown g2 (by intro e; cases e; omega); have k0 : w2.cell? ⟨w.heap.size + 1, 0, none⟩ = some (.int .u64 0) := rg2.cell 0; have k1 : w2.cell? ⟨w.heap.size + 1, 1, none⟩ = some (.string ⟨#[]⟩) := rg2.cell 1; have f0 := rg2.frozen 0; have f1 := rg2.frozen 1)
  have z0 : ((w2.setCell ⟨w.heap.size + 1, 0, none⟩ (.int .u64 (IntKind.u64.wrap z))).setCell ⟨w.heap.size + 1, 1, none⟩ (.string ⟨#[]⟩)).cell? ⟨w.heap.size + 1, 0, none⟩ = some (.int .u64 (IntKind.u64.wrap z)) := ((rg2.set 0 (.int .u64 (IntKind.u64.wrap z))).set 1 (.string ⟨#[]⟩)).cell 0
  have z1 : ((w2.setCell ⟨w.heap.size + 1, 0, none⟩ (.int .u64 (IntKind.u64.wrap z))).setCell ⟨w.heap.size + 1, 1, none⟩ (.string ⟨#[]⟩)).cell? ⟨w.heap.size + 1, 1, none⟩ = some (.string ⟨#[]⟩) := ((rg2.set 0 (.int .u64 (IntKind.u64.wrap z))).set 1 (.string ⟨#[]⟩)).cell 1
  have gs : w2.grownBy ((w2.setCell ⟨w.heap.size + 1, 0, none⟩ (.int .u64 (IntKind.u64.wrap z))).setCell ⟨w.heap.size + 1, 1, none⟩ (.string ⟨#[]⟩)) (some (w.heap.size + 1)) := setCells_grown [_, _] 0 w2
  have gw := grown_box gB rg.lt g2 gs
  generalize (w2.setCell ⟨w.heap.size + 1, 0, none⟩ (.int .u64 (IntKind.u64.wrap z))).setCell ⟨w.heap.size + 1, 1, none⟩ (.string ⟨#[]⟩) = W4 at *
  refine bodyPost_ret (v := gotV (IntKind.u64.wrap z) []) (by simp [results, Tryd.results18, go_sem, z0, z1, gotV]) rfl ⟨rfl, hR _ _ q2 rg2 gs, gw⟩
set_option maxRecDepth 20000 in
set_option maxHeartbeats 3200000 in
theorem takes6 (p : Value) (most z : Int) (w : World) (i : Nat) (hi : i < w.heap.size) (R : World → Prop) (hR : ∀ a b, R a → Row a (w.heap.size + 1) 54 [.int .u64 0, .string ⟨#[]⟩] → a.grownBy b (some (w.heap.size + 1)) → R b) (H : Hid (∀ w1, Below w.heap.size w w1 → Calls Tryd.prog 55 #[p] w1 fun e w2 => e = .returned (.int .u32 z) ∧ R w2 ∧ w1.grownBy w2 (some i))) :
    Calls Tryd.prog 18 #[p, .agg #[.int .i64 6, .int .i64 most]] w fun e w' => e = .returned (gotV (IntKind.u64.wrap z) []) ∧ R w' ∧ w.grownBy w' (some i) := by
  go_enter Tryd.func18, Tryd.ntmps18
  go_upto_region 3 with fail
  have gB : Below w.heap.size w ((w.alloc (.cells #[.int .i64 6, .int .i64 most] 57)).alloc (.cells #[.int .u64 0, .string ⟨#[]⟩] 54)) := ((Below.refl _ w).alloc (Nat.le_refl _) _).alloc (by simp) _
  have rg : Row ((w.alloc (.cells #[.int .i64 6, .int .i64 most] 57)).alloc (.cells #[.int .u64 0, .string ⟨#[]⟩] 54)) (w.heap.size + 1) 54 [.int .u64 0, .string ⟨#[]⟩] := by
    have := Row.new (w.alloc (.cells #[.int .i64 6, .int .i64 most] 57)) 54 [.int .u64 0, .string ⟨#[]⟩]
    rwa [World.size_alloc] at this
  generalize (w.alloc (.cells #[.int .i64 6, .int .i64 most] 57)).alloc (.cells #[.int .u64 0, .string ⟨#[]⟩] 54) = W at *
  go_wp2_with (go_at_call 55; refine (H.out _ gB).mono ?_; rintro e w2 ⟨rfl, q2, g2⟩; have rg2 := rg.grown g2 (by intro e; cases e; omega); have k0 : w2.cell? ⟨w.heap.size + 1, 0, none⟩ = some (.int .u64 0) := rg2.cell 0; have k1 : w2.cell? ⟨w.heap.size + 1, 1, none⟩ = some (.string ⟨#[]⟩) := rg2.cell 1; have f0 := rg2.frozen 0; have f1 := rg2.frozen 1)
  have z0 : ((w2.setCell ⟨w.heap.size + 1, 0, none⟩ (.int .u64 (IntKind.u64.wrap z))).setCell ⟨w.heap.size + 1, 1, none⟩ (.string ⟨#[]⟩)).cell? ⟨w.heap.size + 1, 0, none⟩ = some (.int .u64 (IntKind.u64.wrap z)) := ((rg2.set 0 (.int .u64 (IntKind.u64.wrap z))).set 1 (.string ⟨#[]⟩)).cell 0
  have z1 : ((w2.setCell ⟨w.heap.size + 1, 0, none⟩ (.int .u64 (IntKind.u64.wrap z))).setCell ⟨w.heap.size + 1, 1, none⟩ (.string ⟨#[]⟩)).cell? ⟨w.heap.size + 1, 1, none⟩ = some (.string ⟨#[]⟩) := ((rg2.set 0 (.int .u64 (IntKind.u64.wrap z))).set 1 (.string ⟨#[]⟩)).cell 1
  have gs : w2.grownBy ((w2.setCell ⟨w.heap.size + 1, 0, none⟩ (.int .u64 (IntKind.u64.wrap z))).setCell ⟨w.heap.size + 1, 1, none⟩ (.string ⟨#[]⟩)) (some (w.heap.size + 1)) := setCells_grown [_, _] 0 w2
  have gw := grown_box gB rg.lt g2 gs
  generalize (w2.setCell ⟨w.heap.size + 1, 0, none⟩ (.int .u64 (IntKind.u64.wrap z))).setCell ⟨w.heap.size + 1, 1, none⟩ (.string ⟨#[]⟩) = W4 at *
  refine bodyPost_ret (v := gotV (IntKind.u64.wrap z) []) (by simp [results, Tryd.results18, go_sem, z0, z1, gotV]) rfl ⟨rfl, hR _ _ q2 rg2 gs, gw⟩
set_option maxRecDepth 20000 in
set_option maxHeartbeats 3200000 in
theorem takes7 (p : Value) (most z : Int) (w : World) (i : Nat) (hi : i < w.heap.size) (R : World → Prop) (hR : ∀ a b, R a → Row a (w.heap.size + 1) 54 [.int .u64 0, .string ⟨#[]⟩] → a.grownBy b (some (w.heap.size + 1)) → R b) (H : Hid (∀ w1, Below w.heap.size w w1 → Calls Tryd.prog 56 #[p] w1 fun e w2 => e = .returned (.int .i64 z) ∧ R w2 ∧ w1.grownBy w2 (some i))) :
    Calls Tryd.prog 18 #[p, .agg #[.int .i64 7, .int .i64 most]] w fun e w' => e = .returned (gotV (IntKind.u64.wrap z) []) ∧ R w' ∧ w.grownBy w' (some i) := by
  go_enter Tryd.func18, Tryd.ntmps18
  go_upto_region 3 with fail
  have gB : Below w.heap.size w ((w.alloc (.cells #[.int .i64 7, .int .i64 most] 57)).alloc (.cells #[.int .u64 0, .string ⟨#[]⟩] 54)) := ((Below.refl _ w).alloc (Nat.le_refl _) _).alloc (by simp) _
  have rg : Row ((w.alloc (.cells #[.int .i64 7, .int .i64 most] 57)).alloc (.cells #[.int .u64 0, .string ⟨#[]⟩] 54)) (w.heap.size + 1) 54 [.int .u64 0, .string ⟨#[]⟩] := by
    have := Row.new (w.alloc (.cells #[.int .i64 7, .int .i64 most] 57)) 54 [.int .u64 0, .string ⟨#[]⟩]
    rwa [World.size_alloc] at this
  generalize (w.alloc (.cells #[.int .i64 7, .int .i64 most] 57)).alloc (.cells #[.int .u64 0, .string ⟨#[]⟩] 54) = W at *
  go_wp2_with (go_at_call 56; refine (H.out _ gB).mono ?_; rintro e w2 ⟨rfl, q2, g2⟩; have rg2 := rg.grown g2 (by intro e; cases e; omega); have k0 : w2.cell? ⟨w.heap.size + 1, 0, none⟩ = some (.int .u64 0) := rg2.cell 0; have k1 : w2.cell? ⟨w.heap.size + 1, 1, none⟩ = some (.string ⟨#[]⟩) := rg2.cell 1; have f0 := rg2.frozen 0; have f1 := rg2.frozen 1)
  have z0 : ((w2.setCell ⟨w.heap.size + 1, 0, none⟩ (.int .u64 (IntKind.u64.wrap z))).setCell ⟨w.heap.size + 1, 1, none⟩ (.string ⟨#[]⟩)).cell? ⟨w.heap.size + 1, 0, none⟩ = some (.int .u64 (IntKind.u64.wrap z)) := ((rg2.set 0 (.int .u64 (IntKind.u64.wrap z))).set 1 (.string ⟨#[]⟩)).cell 0
  have z1 : ((w2.setCell ⟨w.heap.size + 1, 0, none⟩ (.int .u64 (IntKind.u64.wrap z))).setCell ⟨w.heap.size + 1, 1, none⟩ (.string ⟨#[]⟩)).cell? ⟨w.heap.size + 1, 1, none⟩ = some (.string ⟨#[]⟩) := ((rg2.set 0 (.int .u64 (IntKind.u64.wrap z))).set 1 (.string ⟨#[]⟩)).cell 1
  have gs : w2.grownBy ((w2.setCell ⟨w.heap.size + 1, 0, none⟩ (.int .u64 (IntKind.u64.wrap z))).setCell ⟨w.heap.size + 1, 1, none⟩ (.string ⟨#[]⟩)) (some (w.heap.size + 1)) := setCells_grown [_, _] 0 w2
  have gw := grown_box gB rg.lt g2 gs
  generalize (w2.setCell ⟨w.heap.size + 1, 0, none⟩ (.int .u64 (IntKind.u64.wrap z))).setCell ⟨w.heap.size + 1, 1, none⟩ (.string ⟨#[]⟩) = W4 at *
  refine bodyPost_ret (v := gotV (IntKind.u64.wrap z) []) (by simp [results, Tryd.results18, go_sem, z0, z1, gotV]) rfl ⟨rfl, hR _ _ q2 rg2 gs, gw⟩
set_option maxRecDepth 20000 in
set_option maxHeartbeats 3200000 in
theorem takes8 (p : Value) (most z : Int) (w : World) (i : Nat) (hi : i < w.heap.size) (R : World → Prop) (hR : ∀ a b, R a → Row a (w.heap.size + 1) 54 [.int .u64 0, .string ⟨#[]⟩] → a.grownBy b (some (w.heap.size + 1)) → R b) (H : Hid (∀ w1, Below w.heap.size w w1 → Calls Tryd.prog 57 #[p] w1 fun e w2 => e = .returned (.int .u64 z) ∧ R w2 ∧ w1.grownBy w2 (some i))) :
    Calls Tryd.prog 18 #[p, .agg #[.int .i64 8, .int .i64 most]] w fun e w' => e = .returned (gotV (z) []) ∧ R w' ∧ w.grownBy w' (some i) := by
  go_enter Tryd.func18, Tryd.ntmps18
  go_upto_region 3 with fail
  have gB : Below w.heap.size w ((w.alloc (.cells #[.int .i64 8, .int .i64 most] 57)).alloc (.cells #[.int .u64 0, .string ⟨#[]⟩] 54)) := ((Below.refl _ w).alloc (Nat.le_refl _) _).alloc (by simp) _
  have rg : Row ((w.alloc (.cells #[.int .i64 8, .int .i64 most] 57)).alloc (.cells #[.int .u64 0, .string ⟨#[]⟩] 54)) (w.heap.size + 1) 54 [.int .u64 0, .string ⟨#[]⟩] := by
    have := Row.new (w.alloc (.cells #[.int .i64 8, .int .i64 most] 57)) 54 [.int .u64 0, .string ⟨#[]⟩]
    rwa [World.size_alloc] at this
  generalize (w.alloc (.cells #[.int .i64 8, .int .i64 most] 57)).alloc (.cells #[.int .u64 0, .string ⟨#[]⟩] 54) = W at *
  go_wp2_with (go_at_call 57; refine (H.out _ gB).mono ?_; rintro e w2 ⟨rfl, q2, g2⟩; have rg2 := rg.grown g2 (by intro e; cases e; omega); have k0 : w2.cell? ⟨w.heap.size + 1, 0, none⟩ = some (.int .u64 0) := rg2.cell 0; have k1 : w2.cell? ⟨w.heap.size + 1, 1, none⟩ = some (.string ⟨#[]⟩) := rg2.cell 1; have f0 := rg2.frozen 0; have f1 := rg2.frozen 1)
  have z0 : ((w2.setCell ⟨w.heap.size + 1, 0, none⟩ (.int .u64 (z))).setCell ⟨w.heap.size + 1, 1, none⟩ (.string ⟨#[]⟩)).cell? ⟨w.heap.size + 1, 0, none⟩ = some (.int .u64 (z)) := ((rg2.set 0 (.int .u64 (z))).set 1 (.string ⟨#[]⟩)).cell 0
  have z1 : ((w2.setCell ⟨w.heap.size + 1, 0, none⟩ (.int .u64 (z))).setCell ⟨w.heap.size + 1, 1, none⟩ (.string ⟨#[]⟩)).cell? ⟨w.heap.size + 1, 1, none⟩ = some (.string ⟨#[]⟩) := ((rg2.set 0 (.int .u64 (z))).set 1 (.string ⟨#[]⟩)).cell 1
  have gs : w2.grownBy ((w2.setCell ⟨w.heap.size + 1, 0, none⟩ (.int .u64 (z))).setCell ⟨w.heap.size + 1, 1, none⟩ (.string ⟨#[]⟩)) (some (w.heap.size + 1)) := setCells_grown [_, _] 0 w2
  have gw := grown_box gB rg.lt g2 gs
  generalize (w2.setCell ⟨w.heap.size + 1, 0, none⟩ (.int .u64 (z))).setCell ⟨w.heap.size + 1, 1, none⟩ (.string ⟨#[]⟩) = W4 at *
  refine bodyPost_ret (v := gotV (z) []) (by simp [results, Tryd.results18, go_sem, z0, z1, gotV]) rfl ⟨rfl, hR _ _ q2 rg2 gs, gw⟩
set_option maxRecDepth 20000 in
set_option maxHeartbeats 3200000 in
theorem takes12 (p : Value) (most z : Int) (w : World) (i : Nat) (hi : i < w.heap.size) (R : World → Prop) (hR : ∀ a b, R a → Row a (w.heap.size + 1) 54 [.int .u64 0, .string ⟨#[]⟩] → a.grownBy b (some (w.heap.size + 1)) → R b) (H : Hid (∀ w1, Below w.heap.size w w1 → Calls Tryd.prog 62 #[p] w1 fun e w2 => e = .returned (.int .u8 z) ∧ R w2 ∧ w1.grownBy w2 (some i))) :
    Calls Tryd.prog 18 #[p, .agg #[.int .i64 12, .int .i64 most]] w fun e w' => e = .returned (gotV (IntKind.u64.wrap z) []) ∧ R w' ∧ w.grownBy w' (some i) := by
  go_enter Tryd.func18, Tryd.ntmps18
  go_upto_region 3 with fail
  have gB : Below w.heap.size w ((w.alloc (.cells #[.int .i64 12, .int .i64 most] 57)).alloc (.cells #[.int .u64 0, .string ⟨#[]⟩] 54)) := ((Below.refl _ w).alloc (Nat.le_refl _) _).alloc (by simp) _
  have rg : Row ((w.alloc (.cells #[.int .i64 12, .int .i64 most] 57)).alloc (.cells #[.int .u64 0, .string ⟨#[]⟩] 54)) (w.heap.size + 1) 54 [.int .u64 0, .string ⟨#[]⟩] := by
    have := Row.new (w.alloc (.cells #[.int .i64 12, .int .i64 most] 57)) 54 [.int .u64 0, .string ⟨#[]⟩]
    rwa [World.size_alloc] at this
  generalize (w.alloc (.cells #[.int .i64 12, .int .i64 most] 57)).alloc (.cells #[.int .u64 0, .string ⟨#[]⟩] 54) = W at *
  go_wp2_with (go_at_call 62; refine (H.out _ gB).mono ?_; rintro e w2 ⟨rfl, q2, g2⟩; have rg2 := rg.grown g2 (by intro e; cases e; omega); have k0 : w2.cell? ⟨w.heap.size + 1, 0, none⟩ = some (.int .u64 0) := rg2.cell 0; have k1 : w2.cell? ⟨w.heap.size + 1, 1, none⟩ = some (.string ⟨#[]⟩) := rg2.cell 1; have f0 := rg2.frozen 0; have f1 := rg2.frozen 1)
  have z0 : ((w2.setCell ⟨w.heap.size + 1, 0, none⟩ (.int .u64 (IntKind.u64.wrap z))).setCell ⟨w.heap.size + 1, 1, none⟩ (.string ⟨#[]⟩)).cell? ⟨w.heap.size + 1, 0, none⟩ = some (.int .u64 (IntKind.u64.wrap z)) := ((rg2.set 0 (.int .u64 (IntKind.u64.wrap z))).set 1 (.string ⟨#[]⟩)).cell 0
  have z1 : ((w2.setCell ⟨w.heap.size + 1, 0, none⟩ (.int .u64 (IntKind.u64.wrap z))).setCell ⟨w.heap.size + 1, 1, none⟩ (.string ⟨#[]⟩)).cell? ⟨w.heap.size + 1, 1, none⟩ = some (.string ⟨#[]⟩) := ((rg2.set 0 (.int .u64 (IntKind.u64.wrap z))).set 1 (.string ⟨#[]⟩)).cell 1
  have gs : w2.grownBy ((w2.setCell ⟨w.heap.size + 1, 0, none⟩ (.int .u64 (IntKind.u64.wrap z))).setCell ⟨w.heap.size + 1, 1, none⟩ (.string ⟨#[]⟩)) (some (w.heap.size + 1)) := setCells_grown [_, _] 0 w2
  have gw := grown_box gB rg.lt g2 gs
  generalize (w2.setCell ⟨w.heap.size + 1, 0, none⟩ (.int .u64 (IntKind.u64.wrap z))).setCell ⟨w.heap.size + 1, 1, none⟩ (.string ⟨#[]⟩) = W4 at *
  refine bodyPost_ret (v := gotV (IntKind.u64.wrap z) []) (by simp [results, Tryd.results18, go_sem, z0, z1, gotV]) rfl ⟨rfl, hR _ _ q2 rg2 gs, gw⟩
set_option maxRecDepth 20000 in
set_option maxHeartbeats 3200000 in
theorem takes11 (p : Value) (most z : Int) (w : World) (i : Nat) (hi : i < w.heap.size) (R : World → Prop) (hR : ∀ a b, R a → Row a (w.heap.size + 1) 54 [.int .u64 0, .string ⟨#[]⟩] → a.grownBy b (some (w.heap.size + 1)) → R b) (H : Hid (∀ w1, Below w.heap.size w w1 → Calls Tryd.prog 61 #[p, .int .i64 most] w1 fun e w2 => e = .returned (.int .i64 z) ∧ R w2 ∧ w1.grownBy w2 (some i))) :
    Calls Tryd.prog 18 #[p, .agg #[.int .i64 11, .int .i64 most]] w fun e w' => e = .returned (gotV (IntKind.u64.wrap z) []) ∧ R w' ∧ w.grownBy w' (some i) := by
  go_enter Tryd.func18, Tryd.ntmps18
  go_upto_region 3 with fail
  have gB : Below w.heap.size w ((w.alloc (.cells #[.int .i64 11, .int .i64 most] 57)).alloc (.cells #[.int .u64 0, .string ⟨#[]⟩] 54)) := ((Below.refl _ w).alloc (Nat.le_refl _) _).alloc (by simp) _
  have rg : Row ((w.alloc (.cells #[.int .i64 11, .int .i64 most] 57)).alloc (.cells #[.int .u64 0, .string ⟨#[]⟩] 54)) (w.heap.size + 1) 54 [.int .u64 0, .string ⟨#[]⟩] := by
    have := Row.new (w.alloc (.cells #[.int .i64 11, .int .i64 most] 57)) 54 [.int .u64 0, .string ⟨#[]⟩]
    rwa [World.size_alloc] at this
  generalize (w.alloc (.cells #[.int .i64 11, .int .i64 most] 57)).alloc (.cells #[.int .u64 0, .string ⟨#[]⟩] 54) = W at *
  go_wp2_with (go_at_call 61; refine (H.out _ gB).mono ?_; rintro e w2 ⟨rfl, q2, g2⟩; have rg2 := rg.grown g2 (by intro e; cases e; omega); have k0 : w2.cell? ⟨w.heap.size + 1, 0, none⟩ = some (.int .u64 0) := rg2.cell 0; have k1 : w2.cell? ⟨w.heap.size + 1, 1, none⟩ = some (.string ⟨#[]⟩) := rg2.cell 1; have f0 := rg2.frozen 0; have f1 := rg2.frozen 1)
  have z0 : ((w2.setCell ⟨w.heap.size + 1, 0, none⟩ (.int .u64 (IntKind.u64.wrap z))).setCell ⟨w.heap.size + 1, 1, none⟩ (.string ⟨#[]⟩)).cell? ⟨w.heap.size + 1, 0, none⟩ = some (.int .u64 (IntKind.u64.wrap z)) := ((rg2.set 0 (.int .u64 (IntKind.u64.wrap z))).set 1 (.string ⟨#[]⟩)).cell 0
  have z1 : ((w2.setCell ⟨w.heap.size + 1, 0, none⟩ (.int .u64 (IntKind.u64.wrap z))).setCell ⟨w.heap.size + 1, 1, none⟩ (.string ⟨#[]⟩)).cell? ⟨w.heap.size + 1, 1, none⟩ = some (.string ⟨#[]⟩) := ((rg2.set 0 (.int .u64 (IntKind.u64.wrap z))).set 1 (.string ⟨#[]⟩)).cell 1
  have gs : w2.grownBy ((w2.setCell ⟨w.heap.size + 1, 0, none⟩ (.int .u64 (IntKind.u64.wrap z))).setCell ⟨w.heap.size + 1, 1, none⟩ (.string ⟨#[]⟩)) (some (w.heap.size + 1)) := setCells_grown [_, _] 0 w2
  have gw := grown_box gB rg.lt g2 gs
  generalize (w2.setCell ⟨w.heap.size + 1, 0, none⟩ (.int .u64 (IntKind.u64.wrap z))).setCell ⟨w.heap.size + 1, 1, none⟩ (.string ⟨#[]⟩) = W4 at *
  refine bodyPost_ret (v := gotV (IntKind.u64.wrap z) []) (by simp [results, Tryd.results18, go_sem, z0, z1, gotV]) rfl ⟨rfl, hR _ _ q2 rg2 gs, gw⟩
set_option maxRecDepth 20000 in
set_option maxHeartbeats 3200000 in
theorem takes10 (p : Value) (most : Int) (s : List UInt8) (w : World) (i : Nat) (hi : i < w.heap.size) (R : World → Prop) (hR : ∀ a b, R a → Row a (w.heap.size + 1) 54 [.int .u64 0, .string ⟨#[]⟩] → a.grownBy b (some (w.heap.size + 1)) → R b) (H : Hid (∀ w1, Below w.heap.size w w1 → Calls Tryd.prog 60 #[p, .int .i64 most] w1 fun e w2 => e = .returned (.string ⟨s.toArray⟩) ∧ R w2 ∧ w1.grownBy w2 (some i))) :
    Calls Tryd.prog 18 #[p, .agg #[.int .i64 10, .int .i64 most]] w fun e w' => e = .returned (gotV 0 s) ∧ R w' ∧ w.grownBy w' (some i) := by
  go_enter Tryd.func18, Tryd.ntmps18
  go_upto_region 3 with fail
  have gB : Below w.heap.size w ((w.alloc (.cells #[.int .i64 10, .int .i64 most] 57)).alloc (.cells #[.int .u64 0, .string ⟨#[]⟩] 54)) := ((Below.refl _ w).alloc (Nat.le_refl _) _).alloc (by simp) _
  have rg : Row ((w.alloc (.cells #[.int .i64 10, .int .i64 most] 57)).alloc (.cells #[.int .u64 0, .string ⟨#[]⟩] 54)) (w.heap.size + 1) 54 [.int .u64 0, .string ⟨#[]⟩] := by
    have := Row.new (w.alloc (.cells #[.int .i64 10, .int .i64 most] 57)) 54 [.int .u64 0, .string ⟨#[]⟩]
    rwa [World.size_alloc] at this
  generalize (w.alloc (.cells #[.int .i64 10, .int .i64 most] 57)).alloc (.cells #[.int .u64 0, .string ⟨#[]⟩] 54) = W at *
  go_wp2_with (go_at_call 60; refine (H.out _ gB).mono ?_; rintro e w2 ⟨rfl, q2, g2⟩; have rg2 := rg.grown g2 (by intro e; cases e; omega); have k0 : w2.cell? ⟨w.heap.size + 1, 0, none⟩ = some (.int .u64 0) := rg2.cell 0; have k1 : w2.cell? ⟨w.heap.size + 1, 1, none⟩ = some (.string ⟨#[]⟩) := rg2.cell 1; have f0 := rg2.frozen 0; have f1 := rg2.frozen 1)
  have z0 : ((w2.setCell ⟨w.heap.size + 1, 0, none⟩ (.int .u64 0)).setCell ⟨w.heap.size + 1, 1, none⟩ (.string ⟨s.toArray⟩)).cell? ⟨w.heap.size + 1, 0, none⟩ = some (.int .u64 0) := ((rg2.set 0 (.int .u64 0)).set 1 (.string ⟨s.toArray⟩)).cell 0
  have z1 : ((w2.setCell ⟨w.heap.size + 1, 0, none⟩ (.int .u64 0)).setCell ⟨w.heap.size + 1, 1, none⟩ (.string ⟨s.toArray⟩)).cell? ⟨w.heap.size + 1, 1, none⟩ = some (.string ⟨s.toArray⟩) := ((rg2.set 0 (.int .u64 0)).set 1 (.string ⟨s.toArray⟩)).cell 1
  have gs : w2.grownBy ((w2.setCell ⟨w.heap.size + 1, 0, none⟩ (.int .u64 0)).setCell ⟨w.heap.size + 1, 1, none⟩ (.string ⟨s.toArray⟩)) (some (w.heap.size + 1)) := setCells_grown [_, _] 0 w2
  have gw := grown_box gB rg.lt g2 gs
  generalize (w2.setCell ⟨w.heap.size + 1, 0, none⟩ (.int .u64 0)).setCell ⟨w.heap.size + 1, 1, none⟩ (.string ⟨s.toArray⟩) = W4 at *
  refine bodyPost_ret (v := gotV 0 s) (by simp [results, Tryd.results18, go_sem, z0, z1, gotV]) rfl ⟨rfl, hR _ _ q2 rg2 gs, gw⟩
end Go.Proofs.YtomklacjaadcaaaDoor
