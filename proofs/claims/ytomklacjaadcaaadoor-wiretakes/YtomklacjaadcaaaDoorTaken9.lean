/- What the document takes of real numbers. -/
import Derived.Test.YtomklacjaadcaaaDoorTaken
namespace Go.Proofs.YtomklacjaadcaaaDoor
open Go.RowKit Go.Sort

set_option maxRecDepth 20000 in
set_option maxHeartbeats 3200000 in
theorem taken9_no (p : Value) (most z : Int) (w : World) (i : Nat) (hi : i < w.heap.size) (R : World → Prop) (hR : ∀ a b, R a → Row a (w.heap.size + 1) 54 [.int .u64 0, .string ⟨#[]⟩] → a.grownBy b (some (w.heap.size + 1)) → R b) (H : Hid (∀ w1, Below w.heap.size w w1 → Calls Tryd.prog 64 #[p] w1 fun e w2 => e = .returned (.tuple #[.int .u64 z, .bool false]) ∧ R w2 ∧ w1.grownBy w2 (some i))) :
    Calls Tryd.prog 19 #[p, .agg #[.int .i64 9, .int .i64 most]] w fun e w' => e = .returned (gotV (z) []) ∧ R w' ∧ w.grownBy w' (some i) := by
  go_enter Tryd.func19, Tryd.ntmps19
  go_upto_region 9 with fail
  have gB : Below w.heap.size w ((w.alloc (.cells #[.int .i64 9, .int .i64 most] 57)).alloc (.cells #[.int .u64 0, .string ⟨#[]⟩] 54)) := ((Below.refl _ w).alloc (Nat.le_refl _) _).alloc (by simp) _
  have rg : Row ((w.alloc (.cells #[.int .i64 9, .int .i64 most] 57)).alloc (.cells #[.int .u64 0, .string ⟨#[]⟩] 54)) (w.heap.size + 1) 54 [.int .u64 0, .string ⟨#[]⟩] := by
    have := Row.new (w.alloc (.cells #[.int .i64 9, .int .i64 most] 57)) 54 [.int .u64 0, .string ⟨#[]⟩]
    rwa [World.size_alloc] at this
  generalize (w.alloc (.cells #[.int .i64 9, .int .i64 most] 57)).alloc (.cells #[.int .u64 0, .string ⟨#[]⟩] 54) = W at *
  go_wp2_with (go_at_call 64; refine (H.out _ gB).mono ?_; rintro e w2 ⟨rfl, q2, g2⟩; have rg2 := rg.grown g2 (by intro e; cases e; omega); have k0 : w2.cell? ⟨w.heap.size + 1, 0, none⟩ = some (.int .u64 0) := rg2.cell 0; have k1 : w2.cell? ⟨w.heap.size + 1, 1, none⟩ = some (.string ⟨#[]⟩) := rg2.cell 1; have f0 := rg2.frozen 0; have f1 := rg2.frozen 1)
  have z0 : ((w2.setCell ⟨w.heap.size + 1, 0, none⟩ (.int .u64 (z))).setCell ⟨w.heap.size + 1, 1, none⟩ (.string ⟨#[]⟩)).cell? ⟨w.heap.size + 1, 0, none⟩ = some (.int .u64 (z)) := ((rg2.set 0 (.int .u64 (z))).set 1 (.string ⟨#[]⟩)).cell 0
  have z1 : ((w2.setCell ⟨w.heap.size + 1, 0, none⟩ (.int .u64 (z))).setCell ⟨w.heap.size + 1, 1, none⟩ (.string ⟨#[]⟩)).cell? ⟨w.heap.size + 1, 1, none⟩ = some (.string ⟨#[]⟩) := ((rg2.set 0 (.int .u64 (z))).set 1 (.string ⟨#[]⟩)).cell 1
  have gs : w2.grownBy ((w2.setCell ⟨w.heap.size + 1, 0, none⟩ (.int .u64 (z))).setCell ⟨w.heap.size + 1, 1, none⟩ (.string ⟨#[]⟩)) (some (w.heap.size + 1)) := setCells_grown [_, _] 0 w2
  have gw := grown_box gB rg.lt g2 gs
  generalize (w2.setCell ⟨w.heap.size + 1, 0, none⟩ (.int .u64 (z))).setCell ⟨w.heap.size + 1, 1, none⟩ (.string ⟨#[]⟩) = W4 at *
  refine bodyPost_ret (v := gotV (z) []) (by simp [results, Tryd.results19, go_sem, z0, z1, gotV]) rfl ⟨rfl, hR _ _ q2 rg2 gs, gw⟩
set_option maxRecDepth 20000 in
set_option maxHeartbeats 3200000 in
theorem taken9_num (p : Value) (most z : Int) (hz : (z == 9221120237041090561) = false) (w : World) (i : Nat) (hi : i < w.heap.size) (R : World → Prop) (hR : ∀ a b, R a → Row a (w.heap.size + 1) 54 [.int .u64 0, .string ⟨#[]⟩] → a.grownBy b (some (w.heap.size + 1)) → R b) (H : Hid (∀ w1, Below w.heap.size w w1 → Calls Tryd.prog 64 #[p] w1 fun e w2 => e = .returned (.tuple #[.int .u64 z, .bool true]) ∧ R w2 ∧ w1.grownBy w2 (some i))) :
    Calls Tryd.prog 19 #[p, .agg #[.int .i64 9, .int .i64 most]] w fun e w' => e = .returned (gotV (z) []) ∧ R w' ∧ w.grownBy w' (some i) := by
  go_enter Tryd.func19, Tryd.ntmps19
  go_upto_region 9 with fail
  have gB : Below w.heap.size w ((w.alloc (.cells #[.int .i64 9, .int .i64 most] 57)).alloc (.cells #[.int .u64 0, .string ⟨#[]⟩] 54)) := ((Below.refl _ w).alloc (Nat.le_refl _) _).alloc (by simp) _
  have rg : Row ((w.alloc (.cells #[.int .i64 9, .int .i64 most] 57)).alloc (.cells #[.int .u64 0, .string ⟨#[]⟩] 54)) (w.heap.size + 1) 54 [.int .u64 0, .string ⟨#[]⟩] := by
    have := Row.new (w.alloc (.cells #[.int .i64 9, .int .i64 most] 57)) 54 [.int .u64 0, .string ⟨#[]⟩]
    rwa [World.size_alloc] at this
  generalize (w.alloc (.cells #[.int .i64 9, .int .i64 most] 57)).alloc (.cells #[.int .u64 0, .string ⟨#[]⟩] 54) = W at *
  go_wp2_with (go_at_call 64; refine (H.out _ gB).mono ?_; rintro e w2 ⟨rfl, q2, g2⟩; have rg2 := rg.grown g2 (by intro e; cases e; omega); have k0 : w2.cell? ⟨w.heap.size + 1, 0, none⟩ = some (.int .u64 0) := rg2.cell 0; have k1 : w2.cell? ⟨w.heap.size + 1, 1, none⟩ = some (.string ⟨#[]⟩) := rg2.cell 1; have f0 := rg2.frozen 0; have f1 := rg2.frozen 1)
  have z0 : ((w2.setCell ⟨w.heap.size + 1, 0, none⟩ (.int .u64 (z))).setCell ⟨w.heap.size + 1, 1, none⟩ (.string ⟨#[]⟩)).cell? ⟨w.heap.size + 1, 0, none⟩ = some (.int .u64 (z)) := ((rg2.set 0 (.int .u64 (z))).set 1 (.string ⟨#[]⟩)).cell 0
  have z1 : ((w2.setCell ⟨w.heap.size + 1, 0, none⟩ (.int .u64 (z))).setCell ⟨w.heap.size + 1, 1, none⟩ (.string ⟨#[]⟩)).cell? ⟨w.heap.size + 1, 1, none⟩ = some (.string ⟨#[]⟩) := ((rg2.set 0 (.int .u64 (z))).set 1 (.string ⟨#[]⟩)).cell 1
  have gs : w2.grownBy ((w2.setCell ⟨w.heap.size + 1, 0, none⟩ (.int .u64 (z))).setCell ⟨w.heap.size + 1, 1, none⟩ (.string ⟨#[]⟩)) (some (w.heap.size + 1)) := setCells_grown [_, _] 0 w2
  have gw := grown_box gB rg.lt g2 gs
  generalize (w2.setCell ⟨w.heap.size + 1, 0, none⟩ (.int .u64 (z))).setCell ⟨w.heap.size + 1, 1, none⟩ (.string ⟨#[]⟩) = W4 at *
  refine bodyPost_ret (v := gotV (z) []) (by simp [results, Tryd.results19, go_sem, z0, z1, gotV]) rfl ⟨rfl, hR _ _ q2 rg2 gs, gw⟩
set_option maxRecDepth 20000 in
set_option maxHeartbeats 3200000 in
theorem taken9_nan (p : Value) (most : Int) (w : World) (i : Nat) (hi : i < w.heap.size) (R : World → Prop) (hR : ∀ a b, R a → Row a (w.heap.size + 1) 54 [.int .u64 0, .string ⟨#[]⟩] → a.grownBy b (some (w.heap.size + 1)) → R b) (H : Hid (∀ w1, Below w.heap.size w w1 → Calls Tryd.prog 64 #[p] w1 fun e w2 => e = .returned (.tuple #[.int .u64 9221120237041090561, .bool true]) ∧ R w2 ∧ w1.grownBy w2 (some i))) :
    Calls Tryd.prog 19 #[p, .agg #[.int .i64 9, .int .i64 most]] w fun e w' => e = .returned (gotV 0 [110, 111, 110, 101]) ∧ R w' ∧ w.grownBy w' (some i) := by
  go_enter Tryd.func19, Tryd.ntmps19
  go_upto_region 9 with fail
  have gB : Below w.heap.size w ((w.alloc (.cells #[.int .i64 9, .int .i64 most] 57)).alloc (.cells #[.int .u64 0, .string ⟨#[]⟩] 54)) := ((Below.refl _ w).alloc (Nat.le_refl _) _).alloc (by simp) _
  have rg : Row ((w.alloc (.cells #[.int .i64 9, .int .i64 most] 57)).alloc (.cells #[.int .u64 0, .string ⟨#[]⟩] 54)) (w.heap.size + 1) 54 [.int .u64 0, .string ⟨#[]⟩] := by
    have := Row.new (w.alloc (.cells #[.int .i64 9, .int .i64 most] 57)) 54 [.int .u64 0, .string ⟨#[]⟩]
    rwa [World.size_alloc] at this
  generalize (w.alloc (.cells #[.int .i64 9, .int .i64 most] 57)).alloc (.cells #[.int .u64 0, .string ⟨#[]⟩] 54) = W at *
  go_wp2_with (go_at_call 64; refine (H.out _ gB).mono ?_; rintro e w2 ⟨rfl, q2, g2⟩; have rg2 := rg.grown g2 (by intro e; cases e; omega); have k0 : w2.cell? ⟨w.heap.size + 1, 0, none⟩ = some (.int .u64 0) := rg2.cell 0; have k1 : w2.cell? ⟨w.heap.size + 1, 1, none⟩ = some (.string ⟨#[]⟩) := rg2.cell 1; have f0 := rg2.frozen 0; have f1 := rg2.frozen 1)
  have z0 : ((w2.setCell ⟨w.heap.size + 1, 0, none⟩ (.int .u64 0)).setCell ⟨w.heap.size + 1, 1, none⟩ (.string ⟨#[110, 111, 110, 101]⟩)).cell? ⟨w.heap.size + 1, 0, none⟩ = some (.int .u64 0) := ((rg2.set 0 (.int .u64 0)).set 1 (.string ⟨#[110, 111, 110, 101]⟩)).cell 0
  have z1 : ((w2.setCell ⟨w.heap.size + 1, 0, none⟩ (.int .u64 0)).setCell ⟨w.heap.size + 1, 1, none⟩ (.string ⟨#[110, 111, 110, 101]⟩)).cell? ⟨w.heap.size + 1, 1, none⟩ = some (.string ⟨#[110, 111, 110, 101]⟩) := ((rg2.set 0 (.int .u64 0)).set 1 (.string ⟨#[110, 111, 110, 101]⟩)).cell 1
  have gs : w2.grownBy ((w2.setCell ⟨w.heap.size + 1, 0, none⟩ (.int .u64 0)).setCell ⟨w.heap.size + 1, 1, none⟩ (.string ⟨#[110, 111, 110, 101]⟩)) (some (w.heap.size + 1)) := setCells_grown [_, _] 0 w2
  have gw := grown_box gB rg.lt g2 gs
  generalize (w2.setCell ⟨w.heap.size + 1, 0, none⟩ (.int .u64 0)).setCell ⟨w.heap.size + 1, 1, none⟩ (.string ⟨#[110, 111, 110, 101]⟩) = W4 at *
  refine bodyPost_ret (v := gotV 0 [110, 111, 110, 101]) (by simp [results, Tryd.results19, go_sem, z0, z1, gotV]) rfl ⟨rfl, hR _ _ q2 rg2 gs, gw⟩
end Go.Proofs.YtomklacjaadcaaaDoor
