/- The law's takes of real numbers, and of no kind. -/
import Derived.Test.YtomklacjaadcaaaDoorGot
namespace Go.Proofs.YtomklacjaadcaaaDoor
open Go.RowKit Go.Sort

set_option maxRecDepth 20000 in
set_option maxHeartbeats 3200000 in
theorem takes9_num (p : Value) (most : Int) (z : Nat) (o : FloatKind.f64.format.order z z = some .eq) (w : World) (i : Nat) (hi : i < w.heap.size) (R : World → Prop) (hR : ∀ a b, R a → Row a (w.heap.size + 1) 54 [.int .u64 0, .string ⟨#[]⟩] → a.grownBy b (some (w.heap.size + 1)) → R b) (H : Hid (∀ w1, Below w.heap.size w w1 → Calls Tryd.prog 58 #[p] w1 fun e w2 => e = .returned (.float .f64 z) ∧ R w2 ∧ w1.grownBy w2 (some i))) :
    Calls Tryd.prog 18 #[p, .agg #[.int .i64 9, .int .i64 most]] w fun e w' => e = .returned (gotV ((z : Int)) []) ∧ R w' ∧ w.grownBy w' (some i) := by
  go_enter Tryd.func18, Tryd.ntmps18
  go_upto_region 19 with fail
  have gB : Below w.heap.size w ((w.alloc (.cells #[.int .i64 9, .int .i64 most] 57)).alloc (.cells #[.int .u64 0, .string ⟨#[]⟩] 54)) := ((Below.refl _ w).alloc (Nat.le_refl _) _).alloc (by simp) _
  have rg : Row ((w.alloc (.cells #[.int .i64 9, .int .i64 most] 57)).alloc (.cells #[.int .u64 0, .string ⟨#[]⟩] 54)) (w.heap.size + 1) 54 [.int .u64 0, .string ⟨#[]⟩] := by
    have := Row.new (w.alloc (.cells #[.int .i64 9, .int .i64 most] 57)) 54 [.int .u64 0, .string ⟨#[]⟩]
    rwa [World.size_alloc] at this
  generalize (w.alloc (.cells #[.int .i64 9, .int .i64 most] 57)).alloc (.cells #[.int .u64 0, .string ⟨#[]⟩] 54) = W at *
  go_wp2_with (first | simp only [run59] | (go_at_call 58; refine (H.out _ gB).mono ?_; rintro e w2 ⟨rfl, q2, g2⟩; have rg2 := rg.grown g2 (by intro e; cases e; omega); have k0 : w2.cell? ⟨w.heap.size + 1, 0, none⟩ = some (.int .u64 0) := rg2.cell 0; have k1 : w2.cell? ⟨w.heap.size + 1, 1, none⟩ = some (.string ⟨#[]⟩) := rg2.cell 1; have f0 := rg2.frozen 0; have f1 := rg2.frozen 1))
  have z0 : ((w2.setCell ⟨w.heap.size + 1, 0, none⟩ (.int .u64 ((z : Int)))).setCell ⟨w.heap.size + 1, 1, none⟩ (.string ⟨#[]⟩)).cell? ⟨w.heap.size + 1, 0, none⟩ = some (.int .u64 ((z : Int))) := ((rg2.set 0 (.int .u64 ((z : Int)))).set 1 (.string ⟨#[]⟩)).cell 0
  have z1 : ((w2.setCell ⟨w.heap.size + 1, 0, none⟩ (.int .u64 ((z : Int)))).setCell ⟨w.heap.size + 1, 1, none⟩ (.string ⟨#[]⟩)).cell? ⟨w.heap.size + 1, 1, none⟩ = some (.string ⟨#[]⟩) := ((rg2.set 0 (.int .u64 ((z : Int)))).set 1 (.string ⟨#[]⟩)).cell 1
  have gs : w2.grownBy ((w2.setCell ⟨w.heap.size + 1, 0, none⟩ (.int .u64 ((z : Int)))).setCell ⟨w.heap.size + 1, 1, none⟩ (.string ⟨#[]⟩)) (some (w.heap.size + 1)) := setCells_grown [_, _] 0 w2
  have gw := grown_box gB rg.lt g2 gs
  generalize (w2.setCell ⟨w.heap.size + 1, 0, none⟩ (.int .u64 ((z : Int)))).setCell ⟨w.heap.size + 1, 1, none⟩ (.string ⟨#[]⟩) = W4 at *
  refine bodyPost_ret (v := gotV ((z : Int)) []) (by simp [results, Tryd.results18, go_sem, z0, z1, gotV]) rfl ⟨rfl, hR _ _ q2 rg2 gs, gw⟩
set_option maxRecDepth 20000 in
set_option maxHeartbeats 3200000 in
theorem takes9_nan (p : Value) (most : Int) (z : Nat) (o : FloatKind.f64.format.order z z = none) (w : World) (i : Nat) (hi : i < w.heap.size) (R : World → Prop) (hR : ∀ a b, R a → Row a (w.heap.size + 1) 54 [.int .u64 0, .string ⟨#[]⟩] → a.grownBy b (some (w.heap.size + 1)) → R b) (H : Hid (∀ w1, Below w.heap.size w w1 → Calls Tryd.prog 58 #[p] w1 fun e w2 => e = .returned (.float .f64 z) ∧ R w2 ∧ w1.grownBy w2 (some i))) :
    Calls Tryd.prog 18 #[p, .agg #[.int .i64 9, .int .i64 most]] w fun e w' => e = .returned (gotV 0 [110, 111, 110, 101]) ∧ R w' ∧ w.grownBy w' (some i) := by
  go_enter Tryd.func18, Tryd.ntmps18
  go_upto_region 19 with fail
  have gB : Below w.heap.size w ((w.alloc (.cells #[.int .i64 9, .int .i64 most] 57)).alloc (.cells #[.int .u64 0, .string ⟨#[]⟩] 54)) := ((Below.refl _ w).alloc (Nat.le_refl _) _).alloc (by simp) _
  have rg : Row ((w.alloc (.cells #[.int .i64 9, .int .i64 most] 57)).alloc (.cells #[.int .u64 0, .string ⟨#[]⟩] 54)) (w.heap.size + 1) 54 [.int .u64 0, .string ⟨#[]⟩] := by
    have := Row.new (w.alloc (.cells #[.int .i64 9, .int .i64 most] 57)) 54 [.int .u64 0, .string ⟨#[]⟩]
    rwa [World.size_alloc] at this
  generalize (w.alloc (.cells #[.int .i64 9, .int .i64 most] 57)).alloc (.cells #[.int .u64 0, .string ⟨#[]⟩] 54) = W at *
  go_wp2_with (go_at_call 58; refine (H.out _ gB).mono ?_; rintro e w2 ⟨rfl, q2, g2⟩; have rg2 := rg.grown g2 (by intro e; cases e; omega); have k0 : w2.cell? ⟨w.heap.size + 1, 0, none⟩ = some (.int .u64 0) := rg2.cell 0; have k1 : w2.cell? ⟨w.heap.size + 1, 1, none⟩ = some (.string ⟨#[]⟩) := rg2.cell 1; have f0 := rg2.frozen 0; have f1 := rg2.frozen 1)
  have z0 : ((w2.setCell ⟨w.heap.size + 1, 0, none⟩ (.int .u64 0)).setCell ⟨w.heap.size + 1, 1, none⟩ (.string ⟨#[110, 111, 110, 101]⟩)).cell? ⟨w.heap.size + 1, 0, none⟩ = some (.int .u64 0) := ((rg2.set 0 (.int .u64 0)).set 1 (.string ⟨#[110, 111, 110, 101]⟩)).cell 0
  have z1 : ((w2.setCell ⟨w.heap.size + 1, 0, none⟩ (.int .u64 0)).setCell ⟨w.heap.size + 1, 1, none⟩ (.string ⟨#[110, 111, 110, 101]⟩)).cell? ⟨w.heap.size + 1, 1, none⟩ = some (.string ⟨#[110, 111, 110, 101]⟩) := ((rg2.set 0 (.int .u64 0)).set 1 (.string ⟨#[110, 111, 110, 101]⟩)).cell 1
  have gs : w2.grownBy ((w2.setCell ⟨w.heap.size + 1, 0, none⟩ (.int .u64 0)).setCell ⟨w.heap.size + 1, 1, none⟩ (.string ⟨#[110, 111, 110, 101]⟩)) (some (w.heap.size + 1)) := setCells_grown [_, _] 0 w2
  have gw := grown_box gB rg.lt g2 gs
  generalize (w2.setCell ⟨w.heap.size + 1, 0, none⟩ (.int .u64 0)).setCell ⟨w.heap.size + 1, 1, none⟩ (.string ⟨#[110, 111, 110, 101]⟩) = W4 at *
  refine bodyPost_ret (v := gotV 0 [110, 111, 110, 101]) (by simp [results, Tryd.results18, go_sem, z0, z1, gotV]) rfl ⟨rfl, hR _ _ q2 rg2 gs, gw⟩
end Go.Proofs.YtomklacjaadcaaaDoor
