/- Speeds on both sides. -/
import Derived.Test.YtgdmbcfjjdngdaaDoorDr
set_option linter.unusedSimpArgs false
set_option linter.unusedVariables false
namespace Go.Proofs.YtgdmbcfjjdngdaaDoor
open Go.RowKit Go.Sort Ieee

theorem foi_V (n : Int) : V (floatOfInt .f64 n) (floatOfInt .f64 n) := V.refl (by have := floatOfInt_wf .f64 n; simpa [Lit.wf] using this)
/-- The speed behind a move, n ticks behind the one ahead of it. -/
def spN (old D : Nat) (n : Nat) : Nat := fo .add old (fo .mul (fo .quo (floatOfInt .f64 (n : Int)) (floatOfInt .f64 ((n + 8 : Nat) : Int))) (fo .sub (fo .quo D (floatOfInt .f64 (n : Int))) old))
def spF (old : Nat) (dx dy : Int) (t0 t : Nat) : Nat := if t ≤ t0 then old else spN old (dsF dx dy) (t - t0)
theorem ds_V (dx dy : Int) : V (dsF dx dy) (dsF dx dy) := V.refl (by have := (ds_root dx dy).2; omega)
set_option maxRecDepth 20000 in
set_option maxHeartbeats 2000000 in
theorem speed_any {o O : Nat} {x y u v : Int} {t0 t : Nat} (ho : V o O) (hx : in32 x) (hy : in32 y) (hu : in32 u) (hv : in32 v) (h0 : t0 < 4294967296) (h1 : t < 4294967296) (w : World) :
    Calls Tryd.prog 10 #[.float .f64 o, pt x y, pt u v, .int .u32 (t0 : Int), .int .u32 (t : Int)] w fun e w' => ∃ r, e = .returned (.float .f64 r) ∧ V r (spF O (u - x) (v - y) t0 t) ∧ Gr w w' := by
  obtain ⟨g, k1, k2⟩ := two_pts x y u v w
  have G := hid0 g
  clear g
  have DS : Hid (∀ W, Calls Tryd.prog 18 #[pt x y, pt u v] W fun e w' => e = .returned (.float .f64 (dsF (u - x) (v - y))) ∧ Gr W w') := fun W => distance_any hx hy hu hv W
  have hD := ds_V (u - x) (v - y)
  unfold spF
  generalize dsF (u - x) (v - y) = D at *
  by_cases hc : t ≤ t0
  · rw [if_pos hc]
    have d : decide ((t : Int) ≤ (t0 : Int)) = true := decide_eq_true (by omega)
    have d2 : (t : Int) ≤ (t0 : Int) := by omega
    have HO := hid0 ho
    clear hc h0 h1 ho hD DS
    go_enter Tryd.func10, Tryd.ntmps10
    go_upto_region 1 with fail
    generalize World.alloc _ _ = W at *
    go_wp2
    go_ret
    exact ⟨_, rfl, HO.out, G.out⟩
  · rw [if_neg hc]
    have d : decide ((t : Int) ≤ (t0 : Int)) = false := decide_eq_false (by omega)
    have d2 : ¬ (t : Int) ≤ (t0 : Int) := by omega
    obtain ⟨N, hN⟩ : ∃ N, N = t - t0 := ⟨_, rfl⟩
    rw [← hN]
    have m1 : IntKind.u32.wrap ((t : Int) - (t0 : Int)) = (N : Int) := by rw [IntKind.wrap_u32]; omega
    have m3 : IntKind.u64.wrap ((N : Int)) = (N : Int) := by rw [IntKind.wrap_u64]; omega
    obtain ⟨M, hM⟩ : ∃ M, M = N + 8 := ⟨_, rfl⟩
    have m2 : IntKind.u64.wrap ((N : Int) + 8) = (M : Int) := by rw [IntKind.wrap_u64]; omega
    unfold spN
    rw [← hM]
    have f1 := foi_V (N : Int)
    have f2 := foi_V (M : Int)
    clear hN hM hc h0 h1
    go_enter Tryd.func10, Tryd.ntmps10
    go_upto_region 1 with fail
    generalize w.heap.size + 1 = b2 at *
    generalize w.heap.size = b1 at *
    generalize World.alloc _ _ = W at *
    obtain ⟨p0, p1⟩ := k1.two
    obtain ⟨q0, q1⟩ := k2.two
    clear k1 k2
    go_wp2_with (first
      | (go_at_call 18; refine (DS.out _).mono ?_; rintro e w1 ⟨rfl, g1⟩)
      | (refine wpList_fl _ rfl .quo (.inr (.inr (.inr rfl))) _ _ rfl _ _ rfl rfl (by assumption) (by assumption) ?_; intro r n h')
      | (refine wpList_fl _ rfl .sub (.inr (.inl rfl)) _ _ rfl _ _ rfl rfl (by assumption) (by assumption) ?_; intro r n h')
      | (refine wpList_fl _ rfl .mul (.inr (.inr (.inl rfl))) _ _ rfl _ _ rfl rfl (by assumption) (by assumption) ?_; intro r n h')
      | (refine wpList_fl _ rfl .add (.inl rfl) _ _ rfl _ _ rfl rfl (by assumption) (by assumption) ?_; intro r n h'))
    have GG := G.out.trans g1
    clear G g1
    go_ret
    refine ⟨_, rfl, by assumption, ?_⟩
    repeat (first | exact GG | refine Gr.drewN ?_ _)
set_option maxRecDepth 20000 in
set_option maxHeartbeats 2000000 in
theorem rspeed_any {o O : Nat} {x y u v : Int} {t0 t : Nat} (ho : V o O) (hx : in32 x) (hy : in32 y) (hu : in32 u) (hv : in32 v) (h0 : t0 < 4294967296) (h1 : t < 4294967296) (w : World) :
    Calls Tryd.prog 11 #[.float .f64 o, pt x y, pt u v, .int .u32 (t0 : Int), .int .u32 (t : Int)] w fun e w' => ∃ r, e = .returned (.float .f64 r) ∧ V r (spF O (u - x) (v - y) t0 t) ∧ Gr w w' := by
  obtain ⟨g, k1, k2⟩ := two_pts x y u v w
  have G := hid0 g
  clear g
  have DS : Hid (∀ W, Calls Tryd.prog 16 #[pt x y, pt u v] W fun e w' => e = .returned (.float .f64 (dsF (u - x) (v - y))) ∧ Gr W w') := fun W => rdistance_any hx hy hu hv W
  have hD := ds_V (u - x) (v - y)
  unfold spF
  generalize dsF (u - x) (v - y) = D at *
  by_cases hc : t ≤ t0
  · rw [if_pos hc]
    have d : decide ((t : Int) ≤ (t0 : Int)) = true := decide_eq_true (by omega)
    have d2 : (t : Int) ≤ (t0 : Int) := by omega
    have HO := hid0 ho
    clear hc h0 h1 ho hD DS
    go_enter Tryd.func11, Tryd.ntmps11
    go_upto_region 1 with fail
    generalize World.alloc _ _ = W at *
    go_wp2
    go_ret
    exact ⟨_, rfl, HO.out, G.out⟩
  · rw [if_neg hc]
    have d : decide ((t : Int) ≤ (t0 : Int)) = false := decide_eq_false (by omega)
    have d2 : ¬ (t : Int) ≤ (t0 : Int) := by omega
    obtain ⟨N, hN⟩ : ∃ N, N = t - t0 := ⟨_, rfl⟩
    rw [← hN]
    have m1 : IntKind.u64.wrap ((t : Int) - (t0 : Int)) = (N : Int) := by rw [IntKind.wrap_u64]; omega
    have m4 : IntKind.u64.wrap (t : Int) = (t : Int) := by rw [IntKind.wrap_u64]; omega
    have m5 : IntKind.u64.wrap (t0 : Int) = (t0 : Int) := by rw [IntKind.wrap_u64]; omega
    have m3 : IntKind.u64.wrap ((N : Int)) = (N : Int) := by rw [IntKind.wrap_u64]; omega
    obtain ⟨M, hM⟩ : ∃ M, M = N + 8 := ⟨_, rfl⟩
    have m2 : IntKind.u64.wrap ((N : Int) + 8) = (M : Int) := by rw [IntKind.wrap_u64]; omega
    unfold spN
    rw [← hM]
    have f1 := foi_V (N : Int)
    have f2 := foi_V (M : Int)
    clear hN hM hc h0 h1
    go_enter Tryd.func11, Tryd.ntmps11
    go_upto_region 1 with fail
    generalize w.heap.size + 1 = b2 at *
    generalize w.heap.size = b1 at *
    generalize World.alloc _ _ = W at *
    obtain ⟨p0, p1⟩ := k1.two
    obtain ⟨q0, q1⟩ := k2.two
    clear k1 k2
    go_wp2_with (first
      | (go_at_call 16; refine (DS.out _).mono ?_; rintro e w1 ⟨rfl, g1⟩)
      | (refine wpList_fl _ rfl .quo (.inr (.inr (.inr rfl))) _ _ rfl _ _ rfl rfl (by assumption) (by assumption) ?_; intro r n h')
      | (refine wpList_fl _ rfl .sub (.inr (.inl rfl)) _ _ rfl _ _ rfl rfl (by assumption) (by assumption) ?_; intro r n h')
      | (refine wpList_fl _ rfl .mul (.inr (.inr (.inl rfl))) _ _ rfl _ _ rfl rfl (by assumption) (by assumption) ?_; intro r n h')
      | (refine wpList_fl _ rfl .add (.inl rfl) _ _ rfl _ _ rfl rfl (by assumption) (by assumption) ?_; intro r n h'))
    have GG := G.out.trans g1
    clear G g1
    go_ret
    refine ⟨_, rfl, by assumption, ?_⟩
    repeat (first | exact GG | refine Gr.drewN ?_ _)
end Go.Proofs.YtgdmbcfjjdngdaaDoor
