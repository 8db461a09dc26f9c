/- The closed call of every law: a disc has its centre, and no point beyond its radius. -/
import Derived.Test.YtgcofpfjdplopaaGreatWk9
set_option linter.unusedSimpArgs false
namespace Go.Proofs.YtgcofpfjdplopaaGreat
open Go.RowKit Go.Sort

theorem three_pts (w : World) (x : Int) : Pts (w.alloc (.cells #[.int .i32 1, .int .i32 1, .int .i32 x, .int .i32 1, .int .i32 x, .int .i32 1] 28)) (some ⟨w.heap.size, 0, none⟩) [(1, 1), (x, 1), (x, 1)] := fun i hi => by
  have k := Bl.new w 28 #[.int .i32 1, .int .i32 1, .int .i32 x, .int .i32 1, .int .i32 x, .int .i32 1]
  refine ⟨w.heap.size, 0, rfl, ?_, ?_⟩
  · match i, hi with
    | 0, _ => exact k.cell rfl
    | 1, _ => exact k.cell rfl
    | 2, _ => exact k.cell rfl
  · match i, hi with
    | 0, _ => exact k.cell rfl
    | 1, _ => exact k.cell rfl
    | 2, _ => exact k.cell rfl
set_option maxRecDepth 20000 in
set_option maxHeartbeats 4000000 in
theorem near197 {x : Int} {r : Bool} (hx : t134 x) (hn : ∀ w, Calls Tryz.prog 198 #[pt 1 1, pt x 1, pt x 1, .int .i64 2] w fun e w' => e = .returned (.bool r) ∧ Gr w w') (w : World) : Calls Tryz.prog 197 #[pt 1 1, pt x 1, pt x 1, .int .i64 2] w fun e w' => e = .returned (.bool r) ∧ Gr w w' := by
  obtain ⟨k1, k2, k3, g⟩ := three_new w (P 1 1) (P x 1) (P x 1)
  have N1 := fun w => hid' (hn w)
  have hO := ofl_true (some ⟨(((w.alloc (.cells (P 1 1) 28)).alloc (.cells (P x 1) 28)).alloc (.cells (P x 1) 28)).heap.size, 0, none⟩) 3 [(1, 1), (x, 1), (x, 1)] (by simp) (fun i hi => by
    match i, hi with
    | 0, _ => exact ⟨.inl rfl, .inl rfl⟩
    | 1, _ => exact ⟨hx, .inl rfl⟩
    | 2, _ => exact ⟨hx, .inl rfl⟩) _ (three_pts (((w.alloc (.cells (P 1 1) 28)).alloc (.cells (P x 1) 28)).alloc (.cells (P x 1) 28)) x)
  clear hn hx
  replace hO := hid' hO
  go_enter Tryz.func197, Tryz.ntmps197
  go_upto_region 1 with fail
  generalize ((w.alloc (.cells #[.int .i32 1, .int .i32 1] 28)).alloc (.cells #[.int .i32 x, .int .i32 1] 28)).alloc (.cells #[.int .i32 x, .int .i32 1] 28) = W at *
  obtain ⟨a0, a1, _, _⟩ := k1.two
  obtain ⟨b0, b1, _, _⟩ := k2.two
  obtain ⟨c0, c1, _, _⟩ := k3.two
  go_wp2_with (first
    | (go_at_call 134; refine hO.out.mono ?_; rintro e w1 ⟨rfl, g1⟩; have G1 : Gr W w1 := ((Gr.refl W).alloc _).trans g1; obtain ⟨a0, a1, _, _⟩ := (k1.gr G1).two; obtain ⟨b0, b1, _, _⟩ := (k2.gr G1).two; obtain ⟨c0, c1, _, _⟩ := (k3.gr G1).two)
    | (go_at_call 198; refine (N1 _).out.mono ?_; rintro e w2 ⟨rfl, g2⟩))
  go_ret
  exact ⟨rfl, (g.trans G1).trans g2⟩
abbrev dC : Array Value := #[.int .i32 1, .int .i32 1, .int .i32 2]
theorem Bl.three_gr {w : World} {b t : Nat} {x y z : Value} (h : Bl w b t #[x, y, z]) : (∀ w', Gr w w' → w'.cell? ⟨b, 0, none⟩ = some x) ∧ (∀ w', Gr w w' → w'.cell? ⟨b, 1, none⟩ = some y) ∧ (∀ w', Gr w w' → w'.cell? ⟨b, 2, none⟩ = some z) :=
  ⟨fun _ g => (h.gr g).cell rfl, fun _ g => (h.gr g).cell rfl, fun _ g => (h.gr g).cell rfl⟩
theorem Bl.two_gr {w : World} {b t : Nat} {x y : Value} (h : Bl w b t #[x, y]) : (∀ w', Gr w w' → w'.cell? ⟨b, 0, none⟩ = some x) ∧ (∀ w', Gr w w' → w'.cell? ⟨b, 1, none⟩ = some y) :=
  ⟨fun _ g => (h.gr g).cell rfl, fun _ g => (h.gr g).cell rfl⟩
set_option maxRecDepth 20000 in
set_option maxHeartbeats 4000000 in
theorem meets_c {x : Int} {r : Bool} (D : Nat) (hn : ∀ w, Calls Tryz.prog 197 #[pt 1 1, pt x 1, pt x 1, .int .i64 2] w fun e w' => e = .returned (.bool r) ∧ Gr w w') (w : World) (hD : Bl w D 128 dC) : Calls Tryz.prog 195 #[.pointer (some ⟨D, 0, none⟩), pt x 1, pt x 1] w fun e w' => e = .returned (.bool r) ∧ Gr w w' := by
  obtain ⟨k1, k2, g⟩ := two_new w 28 28 (P x 1) (P x 1)
  have kD := hD.gr g
  have N1 := fun w => hid' (hn w)
  clear hn hD
  go_enter Tryz.func195, Tryz.ntmps195
  go_upto_region 1 with fail
  generalize (w.alloc (.cells #[.int .i32 x, .int .i32 1] 28)).alloc (.cells #[.int .i32 x, .int .i32 1] 28) = W at *
  obtain ⟨a0, a1⟩ := k1.two_gr
  obtain ⟨b0, b1⟩ := k2.two_gr
  obtain ⟨d0, d1, d2⟩ := kD.three_gr
  go_region_held3 (Gr W)
    (first
      | exact (Gr.refl _).drew
      | exact Gr.trans (by assumption) (by assumption))
    (first
      | (go_at_call 197; refine (N1 _).out.mono ?_; rintro e w1 ⟨rfl, g1⟩))
  rename_i hH
  go_wp2
  go_ret
  exact ⟨rfl, g.trans hH⟩
set_option maxRecDepth 20000 in
set_option maxHeartbeats 4000000 in
theorem covers_c {x : Int} {r : Bool} (D : Nat) (hn : ∀ w, Calls Tryz.prog 197 #[pt 1 1, pt x 1, pt x 1, .int .i64 2] w fun e w' => e = .returned (.bool r) ∧ Gr w w') (w : World) (hD : Bl w D 128 dC) : Calls Tryz.prog 194 #[.pointer (some ⟨D, 0, none⟩), pt x 1] w fun e w' => e = .returned (.bool r) ∧ Gr w w' := by
  have M := hid' (meets_c D hn (w.alloc (.cells (P x 1) 28)) (hD.alloc _))
  clear hn hD
  go_enter Tryz.func194, Tryz.ntmps194
  go_wp2_with (go_at_call 195; refine M.out.mono ?_; rintro e w1 ⟨rfl, g1⟩)
  go_ret
  exact ⟨rfl, ((Gr.refl _).alloc _).trans g1⟩
end Go.Proofs.YtgcofpfjdplopaaGreat
