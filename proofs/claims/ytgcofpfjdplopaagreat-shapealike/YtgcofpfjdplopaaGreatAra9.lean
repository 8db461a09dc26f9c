/- The sets of a disc, a box, a corridor. -/
import Derived.Test.YtgcofpfjdplopaaGreatSf9
import Derived.Test.YtgcofpfjdplopaaGreatEd
namespace Go.Proofs.YtgcofpfjdplopaaGreat
section
set_option linter.unusedSimpArgs false
open Go.RowKit Go.Sort

set_option maxRecDepth 20000 in
set_option maxHeartbeats 8000000 in
theorem area_disc (s : Int) (b off : Nat) (ho : Option Addr) (vc n hc : Nat) (X Y : Int) (w : World) (p0 : w.cell? ⟨b, off, none⟩ = some (.int .i32 X)) (p1 : w.cell? ⟨b, off + 1, none⟩ = some (.int .i32 Y)) :
    Calls Tryz.prog 48 #[.agg #[.int .u8 2, .slice (some ⟨b, off, none⟩) 1 vc, .slice ho n hc, .int .i32 s]] w fun e w' => ∃ D, e = .returned (.iface 126 (.pointer (some ⟨D, 0, none⟩))) ∧ Bl w' D 128 #[.int .i32 X, .int .i32 Y, .int .i32 s] ∧ Gr w w' := by
  have kA := Bl.new w 26 #[.int .u8 2, .slice (some ⟨b, off, none⟩) 1 vc, .slice ho n hc, .int .i32 s]
  have g : Gr w (w.alloc (.cells #[.int .u8 2, .slice (some ⟨b, off, none⟩) 1 vc, .slice ho n hc, .int .i32 s] 26)) := (Gr.refl w).alloc _
  go_enter Tryz.func48, Tryz.ntmps48
  go_upto_region 5 with fail
  generalize w.alloc (.cells #[.int .u8 2, .slice (some ⟨b, off, none⟩) 1 vc, .slice ho n hc, .int .i32 s] 26) = W at *
  replace p0 : ∀ w', Gr W w' → w'.cell? ⟨b, off, none⟩ = some (.int .i32 X) := fun w' h => below_cell p0 (g.trans h).below
  replace p1 : ∀ w', Gr W w' → w'.cell? ⟨b, off + 1, none⟩ = some (.int .i32 Y) := fun w' h => below_cell p1 (g.trans h).below
  obtain ⟨x0, x1, x2, x3⟩ := kA.four_gr9
  go_region_held3 (Gr W)
    (first
      | exact (Gr.refl _).drew
      | assumption
      | exact Gr.alloc (by assumption) _
      | exact Gr.trans (by assumption) (by assumption))
    (first
      | fail)
  rename_i hH
  have kD : Bl (W.alloc (.cells #[.int .i32 X, .int .i32 Y, .int .i32 s] 128)).drew W.heap.size 128 #[.int .i32 X, .int .i32 Y, .int .i32 s] := Bl.new W 128 _
  go_wp2
  go_ret
  exact ⟨W.heap.size, rfl, kD, g.trans hH⟩
set_option maxRecDepth 20000 in
set_option maxHeartbeats 8000000 in
theorem area_rect (s : Int) (b off : Nat) (ho : Option Addr) (vc n hc : Nat) (X Y Z U : Int) (w : World) (p0 : w.cell? ⟨b, off, none⟩ = some (.int .i32 X)) (p1 : w.cell? ⟨b, off + 1, none⟩ = some (.int .i32 Y)) (p2 : w.cell? ⟨b, off + 2, none⟩ = some (.int .i32 Z)) (p3 : w.cell? ⟨b, off + 2 + 1, none⟩ = some (.int .i32 U)) :
    Calls Tryz.prog 48 #[.agg #[.int .u8 3, .slice (some ⟨b, off, none⟩) 2 vc, .slice ho n hc, .int .i32 s]] w fun e w' => ∃ D, e = .returned (.iface 129 (.pointer (some ⟨D, 0, none⟩))) ∧ Bl w' D 131 #[.int .i32 X, .int .i32 Y, .int .i32 Z, .int .i32 U] ∧ Gr w w' := by
  have kA := Bl.new w 26 #[.int .u8 3, .slice (some ⟨b, off, none⟩) 2 vc, .slice ho n hc, .int .i32 s]
  have g : Gr w (w.alloc (.cells #[.int .u8 3, .slice (some ⟨b, off, none⟩) 2 vc, .slice ho n hc, .int .i32 s] 26)) := (Gr.refl w).alloc _
  go_enter Tryz.func48, Tryz.ntmps48
  go_upto_region 7 with fail
  generalize w.alloc (.cells #[.int .u8 3, .slice (some ⟨b, off, none⟩) 2 vc, .slice ho n hc, .int .i32 s] 26) = W at *
  replace p0 : ∀ w', Gr W w' → w'.cell? ⟨b, off, none⟩ = some (.int .i32 X) := fun w' h => below_cell p0 (g.trans h).below
  replace p1 : ∀ w', Gr W w' → w'.cell? ⟨b, off + 1, none⟩ = some (.int .i32 Y) := fun w' h => below_cell p1 (g.trans h).below
  replace p2 : ∀ w', Gr W w' → w'.cell? ⟨b, off + 2, none⟩ = some (.int .i32 Z) := fun w' h => below_cell p2 (g.trans h).below
  replace p3 : ∀ w', Gr W w' → w'.cell? ⟨b, off + 2 + 1, none⟩ = some (.int .i32 U) := fun w' h => below_cell p3 (g.trans h).below
  obtain ⟨x0, x1, x2, x3⟩ := kA.four_gr9
  go_region_held3 (Gr W)
    (first
      | exact (Gr.refl _).drew
      | assumption
      | exact Gr.alloc (by assumption) _
      | exact Gr.trans (by assumption) (by assumption))
    (first
      | fail)
  rename_i hH
  have kD : Bl (W.alloc (.cells #[.int .i32 X, .int .i32 Y, .int .i32 Z, .int .i32 U] 131)).drew W.heap.size 131 #[.int .i32 X, .int .i32 Y, .int .i32 Z, .int .i32 U] := Bl.new W 131 _
  go_wp2
  go_ret
  exact ⟨W.heap.size, rfl, kD, g.trans hH⟩
theorem own_sl {w : World} {base e size n : Nat} {v : Value} {xs : List Value} (h : w.ownsRow base e size v n xs) : ∃ ro rc, v = .slice ro n rc := by
  rcases h.2 with ⟨e, h0⟩ | ⟨g, cap, cur, e, _⟩
  · exact ⟨none, 0, by rw [h0]; exact e⟩
  · exact ⟨_, _, e⟩
theorem row_base9 {w : World} {base base' : Nat} {e : TypeId} {size : Nat} {v : Value} {n : Nat} {xs : List Value} (h : w.ownsRow base e size v n xs) (hb : base' ≤ base) : w.ownsRow base' e size v n xs :=
  ⟨h.1, h.2.imp id fun ⟨g, cap, cur, e1, e2, r⟩ => ⟨g, cap, cur, e1, Nat.le_trans hb e2, r⟩⟩
theorem four_below' {w : World} {b t : Nat} {x y z v : Value} (h : Bl w b t #[x, y, z, v]) : (∀ w', Below w.heap.size w w' → w'.cell? ⟨b, 0, none⟩ = some x) ∧ (∀ w', Below w.heap.size w w' → w'.cell? ⟨b, 1, none⟩ = some y) ∧ (∀ w', Below w.heap.size w w' → w'.cell? ⟨b, 2, none⟩ = some z) ∧ (∀ w', Below w.heap.size w w' → w'.cell? ⟨b, 3, none⟩ = some v) :=
  ⟨fun _ g => (h.below g).cell rfl, fun _ g => (h.below g).cell rfl, fun _ g => (h.below g).cell rfl, fun _ g => (h.below g).cell rfl⟩
set_option maxRecDepth 20000 in
set_option maxHeartbeats 8000000 in
theorem area_corr (s : Int) (vo ho : Option Addr) (l : List (Int × Int)) (vc n hc : Nat) (hl : l.length ≤ 17592186043904) (hno : vo = none → l.length = 0 ∧ vc = 0) (w : World) (hP : Pts w vo l) :
    Calls Tryz.prog 48 #[.agg #[.int .u8 4, .slice vo l.length vc, .slice ho n hc, .int .i32 s]] w fun e w' => ∃ D sv, e = .returned (.iface 132 (.pointer (some ⟨D, 0, none⟩))) ∧ Bl w' D 134 #[sv, .int .i32 s] ∧ w'.ownsRow w.heap.size 28 2 sv l.length (flat l) ∧ Below w.heap.size w w' := by
  have kA := Bl.new w 26 #[.int .u8 4, .slice vo l.length vc, .slice ho n hc, .int .i32 s]
  have g : Gr w (w.alloc (.cells #[.int .u8 4, .slice vo l.length vc, .slice ho n hc, .int .i32 s] 26)) := (Gr.refl w).alloc _
  go_enter Tryz.func48, Tryz.ntmps48
  go_upto_region 8 with fail
  generalize w.alloc (.cells #[.int .u8 4, .slice vo l.length vc, .slice ho n hc, .int .i32 s] 26) = W at *
  have CL : Hid (∀ W', Below W.heap.size W W' → Calls Tryz.prog 92 #[.slice vo l.length vc] W' fun e w' => ∃ sv, e = .returned sv ∧ w'.ownsRow W'.heap.size 28 2 sv l.length (flat l) ∧ Below W'.heap.size W' w') := fun W' q => clone_any vo vc l W' hl hno ((hP.mono g.below).mono q)
  obtain ⟨x0, x1, x2, x3⟩ := four_below' kA
  clear hP
  go_region_held3 (Below W.heap.size W)
    (first
      | exact (Below.refl _ _).drew
      | assumption
      | exact Q3
      | exact Below.alloc Q3 Q3.size _
      | exact Below.alloc (by assumption) (Below.size (by assumption)) _)
    (first
      | (go_at_call 92; refine (CL.out _ (by assumption)).mono ?_; rintro e w3 ⟨sv, rfl, o3, q3⟩; obtain ⟨ro, rc, rfl⟩ := own_sl o3; have Q3 : Below W.heap.size W w3 := Below.trans (by assumption) (Below.mono q3 (Below.size (by assumption)))))
  have hs : w.heap.size ≤ W.heap.size := g.size
  have o4 := (row_base9 o3 (base' := w.heap.size) hs).alloc (.cells #[.slice ro l.length rc, .int .i32 s] 134)
  have kD := Bl.new w3 134 #[.slice ro l.length rc, .int .i32 s]
  have Q4 := (g.below.trans (Q3.mono hs)).alloc (Nat.le_trans hs Q3.size) (.cells #[.slice ro l.length rc, .int .i32 s] 134)
  replace o4 := hid' o4
  replace kD := hid' kD
  replace Q4 := hid' Q4
  go_wp2
  go_ret
  exact ⟨w3.heap.size, _, rfl, kD.out, o4.out, Q4.out⟩
end
end Go.Proofs.YtgcofpfjdplopaaGreat
