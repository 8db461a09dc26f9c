/- Of, Covers, Meets of a shape, from what its Check and its area tell. A polygon without holes. -/
import Derived.Test.YtgcofpfjdplopaaGreatPn9J
namespace Go.Proofs.YtgcofpfjdplopaaGreat
section
set_option linter.unusedSimpArgs false
open Go.RowKit Go.Shelf Go.Sort

theorem four_below9 {w : World} {b t : Nat} {x y z v : Value} (h : Bl w b t #[x, y, z, v]) : (∀ w', Below w.heap.size w w' → w'.cell? ⟨b, 0, none⟩ = some x) ∧ (∀ w', Below w.heap.size w w' → w'.cell? ⟨b, 1, none⟩ = some y) ∧ (∀ w', Below w.heap.size w w' → w'.cell? ⟨b, 2, none⟩ = some z) ∧ (∀ w', Below w.heap.size w w' → w'.cell? ⟨b, 3, none⟩ = some v) :=
  ⟨fun _ g => (h.below g).cell rfl, fun _ g => (h.below g).cell rfl, fun _ g => (h.below g).cell rfl, fun _ g => (h.below g).cell rfl⟩

abbrev shp (k s : Int) (vo ho : Option Addr) (m vc n hc : Nat) : Value := .agg #[.int .u8 k, .slice vo m vc, .slice ho n hc, .int .i32 s]
set_option maxRecDepth 20000 in
set_option maxHeartbeats 8000000 in
theorem of_ok (k s : Int) (vo ho : Option Addr) (m vc n hc : Nat) (T : TypeId) (Q : World → Nat → Prop) (w : World)
    (CH : ∀ w', Below w.heap.size w w' → Calls Tryz.prog 14 #[shp k s vo ho m vc n hc] w' fun e w'' => e = .returned (.int .i64 0) ∧ Below w'.heap.size w' w'')
    (AR : ∀ w', Below w.heap.size w w' → Calls Tryz.prog 48 #[shp k s vo ho m vc n hc] w' fun e w'' => ∃ D, e = .returned (.iface T (.pointer (some ⟨D, 0, none⟩))) ∧ Q w'' D ∧ Below w'.heap.size w' w'') :
    Calls Tryz.prog 19 #[shp k s vo ho m vc n hc] w fun e w' => ∃ D, e = .returned (.tuple #[.iface T (.pointer (some ⟨D, 0, none⟩)), .int .i64 0]) ∧ Q w' D ∧ Below w.heap.size w w' := by
  obtain ⟨W, hW⟩ : ∃ W, W = w.alloc (.cells #[.int .u8 k, .slice vo m vc, .slice ho n hc, .int .i32 s] 26) := ⟨_, rfl⟩
  have g : Gr w W := by rw [hW]; exact (Gr.refl _).alloc _
  have kS : Bl W w.heap.size 26 #[.int .u8 k, .slice vo m vc, .slice ho n hc, .int .i32 s] := by rw [hW]; exact Bl.new w 26 _
  obtain ⟨p0, p1, p2, p3⟩ := four_below9 kS
  have x0 := p0 W (Below.refl _ _)
  have x1 := p1 W (Below.refl _ _)
  have x2 := p2 W (Below.refl _ _)
  have x3 := p3 W (Below.refl _ _)
  have gb : Hid (Below w.heap.size w W) := g.below
  have gs : Hid (w.heap.size ≤ W.heap.size) := g.size
  replace CH := hid' (CH W g.below)
  replace AR := hid' AR
  clear g kS
  go_enter Tryz.func19, Tryz.ntmps19
  go_upto_region 1 with fail
  rw [← hW]
  clear hW
  go_wp2_with (first
    | (go_at_call 14; refine CH.out.mono ?_; rintro e w3 ⟨rfl, g3⟩; have y0 := p0 _ g3; have y1 := p1 _ g3; have y2 := p2 _ g3; have y3 := p3 _ g3; have G3 := hid' (gb.out.trans (g3.mono gs.out)))
    | (go_at_call 48; refine (AR.out _ G3.out).mono ?_; rintro e w4 ⟨D, rfl, hQ, g4⟩))
  exact bodyPost_ret (v := .tuple #[.iface T (.pointer (some ⟨D, 0, none⟩)), .int .i64 0]) (by simp [results, Tryz.results19, go_sem]) rfl ⟨D, rfl, hQ, G3.out.trans (g4.mono G3.out.size)⟩

set_option maxRecDepth 20000 in
set_option maxHeartbeats 8000000 in
theorem covers_ok (k s : Int) (vo ho : Option Addr) (m vc n hc : Nat) (T : TypeId) (f : FuncId) (Q : World → Nat → Prop) (p : Int × Int) (B : Bool) (w : World)
    (hT : (T = 124 ∧ f = 186) ∨ (T = 126 ∧ f = 194) ∨ (T = 129 ∧ f = 200) ∨ (T = 132 ∧ f = 204))
    (OF : ∀ w', Below w.heap.size w w' → Calls Tryz.prog 19 #[shp k s vo ho m vc n hc] w' fun e w'' => ∃ D, e = .returned (.tuple #[.iface T (.pointer (some ⟨D, 0, none⟩)), .int .i64 0]) ∧ Q w'' D ∧ Below w'.heap.size w' w'')
    (CV : ∀ w' D, Q w' D → Calls Tryz.prog f #[.pointer (some ⟨D, 0, none⟩), pt p.1 p.2] w' fun e w'' => e = .returned (.bool B) ∧ Below w'.heap.size w' w'') :
    Calls Tryz.prog 15 #[shp k s vo ho m vc n hc, pt p.1 p.2] w fun e w' => e = .returned (.bool B) ∧ Below w.heap.size w w' := by
  obtain ⟨W, hW⟩ : ∃ W, W = (w.alloc (.cells #[.int .u8 k, .slice vo m vc, .slice ho n hc, .int .i32 s] 26)).alloc (.cells #[.int .i32 p.1, .int .i32 p.2] 28) := ⟨_, rfl⟩
  have g : Gr w W := by rw [hW]; exact ((Gr.refl _).alloc _).alloc _
  have kS : Bl W w.heap.size 26 #[.int .u8 k, .slice vo m vc, .slice ho n hc, .int .i32 s] := by rw [hW]; exact (Bl.new w 26 _).below ((Gr.refl _).alloc _).below
  have kP : Bl W (w.heap.size + 1) 28 #[.int .i32 p.1, .int .i32 p.2] := by rw [hW]; have := Bl.new (w.alloc (.cells #[.int .u8 k, .slice vo m vc, .slice ho n hc, .int .i32 s] 26)) 28 #[.int .i32 p.1, .int .i32 p.2]; rwa [World.size_alloc] at this
  obtain ⟨p0, p1, p2, p3⟩ := four_below9 kS
  obtain ⟨q0, q1⟩ := two_below9 kP
  have x0 := p0 W (Below.refl _ _)
  have x1 := p1 W (Below.refl _ _)
  have x2 := p2 W (Below.refl _ _)
  have x3 := p3 W (Below.refl _ _)
  have gb : Hid (Below w.heap.size w W) := g.below
  have gs : Hid (w.heap.size ≤ W.heap.size) := g.size
  replace OF := hid' (OF W g.below)
  replace CV := hid' CV
  clear g kS kP p0 p1 p2 p3
  rcases hT with ⟨rfl, rfl⟩ | ⟨rfl, rfl⟩ | ⟨rfl, rfl⟩ | ⟨rfl, rfl⟩
  all_goals
    go_enter Tryz.func15, Tryz.ntmps15
    go_upto_region 1 with fail
    rw [← hW]
    clear hW
    go_wp2_with (first
      | (go_at_call 19; refine OF.out.mono ?_; rintro e w3 ⟨D, rfl, hQ, g3⟩; have y0 := q0 _ g3; have y1 := q1 _ g3)
      | (refine (CV.out _ _ hQ).mono ?_; rintro e w4 ⟨rfl, g4⟩))
    go_ret
    exact ⟨rfl, gb.out.trans ((g3.trans (g4.mono g3.size)).mono gs.out)⟩
end
section
set_option linter.unusedSimpArgs false
open Go.RowKit Go.Shelf Go.Sort

set_option maxRecDepth 20000 in
set_option maxHeartbeats 8000000 in
theorem newPoly0 (vo ho : Option Addr) (l : List (Int × Int)) (vc hc : Nat) (hl : l.length ≤ 17592186043904) (hno : vo = none → l.length = 0 ∧ vc = 0) (w : World) (hP : Pts w vo l) :
    Calls Tryz.prog 91 #[.slice vo l.length vc, .slice ho 0 hc] w fun e w' => ∃ D sv, e = .returned (.pointer (some ⟨D, 0, none⟩)) ∧ Bl w' D 162 #[sv, .slice none 0 0] ∧ w'.ownsRow w.heap.size 28 2 sv l.length (flat l) ∧ Below w.heap.size w w' := by
  have CL : Hid (Calls Tryz.prog 92 #[.slice vo l.length vc] w fun e w' => ∃ sv, e = .returned sv ∧ w'.ownsRow w.heap.size 28 2 sv l.length (flat l) ∧ Below w.heap.size w w') := clone_any vo vc l w hl hno hP
  clear hP hno
  go_enter Tryz.func91, Tryz.ntmps91
  go_wp2_with (go_at_call 92; refine CL.out.mono ?_; rintro e w3 ⟨sv, rfl, o3, g3⟩; obtain ⟨ro, rc, rfl⟩ := own_sl o3; replace o3 := hid' o3; replace g3 := hid' g3)
  go_loopw [7, 14] (fun _ i wr => i = .int .i64 0 ∧ Hid (wr = w3.alloc (.cells #[.slice ro l.length rc, .slice none 0 0] 162))) (fun _ _ _ => 0)
  case atStart => exact ⟨rfl, by exact rfl⟩
  case round =>
    obtain ⟨rfl, hw⟩ := hrel
    go_wp2
    go_ret
    exact ⟨w3.heap.size, .slice ro l.length rc, rfl, by rw [hw.out]; exact Bl.new w3 162 _, by rw [hw.out]; exact o3.out.alloc _, by rw [hw.out]; exact g3.out.alloc g3.out.size _⟩

set_option maxRecDepth 20000 in
set_option maxHeartbeats 8000000 in
theorem area_poly0 (s : Int) (vo ho : Option Addr) (l : List (Int × Int)) (vc hc : Nat) (hl : l.length ≤ 17592186043904) (hno : vo = none → l.length = 0 ∧ vc = 0) (w : World) (hP : Pts w vo l) :
    Calls Tryz.prog 48 #[shp 1 s vo ho l.length vc 0 hc] w fun e w' => ∃ D, e = .returned (.iface 124 (.pointer (some ⟨D, 0, none⟩))) ∧ (∃ sv, Bl w' D 162 #[sv, .slice none 0 0] ∧ w'.ownsRow w.heap.size 28 2 sv l.length (flat l)) ∧ Below w.heap.size w w' := by
  obtain ⟨W, hW⟩ : ∃ W, W = w.alloc (.cells #[.int .u8 1, .slice vo l.length vc, .slice ho 0 hc, .int .i32 s] 26) := ⟨_, rfl⟩
  have g : Gr w W := by rw [hW]; exact (Gr.refl _).alloc _
  have kS : Bl W w.heap.size 26 #[.int .u8 1, .slice vo l.length vc, .slice ho 0 hc, .int .i32 s] := by rw [hW]; exact Bl.new w 26 _
  have NP : Hid (Calls Tryz.prog 91 #[.slice vo l.length vc, .slice ho 0 hc] W fun e w' => ∃ D sv, e = .returned (.pointer (some ⟨D, 0, none⟩)) ∧ Bl w' D 162 #[sv, .slice none 0 0] ∧ w'.ownsRow W.heap.size 28 2 sv l.length (flat l) ∧ Below W.heap.size W w') := newPoly0 vo ho l vc hc hl hno W (hP.mono g.below)
  obtain ⟨p0, p1, p2, p3⟩ := four_below9 kS
  have x0 := p0 W (Below.refl _ _)
  have x1 := p1 W (Below.refl _ _)
  have x2 := p2 W (Below.refl _ _)
  have x3 := p3 W (Below.refl _ _)
  have gb : Hid (Below w.heap.size w W) := g.below
  have gs : Hid (w.heap.size ≤ W.heap.size) := g.size
  clear g kS p0 p1 p2 p3 hP hno
  go_enter Tryz.func48, Tryz.ntmps48
  go_upto_region 1 with fail
  rw [← hW]
  clear hW
  go_wp2_with (go_at_call 91; refine NP.out.mono ?_; rintro e w3 ⟨D, sv, rfl, hB, o3, g3⟩)
  go_ret
  exact ⟨D, rfl, ⟨sv, hB, row_base9 o3 gs.out⟩, gb.out.trans (g3.mono gs.out)⟩
end
end Go.Proofs.YtgcofpfjdplopaaGreat
