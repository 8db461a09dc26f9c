/- What a disc, a box, a corridor covers and meets. A box's corners. -/
import Derived.Test.YtgcofpfjdplopaaGreatAra9
import Derived.Test.YtgcofpfjdplopaaGreatSg10
import Derived.Test.YtgcofpfjdplopaaGreatBaseJ
namespace Go.Proofs.YtgcofpfjdplopaaGreat
section
set_option linter.unusedSimpArgs false
open Go.RowKit Go.Sort

theorem two_gr9 {w : World} {b t : Nat} {x y : Value} (h : Bl w b t #[x, y]) : (∀ w', Gr w w' → w'.cell? ⟨b, 0, none⟩ = some x) ∧ (∀ w', Gr w w' → w'.cell? ⟨b, 1, none⟩ = some y) :=
  ⟨fun _ g => (h.below g.below).cell rfl, fun _ g => (h.below g.below).cell rfl⟩
theorem three_gr9 {w : World} {b t : Nat} {x y z : Value} (h : Bl w b t #[x, y, z]) : (∀ w', Gr w w' → w'.cell? ⟨b, 0, none⟩ = some x) ∧ (∀ w', Gr w w' → w'.cell? ⟨b, 1, none⟩ = some y) ∧ (∀ w', Gr w w' → w'.cell? ⟨b, 2, none⟩ = some z) :=
  ⟨fun _ g => (h.below g.below).cell rfl, fun _ g => (h.below g.below).cell rfl, fun _ g => (h.below g.below).cell rfl⟩

set_option maxRecDepth 20000 in
set_option maxHeartbeats 8000000 in
theorem disc_meets (D : Nat) (c : Int × Int) (s : Int) (hs : -2147483648 ≤ s ∧ s < 2147483648) (p q : Int × Int) (w : World) (hD : Bl w D 128 #[.int .i32 c.1, .int .i32 c.2, .int .i32 s]) :
    Calls Tryz.prog 195 #[.pointer (some ⟨D, 0, none⟩), pt p.1 p.2, pt q.1 q.2] w fun e w' => e = .returned (.bool (nearA c p q s)) ∧ Gr w w' := by
  have hw : IntKind.i64.wrap s = s := by simp only [IntKind.wrap, IntKind.signed, IntKind.bits]; simp; omega
  have NE : Hid (∀ w, Calls Tryz.prog 197 #[pt c.1 c.2, pt p.1 p.2, pt q.1 q.2, .int .i64 s] w fun e w' => e = .returned (.bool (nearA c p q s)) ∧ Gr w w') := Near_any c p q s
  obtain ⟨W, hW⟩ : ∃ W, W = (w.alloc (.cells #[.int .i32 p.1, .int .i32 p.2] 28)).alloc (.cells #[.int .i32 q.1, .int .i32 q.2] 28) := ⟨_, rfl⟩
  have g : Gr w W := by rw [hW]; exact ((Gr.refl _).alloc _).alloc _
  have kP : Bl W w.heap.size 28 #[.int .i32 p.1, .int .i32 p.2] := by rw [hW]; exact (Bl.new w 28 _).below ((Gr.refl _).alloc _).below
  have kQ : Bl W (w.heap.size + 1) 28 #[.int .i32 q.1, .int .i32 q.2] := by rw [hW]; have := Bl.new (w.alloc (.cells #[.int .i32 p.1, .int .i32 p.2] 28)) 28 #[.int .i32 q.1, .int .i32 q.2]; rwa [World.size_alloc] at this
  have kD := hD.below g.below
  obtain ⟨p0, p1⟩ := two_gr9 kP
  obtain ⟨q0, q1⟩ := two_gr9 kQ
  obtain ⟨d0, d1, d2⟩ := three_gr9 kD
  clear kP kQ kD hD hs
  go_enter Tryz.func195, Tryz.ntmps195
  go_upto_region 1 with fail
  rw [← hW]
  clear hW
  go_region_held3 (Gr W)
    (first
      | exact (Gr.refl _).drew
      | assumption
      | exact Gr.alloc (by assumption) _
      | exact Gr.trans (by assumption) (by assumption))
    (first
      | (go_at_call 197; refine (NE.out _).mono ?_; rintro e w3 ⟨rfl, g3⟩))
  rename_i hH
  go_wp2
  go_ret
  exact ⟨rfl, g.trans hH⟩

set_option maxRecDepth 20000 in
set_option maxHeartbeats 8000000 in
theorem disc_covers (D : Nat) (c : Int × Int) (s : Int) (hs : -2147483648 ≤ s ∧ s < 2147483648) (p : Int × Int) (w : World) (hD : Bl w D 128 #[.int .i32 c.1, .int .i32 c.2, .int .i32 s]) :
    Calls Tryz.prog 194 #[.pointer (some ⟨D, 0, none⟩), pt p.1 p.2] w fun e w' => e = .returned (.bool (nearA c p p s)) ∧ Gr w w' := by
  have g : Gr w (w.alloc (.cells #[.int .i32 p.1, .int .i32 p.2] 28)) := (Gr.refl _).alloc _
  have M : Hid (Calls Tryz.prog 195 #[.pointer (some ⟨D, 0, none⟩), pt p.1 p.2, pt p.1 p.2] (w.alloc (.cells #[.int .i32 p.1, .int .i32 p.2] 28)) fun e w' => e = .returned (.bool (nearA c p p s)) ∧ Gr (w.alloc (.cells #[.int .i32 p.1, .int .i32 p.2] 28)) w') := disc_meets D c s hs p p _ (hD.below g.below)
  clear hD hs
  generalize nearA c p p s = B at *
  go_enter Tryz.func194, Tryz.ntmps194
  go_wp2_with (go_at_call 195; refine M.out.mono ?_; rintro e w3 ⟨rfl, g3⟩)
  go_ret
  exact ⟨rfl, g.trans g3⟩

set_option maxRecDepth 20000 in
set_option maxHeartbeats 8000000 in
theorem rect_covers (D : Nat) (a b : Int × Int) (p : Int × Int) (w : World) (hD : Bl w D 131 #[.int .i32 a.1, .int .i32 a.2, .int .i32 b.1, .int .i32 b.2]) :
    Calls Tryz.prog 200 #[.pointer (some ⟨D, 0, none⟩), pt p.1 p.2] w fun e w' => e = .returned (.bool (hasB a.1 a.2 b.1 b.2 p.1 p.2)) ∧ Gr w w' := by
  have NE : Hid (∀ w, Calls Tryz.prog 139 #[bx a.1 a.2 b.1 b.2, pt p.1 p.2] w fun e w' => e = .returned (.bool (hasB a.1 a.2 b.1 b.2 p.1 p.2)) ∧ Gr w w') := has_any _ _ _ _ _ _
  obtain ⟨W, hW⟩ : ∃ W, W = (w.alloc (.cells #[.int .i32 p.1, .int .i32 p.2] 28)) := ⟨_, rfl⟩
  have g : Gr w W := by rw [hW]; exact (Gr.refl _).alloc _
  have kP : Bl W w.heap.size 28 #[.int .i32 p.1, .int .i32 p.2] := by rw [hW]; exact Bl.new w 28 _
  have kD := hD.below g.below
  obtain ⟨p0, p1⟩ := two_gr9 kP
  obtain ⟨d0, d1, d2, d3⟩ := kD.four_gr9
  clear kP kD hD
  generalize hasB a.1 a.2 b.1 b.2 p.1 p.2 = B at *
  go_enter Tryz.func200, Tryz.ntmps200
  go_upto_region 1 with fail
  rw [← hW]
  clear hW
  go_region_held3 (Gr W)
    (first
      | exact (Gr.refl _).drew
      | assumption
      | exact Gr.alloc (by assumption) _
      | exact Gr.trans (by assumption) (by assumption))
    (first
      | (go_at_call 139; refine (NE.out _).mono ?_; rintro e w3 ⟨rfl, g3⟩))
  rename_i hH
  go_wp2
  go_ret
  exact ⟨rfl, g.trans hH⟩

set_option maxRecDepth 20000 in
set_option maxHeartbeats 8000000 in
theorem onLat_any (p q : Int × Int) (w : World) :
    Calls Tryz.prog 190 #[pt p.1 p.2, pt q.1 q.2] w fun e w' => e = .returned (.bool (latP p && latP q)) ∧ Gr w w' := by
  have CP : Hid (∀ w, Calls Tryz.prog 80 #[pt p.1 p.2] w fun e w' => e = .returned (.bool (latP p)) ∧ Gr w w') := in_any p.1 p.2
  have CQ : Hid (∀ w, Calls Tryz.prog 80 #[pt q.1 q.2] w fun e w' => e = .returned (.bool (latP q)) ∧ Gr w w') := in_any q.1 q.2
  obtain ⟨W, hW⟩ : ∃ W, W = (w.alloc (.cells #[.int .i32 p.1, .int .i32 p.2] 28)).alloc (.cells #[.int .i32 q.1, .int .i32 q.2] 28) := ⟨_, rfl⟩
  have g : Gr w W := by rw [hW]; exact ((Gr.refl _).alloc _).alloc _
  have kP : Bl W w.heap.size 28 #[.int .i32 p.1, .int .i32 p.2] := by rw [hW]; exact (Bl.new w 28 _).below ((Gr.refl _).alloc _).below
  have kQ : Bl W (w.heap.size + 1) 28 #[.int .i32 q.1, .int .i32 q.2] := by rw [hW]; have := Bl.new (w.alloc (.cells #[.int .i32 p.1, .int .i32 p.2] 28)) 28 #[.int .i32 q.1, .int .i32 q.2]; rwa [World.size_alloc] at this
  obtain ⟨p0, p1⟩ := two_gr9 kP
  obtain ⟨q0, q1⟩ := two_gr9 kQ
  clear kP kQ
  have c0 := p0 W (Gr.refl _)
  have c1 := p1 W (Gr.refl _)
  clear p0 p1
  cases hp : latP p with
  | true =>
    have C : Hid (∀ (x y : Int) w, Calls Tryz.prog 80 #[pt x y] w fun e w' => e = .returned (.bool (latP (x, y))) ∧ Gr w w') := in_any
    have hp' : latP (p.1, p.2) = true := hp
    clear CP CQ hp
    have hq' : latP q = latP (q.1, q.2) := rfl
    rw [hq']
    cases hq : latP (q.1, q.2)
    all_goals
      go_enter Tryz.func190, Tryz.ntmps190
      go_upto_region 1 with fail
      rw [← hW]
      clear hW
      go_wp2_with (go_at_call 80; first | (have z := y0; refine (C.out _ _ _).mono ?_; rintro e w4 ⟨rfl, g4⟩; simp only [hq]) | (refine (C.out _ _ _).mono ?_; rintro e w3 ⟨rfl, g3⟩; simp only [hp']; have y0 := q0 _ g3; have y1 := q1 _ g3))
      go_ret
      exact ⟨rfl, g.trans (g3.trans g4)⟩
  | false =>
    rw [hp] at CP
    go_enter Tryz.func190, Tryz.ntmps190
    go_upto_region 1 with fail
    rw [← hW]
    clear hW
    go_wp2_with (go_at_call 80; refine (CP.out _).mono ?_; rintro e w3 ⟨rfl, g3⟩)
    go_ret
    exact ⟨rfl, g.trans g3⟩
end
section
set_option linter.unusedSimpArgs false
open Go.RowKit Go.Sort
theorem eight_pts {W : World} {B : Nat} {a b c d e f g h : Int} (k : Bl W B 28 #[.int .i32 a, .int .i32 b, .int .i32 c, .int .i32 d, .int .i32 e, .int .i32 f, .int .i32 g, .int .i32 h]) : Pts W (some ⟨B, 0, none⟩) [(a, b), (c, d), (e, f), (g, h)] := by
  intro i hi
  refine ⟨_, _, rfl, ?_⟩
  have hi' : i < 4 := hi
  have hcs : i = 0 ∨ i = 1 ∨ i = 2 ∨ i = 3 := by omega
  rcases hcs with rfl | rfl | rfl | rfl <;> exact ⟨k.cell rfl, k.cell rfl⟩
set_option maxRecDepth 20000 in
set_option maxHeartbeats 8000000 in
theorem corners_any (D : Nat) (a b : Int × Int) (w : World) (hD : Bl w D 131 #[.int .i32 a.1, .int .i32 a.2, .int .i32 b.1, .int .i32 b.2]) :
    Calls Tryz.prog 202 #[.pointer (some ⟨D, 0, none⟩)] w fun e w' => ∃ B, e = .returned (.slice (some ⟨B, 0, none⟩) 4 4) ∧ Pts w' (some ⟨B, 0, none⟩) [a, (b.1, a.2), b, (a.1, b.2)] ∧ Gr w w' := by
  obtain ⟨d0, d1, d2, d3⟩ := hD.four_gr9
  obtain ⟨a1, a2⟩ := a
  obtain ⟨b1, b2⟩ := b
  dsimp only at *
  clear hD
  go_enter Tryz.func202, Tryz.ntmps202
  go_upto_region 1 with fail
  go_region_held3 (Gr w)
    (first
      | exact (Gr.refl _).drew
      | assumption
      | exact (((Gr.refl _).alloc _).alloc _).drew
      | exact Gr.alloc (by assumption) _
      | exact Gr.trans (by assumption) (by assumption))
    (first
      | fail)
  all_goals
    rename_i hH
    go_wp2
    go_ret
    refine ⟨w.heap.size + 1 + 1, rfl, eight_pts (W := _) ?_, hH.alloc _⟩
  · have k := Bl.new ((w.alloc (.cells #[.int .i32 a1, .int .i32 a2] 28)).alloc (.cells #[.int .i32 b1, .int .i32 b2] 28)) 28 #[.int .i32 a1, .int .i32 a2, .int .i32 b1, .int .i32 a2, .int .i32 b1, .int .i32 b2, .int .i32 a1, .int .i32 b2]
    rw [World.size_alloc, World.size_alloc] at k
    exact k
  · have k := Bl.new ((w.alloc (.cells #[.int .i32 b1, .int .i32 b2] 28)).alloc (.cells #[.int .i32 a1, .int .i32 a2] 28)) 28 #[.int .i32 a1, .int .i32 a2, .int .i32 b1, .int .i32 a2, .int .i32 b1, .int .i32 b2, .int .i32 a1, .int .i32 b2]
    rw [World.size_alloc, World.size_alloc] at k
    exact k
end
end Go.Proofs.YtgcofpfjdplopaaGreat
