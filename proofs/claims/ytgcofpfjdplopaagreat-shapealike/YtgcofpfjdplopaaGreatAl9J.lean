/- The closed call of every law, its end. ShapeAlike's walk. -/
import Derived.Test.YtgcofpfjdplopaaGreatWl9J
import Derived.Test.YtgcofpfjdplopaaGreatDn9
import Derived.Lib.QuietBelow
namespace Go.Proofs.YtgcofpfjdplopaaGreat
section
set_option linter.unusedSimpArgs false
open Go.RowKit Go.Sort

abbrev dS (B : Nat) : Array Value := #[.int .u8 2, .slice (some ⟨B, 0, none⟩) 1 1, .slice none 0 0, .int .i32 2]
abbrev dV (B : Nat) : Value := .agg (dS B)
set_option maxRecDepth 20000 in
set_option maxHeartbeats 4000000 in
theorem foreign_c (B : Nat) (w : World) : Calls Tryz.prog 39 #[dV B] w fun e w' => e = .returned (.bool false) ∧ Gr w w' := by
  go_enter Tryz.func39, Tryz.ntmps39
  go_wp2
  go_ret
  exact ⟨rfl, (Gr.refl _).alloc _⟩
theorem size_c (w : World) : Calls Tryz.prog 81 #[.int .i32 2] w fun e w' => e = .returned (.int .i64 0) ∧ w' = w := by
  go_enter Tryz.func81, Tryz.ntmps81
  go_wp2
  go_ret
  exact ⟨rfl, rfl⟩
set_option maxRecDepth 20000 in
set_option maxHeartbeats 4000000 in
theorem discF_c (w : World) : Calls Tryz.prog 41 #[pt 1 1, .int .i32 2] w fun e w' => e = .returned (.int .i64 0) ∧ Gr w w' := by
  have I := fun w => hid' (in_true (x := 1) (y := 1) (.inl rfl) (.inl rfl) w)
  go_enter Tryz.func41, Tryz.ntmps41
  go_wp2_with (first
    | (go_at_call 80; refine (I _).out.mono ?_; rintro e w1 ⟨rfl, g1⟩)
    | (go_at_call 81; refine (size_c _).mono ?_; rintro e w2 ⟨rfl, rfl⟩))
  go_ret
  exact ⟨rfl, ((Gr.refl _).alloc _).trans g1⟩
set_option maxRecDepth 20000 in
set_option maxHeartbeats 4000000 in
theorem check_c (B : Nat) (w : World) (hB : Bl w B 28 (P 1 1)) : Calls Tryz.prog 14 #[dV B] w fun e w' => e = .returned (.int .i64 0) ∧ Gr w w' := by
  have kA := Bl.new w 26 (dS B)
  have g : Gr w (w.alloc (.cells (dS B) 26)) := (Gr.refl w).alloc _
  have kB := hB.alloc (.cells (dS B) 26)
  clear hB
  go_enter Tryz.func14, Tryz.ntmps14
  go_upto_region 9 with (go_at_call 39; refine (foreign_c B _).mono ?_; rintro e w1 ⟨rfl, g1⟩; obtain ⟨x0, x1, x2, x3⟩ := (kA.gr g1).four9)
  replace kA := kA.gr g1
  replace kB := kB.gr g1
  replace g := g.trans g1
  clear g1 x0 x1 x2 x3
  obtain ⟨x0, x1, x2, x3⟩ := kA.four_gr9
  obtain ⟨b0, b1⟩ := kB.two_gr
  go_region_held3 (Gr w1)
    (first
      | exact (Gr.refl _).drew
      | exact Gr.trans (by assumption) (by assumption))
    (first
      | (go_at_call 41; refine (discF_c _).mono ?_; rintro e w2 ⟨rfl, g2⟩))
  rename_i hH
  go_wp2
  go_ret
  exact ⟨rfl, g.trans hH⟩
set_option maxRecDepth 20000 in
set_option maxHeartbeats 4000000 in
theorem check_0 (w : World) : Calls Tryz.prog 14 #[.agg #[.int .u8 0, .slice none 0 0, .slice none 0 0, .int .i32 0]] w fun e w' => e = .returned (.int .i64 90) ∧ Gr w w' := by
  go_enter Tryz.func14, Tryz.ntmps14
  go_wp2
  go_ret
  exact ⟨rfl, (Gr.refl _).alloc _⟩
set_option maxRecDepth 20000 in
set_option maxHeartbeats 4000000 in
theorem area_c (B : Nat) (w : World) (hB : Bl w B 28 (P 1 1)) : Calls Tryz.prog 48 #[dV B] w fun e w' => ∃ D, e = .returned (.iface 126 (.pointer (some ⟨D, 0, none⟩))) ∧ Bl w' D 128 dC ∧ Gr w w' := by
  have kA := Bl.new w 26 (dS B)
  have g : Gr w (w.alloc (.cells (dS B) 26)) := (Gr.refl w).alloc _
  have kB := hB.alloc (.cells (dS B) 26)
  clear hB
  go_enter Tryz.func48, Tryz.ntmps48
  go_upto_region 5 with fail
  generalize w.alloc (.cells #[.int .u8 2, .slice (some ⟨B, 0, none⟩) 1 1, .slice none 0 0, .int .i32 2] 26) = W at *
  obtain ⟨x0, x1, x2, x3⟩ := kA.four_gr9
  obtain ⟨b0, b1⟩ := kB.two_gr
  go_region_held3 (Gr W)
    (first
      | exact (Gr.refl _).drew
      | assumption
      | exact Gr.alloc (by assumption) _
      | exact Gr.trans (by assumption) (by assumption))
    (first
      | fail)
  rename_i hH
  have kD : Bl (W.alloc (.cells #[.int .i32 1, .int .i32 1, .int .i32 2] 128)).drew W.heap.size 128 dC := Bl.new W 128 dC
  go_wp2
  go_ret
  exact ⟨W.heap.size, rfl, kD, g.trans hH⟩
set_option maxRecDepth 20000 in
set_option maxHeartbeats 4000000 in
theorem of_c (B : Nat) (w : World) (hB : Bl w B 28 (P 1 1)) : Calls Tryz.prog 19 #[dV B] w fun e w' => ∃ D, e = .returned (.tuple #[.iface 126 (.pointer (some ⟨D, 0, none⟩)), .int .i64 0]) ∧ Bl w' D 128 dC ∧ Gr w w' := by
  have kA := Bl.new w 26 (dS B)
  have g : Gr w (w.alloc (.cells (dS B) 26)) := (Gr.refl w).alloc _
  have kB := hB.alloc (.cells (dS B) 26)
  have C := hid' (check_c B _ kB)
  clear hB
  go_enter Tryz.func19, Tryz.ntmps19
  go_upto_region 4 with (go_at_call 14; refine C.out.mono ?_; rintro e w1 ⟨rfl, g1⟩)
  obtain ⟨x0, x1, x2, x3⟩ := (kA.gr g1).four9
  have A := hid' (area_c B w1 (kB.gr g1))
  clear C
  go_wp2_with (go_at_call 48; refine A.out.mono ?_; rintro e w2 ⟨D, rfl, hD, g2⟩)
  first | go_ret2 | go_ret
  exact ⟨D, rfl, hD, (g.trans g1).trans g2⟩
theorem n197 {x d : Int} {r : Bool} (hx : t134 x) (e1 : (x - 1) * (x - 1) = d) (h0 : 0 ≤ d) (h1 : d ≤ 100) (hr : decide (d ≤ 4) = r) (w : World) : Calls Tryz.prog 197 #[pt 1 1, pt x 1, pt x 1, .int .i64 2] w fun e w' => e = .returned (.bool r) ∧ Gr w w' :=
  near197 hx (near_c hx (by rw [e1]; exact w64 (by omega) (by omega)) (w64 (by omega) (by omega)) hr) w
theorem n1 (w : World) : Calls Tryz.prog 197 #[pt 1 1, pt 1 1, pt 1 1, .int .i64 2] w fun e w' => e = .returned (.bool true) ∧ Gr w w' := n197 (x := 1) (d := 0) (.inl rfl) (by decide) (by decide) (by decide) (by decide) w
theorem n3 (w : World) : Calls Tryz.prog 197 #[pt 1 1, pt 3 1, pt 3 1, .int .i64 2] w fun e w' => e = .returned (.bool true) ∧ Gr w w' := n197 (x := 3) (d := 4) (.inr (.inl rfl)) (by decide) (by decide) (by decide) (by decide) w
theorem n4 (w : World) : Calls Tryz.prog 197 #[pt 1 1, pt 4 1, pt 4 1, .int .i64 2] w fun e w' => e = .returned (.bool false) ∧ Gr w w' := n197 (x := 4) (d := 9) (.inr (.inr rfl)) (by decide) (by decide) (by decide) (by decide) w
set_option maxRecDepth 20000 in
set_option maxHeartbeats 4000000 in
theorem cov_c {x : Int} {r : Bool} (hn : ∀ w, Calls Tryz.prog 197 #[pt 1 1, pt x 1, pt x 1, .int .i64 2] w fun e w' => e = .returned (.bool r) ∧ Gr w w') (B : Nat) (w : World) (hB : Bl w B 28 (P 1 1)) : Calls Tryz.prog 15 #[dV B, pt x 1] w fun e w' => e = .returned (.bool r) ∧ Gr w w' := by
  obtain ⟨kA, kP, g⟩ := two_new w 26 28 (dS B) (P x 1)
  have O := hid' (of_c B _ (hB.gr g))
  clear hB
  go_enter Tryz.func15, Tryz.ntmps15
  go_upto_region 2 with (go_at_call 19; refine O.out.mono ?_; rintro e w1 ⟨D, rfl, hD, g1⟩)
  obtain ⟨p0, p1, _, _⟩ := (kP.gr g1).two
  have C := hid' (covers_c D hn w1 hD)
  clear O hn
  go_wp2_with (go_at_call 194; refine C.out.mono ?_; rintro e w2 ⟨rfl, g2⟩)
  go_ret
  exact ⟨rfl, (g.trans g1).trans g2⟩
set_option maxRecDepth 20000 in
set_option maxHeartbeats 8000000 in
theorem works_any (w : World) : Calls Tryz.prog 13 #[] w fun e w' => e = .returned (.bool true) ∧ Gr w w' := by
  obtain ⟨kB, kA, g⟩ := two_new w 28 26 (P 1 1) (dS w.heap.size)
  have si8 := run_store_i .u8
  have si32 := run_store_i .i32
  have ss := run_store_s
  go_enter Tryz.func13, Tryz.ntmps13
  go_upto_region 2 with fail
  generalize (w.alloc (.cells #[.int .i32 1, .int .i32 1] 28)).alloc (.cells #[.int .u8 2, .slice (some ⟨w.heap.size, 0, none⟩) 1 1, .slice none 0 0, .int .i32 2] 26) = W at *
  obtain ⟨x0, x1, x2, x3⟩ := kA.four9
  have O := hid' (of_c w.heap.size W kB)
  go_upto_region 5 with (go_at_call 19; refine O.out.mono ?_; rintro e w1 ⟨D, rfl, hD, g1⟩)
  clear O x0 x1 x2 x3
  obtain ⟨x0, x1, x2, x3⟩ := (kA.gr g1).four9
  have C := hid' (check_c w.heap.size w1 (kB.gr g1))
  go_wp2_with (first
    | (go_at_call_of 14 (Value.int IntKind.u8 0); refine (check_0 _).mono ?_; rintro e w6 ⟨rfl, g6⟩)
    | (go_at_call_of 14 (Value.int IntKind.u8 2); refine C.out.mono ?_; rintro e w2 ⟨rfl, g2⟩; have V := hid' (covers_c D n1 w2 (hD.gr g2)))
    | (go_at_call 194; refine V.out.mono ?_; rintro e w3 ⟨rfl, g3⟩; have G3 := (g1.trans g2).trans g3; obtain ⟨x0, x1, x2, x3⟩ := (kA.gr G3).four9; have V3 := hid' (cov_c n3 w.heap.size w3 (kB.gr G3)))
    | (go_at_call_of 15 (Value.int IntKind.i32 3); refine V3.out.mono ?_; rintro e w4 ⟨rfl, g4⟩; have G4 := G3.trans g4; obtain ⟨x0, x1, x2, x3⟩ := (kA.gr G4).four9; have V4 := hid' (cov_c n4 w.heap.size w4 (kB.gr G4)))
    | (go_at_call_of 15 (Value.int IntKind.i32 4); refine V4.out.mono ?_; rintro e w5 ⟨rfl, g5⟩))
  go_ret
  exact ⟨rfl, ((g.trans G4).trans g5).trans g6⟩
end
section
set_option linter.unusedSimpArgs false
open Go.RowKit Go.Shelf Go.Sort

/-- The three blocks of the arguments. -/
structure Args (a b p q : P2) (A : Nat) (W : World) : Prop where
  a0 : W.cell? ⟨A, 0, none⟩ = some (.int .i32 a.1)
  a1 : W.cell? ⟨A, 1, none⟩ = some (.int .i32 a.2)
  b0 : W.cell? ⟨A + 1, 0, none⟩ = some (.int .i32 b.1)
  b1 : W.cell? ⟨A + 1, 1, none⟩ = some (.int .i32 b.2)
  p0 : W.cell? ⟨A + 1 + 1, 4, none⟩ = some (.int .i32 p.1)
  p1 : W.cell? ⟨A + 1 + 1, 4 + 1, none⟩ = some (.int .i32 p.2)
  q0 : W.cell? ⟨A + 1 + 1, 6, none⟩ = some (.int .i32 q.1)
  q1 : W.cell? ⟨A + 1 + 1, 6 + 1, none⟩ = some (.int .i32 q.2)
theorem Args.mono {a b p q : P2} {A : Nat} {W W' : World} (h : Args a b p q A W) (g : Below W.heap.size W W') : Args a b p q A W' :=
  ⟨below_cell h.a0 g, below_cell h.a1 g, below_cell h.b0 g, below_cell h.b1 g, below_cell h.p0 g, below_cell h.p1 g, below_cell h.q0 g, below_cell h.q1 g⟩
theorem Args.new (a b p q : P2) (s0 s1 s2 s3 : Value) (w : World) : Args a b p q w.heap.size (((w.alloc (.cells #[.int .i32 a.1, .int .i32 a.2] 28)).alloc (.cells #[.int .i32 b.1, .int .i32 b.2] 28)).alloc (.cells #[s0, s1, s2, s3, .int .i32 p.1, .int .i32 p.2, .int .i32 q.1, .int .i32 q.2] 30)) := by
  have kA := ((Bl.new w 28 #[.int .i32 a.1, .int .i32 a.2]).below ((Gr.refl _).alloc (.cells #[.int .i32 b.1, .int .i32 b.2] 28)).below).below ((Gr.refl _).alloc (.cells #[s0, s1, s2, s3, .int .i32 p.1, .int .i32 p.2, .int .i32 q.1, .int .i32 q.2] 30)).below
  have kB := (Bl.new (w.alloc (.cells #[.int .i32 a.1, .int .i32 a.2] 28)) 28 #[.int .i32 b.1, .int .i32 b.2]).below ((Gr.refl _).alloc (.cells #[s0, s1, s2, s3, .int .i32 p.1, .int .i32 p.2, .int .i32 q.1, .int .i32 q.2] 30)).below
  have kX := Bl.new ((w.alloc (.cells #[.int .i32 a.1, .int .i32 a.2] 28)).alloc (.cells #[.int .i32 b.1, .int .i32 b.2] 28)) 30 #[s0, s1, s2, s3, .int .i32 p.1, .int .i32 p.2, .int .i32 q.1, .int .i32 q.2]
  rw [World.size_alloc] at kB
  rw [World.size_alloc, World.size_alloc] at kX
  exact ⟨kA.cell rfl, kA.cell rfl, kB.cell rfl, kB.cell rfl, kX.cell rfl, kX.cell rfl, kX.cell rfl, kX.cell rfl⟩

set_option maxRecDepth 20000 in
set_option maxHeartbeats 8000000 in
theorem alike_out (a b p q : P2) (s0 s1 s2 s3 : Value) (w : World) (h : (latP a && (latP b && (latP p && latP q))) = false) :
    Calls Tryz.prog 8 #[pt a.1 a.2, pt b.1 b.2, .agg #[s0, s1, s2, s3, .int .i32 p.1, .int .i32 p.2, .int .i32 q.1, .int .i32 q.2]] w fun e w' => e = .returned (.bool true) ∧ Below w.heap.size w w' := by
  obtain ⟨W, hW⟩ : ∃ W, W = ((w.alloc (.cells #[.int .i32 a.1, .int .i32 a.2] 28)).alloc (.cells #[.int .i32 b.1, .int .i32 b.2] 28)).alloc (.cells #[s0, s1, s2, s3, .int .i32 p.1, .int .i32 p.2, .int .i32 q.1, .int .i32 q.2] 30) := ⟨_, rfl⟩
  have hX := hid' (Args.new a b p q s0 s1 s2 s3 w)
  have gb : Hid (Below w.heap.size w W) := by rw [hW]; exact ((((Gr.refl _).alloc _).alloc _).alloc _).below
  rw [← hW] at hX
  have C : Hid (∀ (x y : Int) w, Calls Tryz.prog 28 #[pt x y] w fun e w' => e = .returned (.bool (latP (x, y))) ∧ Gr w w') := rin6_any
  have WK := hid' works_any
  obtain ⟨a0, a1, b0, b1, p0, p1, q0, q1⟩ := hX.out
  have k : latP (a.1, a.2) = false ∨ (latP (a.1, a.2) = true ∧ latP (b.1, b.2) = false) ∨ (latP (a.1, a.2) = true ∧ latP (b.1, b.2) = true ∧ latP (p.1, p.2) = false) ∨ (latP (a.1, a.2) = true ∧ latP (b.1, b.2) = true ∧ latP (p.1, p.2) = true ∧ latP (q.1, q.2) = false) := by
    change latP a = false ∨ (latP a = true ∧ latP b = false) ∨ (latP a = true ∧ latP b = true ∧ latP p = false) ∨ (latP a = true ∧ latP b = true ∧ latP p = true ∧ latP q = false)
    revert h
    cases latP a <;> cases latP b <;> cases latP p <;> cases latP q <;> simp
  clear h
  rcases k with hA | ⟨hA, hB⟩ | ⟨hA, hB, hP⟩ | ⟨hA, hB, hP, hQ⟩
  all_goals
    go_enter Tryz.func8, Tryz.ntmps8
    go_upto_region 1 with fail
    rw [← hW]
    clear hW
    go_wp2_with (first
      | (go_at_call 28; refine (C.out _ _ _).mono ?_; rintro e w3 ⟨rfl, g3⟩; simp only [*]; have hX := hid' (Args.mono hX.out g3.below); have gb := hid' (Below.trans gb.out (Below.mono g3.below gb.out.size)); obtain ⟨a0, a1, b0, b1, p0, p1, q0, q1⟩ := hX.out)
      | (go_at_call 13; refine (WK.out _).mono ?_; rintro e w4 ⟨rfl, g4⟩))
    go_ret
    exact ⟨rfl, gb.out.trans (g4.below.mono gb.out.size)⟩
end
end Go.Proofs.YtgcofpfjdplopaaGreat
