/- Contracts of Apply, Then and Back, of the program and of the reference. -/
import Derived.Test.YtmjfphidcnjklaaF1
set_option linter.unusedSimpArgs false
namespace Go.Proofs.Ytmjfphidcnjklaa
open Go.RowKit Go.Sort Ieee

/-- A similarity of the program's, a number and a map of the reference's. -/
abbrev simV (a b c d : Nat) : Value := .agg #[.complex .f64 a b, .complex .f64 c d]
abbrev mapV (a b c d : Nat) : Value := .agg #[.float .f64 a, .float .f64 b, .float .f64 c, .float .f64 d]
abbrev numV (a b : Nat) : Value := .agg #[.float .f64 a, .float .f64 b]

/-- A sum of complex numbers as a function of the world. -/
theorem cx_add (a b c d : Nat) (w : World) : ∃ x : Nat × Nat × Nat, (binOp .add 26 (.complex .f64 a b) (.complex .f64 c d)).run Try.prog w = .ok (.complex .f64 x.1 x.2.1) (w.drewN x.2.2) ∧ arR .add a c x.1 ∧ arR .add b d x.2.1 := by
  obtain ⟨r, s, n, h⟩ := run_cx .add (.inl rfl) a b c d w
  exact ⟨⟨r, s, n⟩, h⟩
theorem cx_fun : ∃ X : Nat → Nat → Nat → Nat → World → Nat × Nat × Nat,
    (∀ a b c d w, (binOp .add 26 (.complex .f64 a b) (.complex .f64 c d)).run Try.prog w = .ok (.complex .f64 (X a b c d w).1 (X a b c d w).2.1) (w.drewN (X a b c d w).2.2)) ∧
    ∀ (a b c d A B C D : Nat) (w : World), V a A → V b B → V c C → V d D → V (X a b c d w).1 (fo .add A C) ∧ V (X a b c d w).2.1 (fo .add B D) :=
  ⟨fun a b c d w => Classical.choose (cx_add a b c d w), fun a b c d w => (Classical.choose_spec (cx_add a b c d w)).1,
    fun _ _ _ _ _ _ _ _ w ha hb hc hd => ⟨V.fo (Classical.choose_spec (cx_add _ _ _ _ w)).2.1 ha hc, V.fo (Classical.choose_spec (cx_add _ _ _ _ w)).2.2 hb hd⟩⟩

abbrev S2 (a0 a1 : Addr) (x0 x1 : Value) (W : World) (w : World) : Prop := w.cell? a0 = some x0 ∧ w.cell? a1 = some x1 ∧ Gr W w
theorem S2.call {a0 a1 : Addr} {x0 x1 : Value} {W w w' : World} (h : S2 a0 a1 x0 x1 W w) (g : Gr w w') : S2 a0 a1 x0 x1 W w' :=
  ⟨below_cell h.1 g.below, below_cell h.2.1 g.below, h.2.2.trans g⟩

theorem run_store_c (a : Addr) (x y : Nat) (m : Mode) (w : World) : (store a (.complex .f64 x y) m).run Try.prog w = stored Try.prog w a (.complex .f64 x y) m := run_store Try.prog w a _ m rfl
abbrev S4 (a0 a1 a2 a3 : Addr) (x0 x1 x2 x3 : Value) (W : World) (w : World) : Prop := w.cell? a0 = some x0 ∧ w.cell? a1 = some x1 ∧ w.cell? a2 = some x2 ∧ w.cell? a3 = some x3 ∧ Gr W w
theorem S4.call {a0 a1 a2 a3 : Addr} {x0 x1 x2 x3 : Value} {W w w' : World} (h : S4 a0 a1 a2 a3 x0 x1 x2 x3 W w) (g : Gr w w') : S4 a0 a1 a2 a3 x0 x1 x2 x3 W w' :=
  ⟨below_cell h.1 g.below, below_cell h.2.1 g.below, below_cell h.2.2.1 g.below, below_cell h.2.2.2.1 g.below, h.2.2.2.2.trans g⟩
theorem S4.set {a0 a1 a2 a3 : Addr} {x0 x1 x2 x3 : Value} {W w : World} (h : S4 a0 a1 a2 a3 x0 x1 x2 x3 W w) {p : Addr} (h0 : a0.block ≠ p.block) (h1 : a1.block ≠ p.block) (h2 : a2.block ≠ p.block) (h3 : a3.block ≠ p.block) (hp : W.heap.size ≤ p.block) (z : Value) : S4 a0 a1 a2 a3 x0 x1 x2 x3 W (w.setCell p z) :=
  have f : ∀ a : Addr, a.block ≠ p.block → (w.setCell p z).cell? a = w.cell? a := fun a ha => World.cell?_setCell_far w p a z (Ne.symm ha)
  ⟨(f a0 h0).trans h.1, (f a1 h1).trans h.2.1, (f a2 h2).trans h.2.2.1, (f a3 h3).trans h.2.2.2.1, h.2.2.2.2.setCell hp z⟩
/-- Three blocks of the call's own, one behind the other. -/
theorem three_new (w : World) (t u v : Nat) (A B C : Array Value) :
    Bl (((w.alloc (.cells A t)).alloc (.cells B u)).alloc (.cells C v)) w.heap.size t A ∧ Bl (((w.alloc (.cells A t)).alloc (.cells B u)).alloc (.cells C v)) (w.heap.size + 1) u B ∧ Bl (((w.alloc (.cells A t)).alloc (.cells B u)).alloc (.cells C v)) (w.heap.size + 1 + 1) v C ∧ Gr w (((w.alloc (.cells A t)).alloc (.cells B u)).alloc (.cells C v)) := by
  refine ⟨((Bl.new w t A).alloc _).alloc _, ?_, ?_, (((Gr.refl w).alloc _).alloc _).alloc _⟩
  · have := (Bl.new (w.alloc (.cells A t)) u B).alloc (.cells C v)
    simpa using this
  · have := Bl.new ((w.alloc (.cells A t)).alloc (.cells B u)) v C
    simpa using this
theorem two_new (w : World) (t u : Nat) (A B : Array Value) :
    Bl ((w.alloc (.cells A t)).alloc (.cells B u)) w.heap.size t A ∧ Bl ((w.alloc (.cells A t)).alloc (.cells B u)) (w.heap.size + 1) u B ∧ Gr w ((w.alloc (.cells A t)).alloc (.cells B u)) := by
  refine ⟨(Bl.new w t A).alloc _, ?_, ((Gr.refl w).alloc _).alloc _⟩
  have := Bl.new (w.alloc (.cells A t)) u B
  simpa using this

set_option maxRecDepth 20000 in
set_option maxHeartbeats 1000000 in
theorem apply_any {a b c d u v A B C D U W : Nat} (ha : V a A) (hb : V b B) (hc : V c C) (hd : V d D) (hu : V u U) (hv : V v W) (w : World) :
    Calls Try.prog 13 #[simV a b c d, .complex .f64 u v] w fun e w' => ∃ r s, e = .returned (.complex .f64 r s) ∧ V r (fo .add (tRe A B U W) C) ∧ V s (fo .add (tIm A B U W) D) ∧ Gr w w' := by
  have k := Bl.new w 28 #[.complex .f64 a b, .complex .f64 c d]
  have g : Hid (Gr w (w.alloc (.cells #[.complex .f64 a b, .complex .f64 c d] 28))) := (Gr.refl w).alloc _
  obtain ⟨X5, E, EV⟩ := cx_fun
  replace EV := hid' EV
  go_enter Try.func13, Try.ntmps13
  go_wp2_with fail
  generalize w.alloc (.cells #[.complex .f64 a b, .complex .f64 c d] 28) = W1 at *
  obtain ⟨k0, k1, _, _⟩ := k.two
  generalize w.heap.size = X at *
  refine wp_region_held_drew (S := S2 ⟨X, 0, none⟩ ⟨X, 1, none⟩ (.complex .f64 a b) (.complex .f64 c d) W1) (by kernel_rfl) ⟨k0, k1, (Gr.refl _).drew⟩ (fun hHeld => ?_)
  refine wpAnyH_take (i := 0) (v := ?tv1) rfl (by kernel_rfl) (by kernel_rfl) (by kernel_rfl) (fun _ _ _ h => h) (Or.inl ⟨by rfl, ?ty1⟩) (by assumption) ?tr1
  case ty1 => (intro w hSw; (try dsimp only at hSw); go_simp <;> with_reducible rfl)
  try simp only [Act.put, List.getElem_toArray, List.getElem_cons_zero, List.getElem_cons_succ, List.setIfInBounds_toArray, List.set_cons_zero, List.set_cons_succ]
  refine wpAnyH_take (i := 1) (v := ?tv2) rfl (by kernel_rfl) (by kernel_rfl) (by kernel_rfl) (fun _ _ _ h => h) (Or.inl ⟨by rfl, ?ty2⟩) (by assumption) ?tr2
  case ty2 => (intro w hSw; (try dsimp only at hSw); go_simp <;> with_reducible rfl)
  try simp only [Act.put, List.getElem_toArray, List.getElem_cons_zero, List.getElem_cons_succ, List.setIfInBounds_toArray, List.set_cons_zero, List.set_cons_succ]
  refine wpAnyH_take (i := 2) (v := ?tv3) rfl (by kernel_rfl) (by kernel_rfl) (by kernel_rfl) (fun _ _ _ h => h) (Or.inl ⟨by rfl, ?ty3⟩) (by assumption) ?tr3
  case ty3 => (intro w hSw; (try dsimp only at hSw); go_simp <;> with_reducible rfl)
  try simp only [Act.put, List.getElem_toArray, List.getElem_cons_zero, List.getElem_cons_succ, List.setIfInBounds_toArray, List.set_cons_zero, List.set_cons_succ]
  refine wpAnyH_take (i := 4) (v := ?tv4) rfl (by kernel_rfl) (by kernel_rfl) (by kernel_rfl) (fun _ _ _ h => h) (Or.inl ⟨by rfl, ?ty4⟩) (by assumption) ?tr4
  case ty4 => (intro w hSw; (try dsimp only at hSw); go_simp <;> with_reducible rfl)
  try simp only [Act.put, List.getElem_toArray, List.getElem_cons_zero, List.getElem_cons_succ, List.setIfInBounds_toArray, List.set_cons_zero, List.set_cons_succ]
  refine wpAnyH_take (i := 5) (v := ?tv5) rfl (by kernel_rfl) (by kernel_rfl) (by kernel_rfl) (fun _ _ _ h => h) (Or.inl ⟨by rfl, ?ty5⟩) (by assumption) ?tr5
  case ty5 => (intro w hSw; (try dsimp only at hSw); go_simp <;> with_reducible rfl)
  try simp only [Act.put, List.getElem_toArray, List.getElem_cons_zero, List.getElem_cons_succ, List.setIfInBounds_toArray, List.set_cons_zero, List.set_cons_succ]
  refine wpAnyH_ready (rs := [3]) (by kernel_rfl) (by simp) (AllReadyH.cons rfl (fun K hK => ?_) AllReadyH.nil)
  go_simp
  refine (times_any ha hb hu hv _).mono ?_
  rintro e w1 ⟨r, s, rfl, h1, h2, g1⟩
  dsimp only
  refine hK.out _ _ ?_ (fun hHeld => ?_)
  · exact S2.call (by assumption) g1
  clear hK K
  try simp only [Act.put, List.getElem_toArray, List.getElem_cons_zero, List.getElem_cons_succ, List.setIfInBounds_toArray, List.set_cons_zero, List.set_cons_succ]
  refine wpAnyH_ready (rs := [6]) (by kernel_rfl) (by simp) (AllReadyH.cons rfl (fun K hK => ?_) AllReadyH.nil)
  go_simp
  refine hK.out _ _ ?_ (fun hHeld => ?_)
  · exact S2.call (by assumption) ((Gr.refl _).drewN _)
  clear hK K
  try simp only [Act.put, List.getElem_toArray, List.getElem_cons_zero, List.getElem_cons_succ, List.setIfInBounds_toArray, List.set_cons_zero, List.set_cons_succ]
  refine wpAnyH_take (i := 7) (v := ?tv6) rfl (by kernel_rfl) (by kernel_rfl) (by kernel_rfl) (fun _ _ _ h => h) (Or.inl ⟨by rfl, ?ty6⟩) (by assumption) ?tr6
  case ty6 => (intro w hSw; (try dsimp only at hSw); go_simp <;> with_reducible rfl)
  try simp only [Act.put, List.getElem_toArray, List.getElem_cons_zero, List.getElem_cons_succ, List.setIfInBounds_toArray, List.set_cons_zero, List.set_cons_succ]
  refine wpAnyH_done (by kernel_rfl) ?_ _
  have h3 := EV.out _ _ _ _ _ _ _ _ w1 h1 h2 hc hd
  go_wp2
  go_ret
  exact ⟨_, _, rfl, h3.1, h3.2, g.out.trans (((Gr.refl _).drew.trans g1).drewN _)⟩
/-- The parts of what Then tells. -/
def thRe (C D A2 B2 C2 : Nat) : Nat := fo .add (tRe A2 B2 C D) C2
def thIm (C D A2 B2 D2 : Nat) : Nat := fo .add (tIm A2 B2 C D) D2
set_option maxRecDepth 20000 in
set_option maxHeartbeats 1000000 in
theorem then_any {a b c d a2 b2 c2 d2 A B C D A2 B2 C2 D2 : Nat} (ha : V a A) (hb : V b B) (hc : V c C) (hd : V d D) (ha2 : V a2 A2) (hb2 : V b2 B2) (hc2 : V c2 C2) (hd2 : V d2 D2) (w : World) :
    Calls Try.prog 17 #[simV a b c d, simV a2 b2 c2 d2] w fun e w' => ∃ p q r s, e = .returned (simV p q r s) ∧ V p (tRe A2 B2 A B) ∧ V q (tIm A2 B2 A B) ∧ V r (thRe C D A2 B2 C2) ∧ V s (thIm C D A2 B2 D2) ∧ Gr w w' := by
  obtain ⟨kM, kN, kR, g⟩ := three_new w 28 28 28 #[.complex .f64 a b, .complex .f64 c d] #[.complex .f64 a2 b2, .complex .f64 c2 d2] #[.complex .f64 0 0, .complex .f64 0 0]
  replace g := hid' g
  obtain ⟨X5, E, EV⟩ := cx_fun
  replace EV := hid' EV
  have sc := run_store_c
  go_enter Try.func17, Try.ntmps17
  go_wp2_with fail
  generalize ((w.alloc (.cells #[.complex .f64 a b, .complex .f64 c d] 28)).alloc (.cells #[.complex .f64 a2 b2, .complex .f64 c2 d2] 28)).alloc (.cells #[.complex .f64 0 0, .complex .f64 0 0] 28) = W1 at *
  obtain ⟨m0, m1, _, _⟩ := kM.two
  obtain ⟨n0, n1, _, _⟩ := kN.two
  refine wp_region_held_drew (S := S4 ⟨w.heap.size, 0, none⟩ ⟨w.heap.size, 1, none⟩ ⟨w.heap.size + 1, 0, none⟩ ⟨w.heap.size + 1, 1, none⟩ (.complex .f64 a b) (.complex .f64 c d) (.complex .f64 a2 b2) (.complex .f64 c2 d2) w) (by kernel_rfl) ⟨m0, m1, n0, n1, g.out.drew⟩ (fun hHeld => ?_)
  refine wpAnyH_take (i := 0) (v := ?tv7) rfl (by kernel_rfl) (by kernel_rfl) (by kernel_rfl) (fun _ _ _ h => h) (Or.inl ⟨by rfl, ?ty7⟩) (by assumption) ?tr7
  case ty7 => (intro w hSw; (try dsimp only at hSw); go_simp <;> with_reducible rfl)
  try simp only [Act.put, List.getElem_toArray, List.getElem_cons_zero, List.getElem_cons_succ, List.setIfInBounds_toArray, List.set_cons_zero, List.set_cons_succ]
  refine wpAnyH_take (i := 1) (v := ?tv8) rfl (by kernel_rfl) (by kernel_rfl) (by kernel_rfl) (fun _ _ _ h => h) (Or.inl ⟨by rfl, ?ty8⟩) (by assumption) ?tr8
  case ty8 => (intro w hSw; (try dsimp only at hSw); go_simp <;> with_reducible rfl)
  try simp only [Act.put, List.getElem_toArray, List.getElem_cons_zero, List.getElem_cons_succ, List.setIfInBounds_toArray, List.set_cons_zero, List.set_cons_succ]
  refine wpAnyH_take (i := 2) (v := ?tv9) rfl (by kernel_rfl) (by kernel_rfl) (by kernel_rfl) (fun _ _ _ h => h) (Or.inl ⟨by rfl, ?ty9⟩) (by assumption) ?tr9
  case ty9 => (intro w hSw; (try dsimp only at hSw); go_simp <;> with_reducible rfl)
  try simp only [Act.put, List.getElem_toArray, List.getElem_cons_zero, List.getElem_cons_succ, List.setIfInBounds_toArray, List.set_cons_zero, List.set_cons_succ]
  refine wpAnyH_take (i := 3) (v := ?tv10) rfl (by kernel_rfl) (by kernel_rfl) (by kernel_rfl) (fun _ _ _ h => h) (Or.inl ⟨by rfl, ?ty10⟩) (by assumption) ?tr10
  case ty10 => (intro w hSw; (try dsimp only at hSw); go_simp <;> with_reducible rfl)
  try simp only [Act.put, List.getElem_toArray, List.getElem_cons_zero, List.getElem_cons_succ, List.setIfInBounds_toArray, List.set_cons_zero, List.set_cons_succ]
  refine wpAnyH_take (i := 5) (v := ?tv11) rfl (by kernel_rfl) (by kernel_rfl) (by kernel_rfl) (fun _ _ _ h => h) (Or.inl ⟨by rfl, ?ty11⟩) (by assumption) ?tr11
  case ty11 => (intro w hSw; (try dsimp only at hSw); go_simp <;> with_reducible rfl)
  try simp only [Act.put, List.getElem_toArray, List.getElem_cons_zero, List.getElem_cons_succ, List.setIfInBounds_toArray, List.set_cons_zero, List.set_cons_succ]
  refine wpAnyH_take (i := 6) (v := ?tv12) rfl (by kernel_rfl) (by kernel_rfl) (by kernel_rfl) (fun _ _ _ h => h) (Or.inl ⟨by rfl, ?ty12⟩) (by assumption) ?tr12
  case ty12 => (intro w hSw; (try dsimp only at hSw); go_simp <;> with_reducible rfl)
  try simp only [Act.put, List.getElem_toArray, List.getElem_cons_zero, List.getElem_cons_succ, List.setIfInBounds_toArray, List.set_cons_zero, List.set_cons_succ]
  refine wpAnyH_take (i := 7) (v := ?tv13) rfl (by kernel_rfl) (by kernel_rfl) (by kernel_rfl) (fun _ _ _ h => h) (Or.inl ⟨by rfl, ?ty13⟩) (by assumption) ?tr13
  case ty13 => (intro w hSw; (try dsimp only at hSw); go_simp <;> with_reducible rfl)
  try simp only [Act.put, List.getElem_toArray, List.getElem_cons_zero, List.getElem_cons_succ, List.setIfInBounds_toArray, List.set_cons_zero, List.set_cons_succ]
  refine wpAnyH_take (i := 8) (v := ?tv14) rfl (by kernel_rfl) (by kernel_rfl) (by kernel_rfl) (fun _ _ _ h => h) (Or.inl ⟨by rfl, ?ty14⟩) (by assumption) ?tr14
  case ty14 => (intro w hSw; (try dsimp only at hSw); go_simp <;> with_reducible rfl)
  try simp only [Act.put, List.getElem_toArray, List.getElem_cons_zero, List.getElem_cons_succ, List.setIfInBounds_toArray, List.set_cons_zero, List.set_cons_succ]
  refine wpAnyH_take (i := 10) (v := ?tv15) rfl (by kernel_rfl) (by kernel_rfl) (by kernel_rfl) (fun _ _ _ h => h) (Or.inl ⟨by rfl, ?ty15⟩) (by assumption) ?tr15
  case ty15 => (intro w hSw; (try dsimp only at hSw); go_simp <;> with_reducible rfl)
  try simp only [Act.put, List.getElem_toArray, List.getElem_cons_zero, List.getElem_cons_succ, List.setIfInBounds_toArray, List.set_cons_zero, List.set_cons_succ]
  refine wpAnyH_take (i := 11) (v := ?tv16) rfl (by kernel_rfl) (by kernel_rfl) (by kernel_rfl) (fun _ _ _ h => h) (Or.inl ⟨by rfl, ?ty16⟩) (by assumption) ?tr16
  case ty16 => (intro w hSw; (try dsimp only at hSw); go_simp <;> with_reducible rfl)
  try simp only [Act.put, List.getElem_toArray, List.getElem_cons_zero, List.getElem_cons_succ, List.setIfInBounds_toArray, List.set_cons_zero, List.set_cons_succ]
  refine wpAnyH_ready (rs := [4]) (by kernel_rfl) (by simp) (AllReadyH.cons rfl (fun K hK => ?_) AllReadyH.nil)
  go_simp
  refine (times_any ha2 hb2 ha hb _).mono ?_
  rintro e w1 ⟨r, s, rfl, h1, h2, g1⟩
  replace kR := (kR.drewN 1).gr g1
  dsimp only
  refine hK.out _ _ ?_ (fun hHeld => ?_)
  · exact S4.call (by assumption) g1
  clear hK K
  try simp only [Act.put, List.getElem_toArray, List.getElem_cons_zero, List.getElem_cons_succ, List.setIfInBounds_toArray, List.set_cons_zero, List.set_cons_succ]
  refine wpAnyH_ready (rs := [9]) (by kernel_rfl) (by simp) (AllReadyH.cons rfl (fun K hK => ?_) AllReadyH.nil)
  go_simp
  refine (times_any ha2 hb2 hc hd _).mono ?_
  rintro e w2 ⟨r2, s2, rfl, h3, h4, g2⟩
  replace kR := kR.gr g2
  dsimp only
  refine hK.out _ _ ?_ (fun hHeld => ?_)
  · exact S4.call (by assumption) g2
  clear hK K
  try simp only [Act.put, List.getElem_toArray, List.getElem_cons_zero, List.getElem_cons_succ, List.setIfInBounds_toArray, List.set_cons_zero, List.set_cons_succ]
  refine wpAnyH_ready (rs := [12]) (by kernel_rfl) (by simp) (AllReadyH.cons rfl (fun K hK => ?_) AllReadyH.nil)
  go_simp
  refine hK.out _ _ ?_ (fun hHeld => ?_)
  · exact S4.call (by assumption) ((Gr.refl _).drewN _)
  clear hK K
  try simp only [Act.put, List.getElem_toArray, List.getElem_cons_zero, List.getElem_cons_succ, List.setIfInBounds_toArray, List.set_cons_zero, List.set_cons_succ]
  refine wpAnyH_take (i := 13) (v := ?tv17) rfl (by kernel_rfl) (by kernel_rfl) (by kernel_rfl) (fun _ _ _ h => h) (Or.inl ⟨by rfl, ?ty17⟩) (by assumption) ?tr17
  case ty17 => (intro w hSw; (try dsimp only at hSw); go_simp <;> with_reducible rfl)
  try simp only [Act.put, List.getElem_toArray, List.getElem_cons_zero, List.getElem_cons_succ, List.setIfInBounds_toArray, List.set_cons_zero, List.set_cons_succ]
  obtain ⟨q0, q1, q2, q3⟩ := kR.two
  refine wpAnyH_ready (rs := [14]) (by kernel_rfl) (by simp) (AllReadyH.cons rfl (fun K hK => ?_) AllReadyH.nil)
  go_simp
  refine hK.out _ _ ?_ (fun hHeld => ?_)
  · exact S4.set (S4.set (by assumption) (by simp only []; omega) (by simp only []; omega) (by simp only []; omega) (by simp only []; omega) (by simp only []; omega) _) (by simp only []; omega) (by simp only []; omega) (by simp only []; omega) (by simp only []; omega) (by simp only []; omega) _
  clear hK K
  try simp only [Act.put, List.getElem_toArray, List.getElem_cons_zero, List.getElem_cons_succ, List.setIfInBounds_toArray, List.set_cons_zero, List.set_cons_succ]
  have gg := hHeld.2.2.2.2
  refine wpAnyH_done (by kernel_rfl) ?_ _
  have h5 := EV.out _ _ _ _ _ _ _ _ w2 h3 h4 hc2 hd2
  go_wp2
  refine bodyPost_ret (v := simV _ _ _ _) (by simp [results, Try.results17, go_sem, q0, q1]) rfl ⟨_, _, _, _, rfl, h1, h2, h5.1, h5.2, gg⟩
end Go.Proofs.Ytmjfphidcnjklaa
