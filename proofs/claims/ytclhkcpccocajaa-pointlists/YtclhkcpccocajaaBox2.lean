/- Contracts of the least box around two boxes: the program's Join and the reference's. -/
import Derived.Test.YtclhkcpccocajaaBox1
import Derived.Test.YtclhkcpccocajaaRBnd
import Derived.Deep.RegionHeld3
namespace Go.Proofs.Ytclhkcpccocajaa
open Go.RowKit Go.Sort

/-- The least box around two. -/
def joinQ (a0 a1 a2 a3 b0 b1 b2 b3 : Int) : Int × Int × Int × Int :=
  if rightB a0 a1 a2 a3 = true then (if rightB b0 b1 b2 b3 = true then (minI a0 b0, minI a1 b1, maxI a2 b2, maxI a3 b3) else (a0, a1, a2, a3)) else (if rightB b0 b1 b2 b3 = true then (b0, b1, b2, b3) else (0, 0, 0, 0))
abbrev T8 (a0 a1 a2 a3 a4 a5 a6 a7 : Addr) (x0 x1 x2 x3 x4 x5 x6 x7 : Value) (K : Nat) (W : World) (w : World) : Prop :=
  w.cell? a0 = some x0 ∧ w.cell? a1 = some x1 ∧ w.cell? a2 = some x2 ∧ w.cell? a3 = some x3 ∧ w.cell? a4 = some x4 ∧ w.cell? a5 = some x5 ∧ w.cell? a6 = some x6 ∧ w.cell? a7 = some x7 ∧ Below K W w
theorem T8.call {a0 a1 a2 a3 a4 a5 a6 a7 : Addr} {x0 x1 x2 x3 x4 x5 x6 x7 : Value} {K : Nat} {W w w' : World} (h : T8 a0 a1 a2 a3 a4 a5 a6 a7 x0 x1 x2 x3 x4 x5 x6 x7 K W w) (hK : K ≤ W.heap.size) (g : Below w.heap.size w w') : T8 a0 a1 a2 a3 a4 a5 a6 a7 x0 x1 x2 x3 x4 x5 x6 x7 K W w' := by
  obtain ⟨h0, h1, h2, h3, h4, h5, h6, h7, hb⟩ := h
  exact ⟨below_cell h0 g, below_cell h1 g, below_cell h2 g, below_cell h3 g, below_cell h4 g, below_cell h5 g, below_cell h6 g, below_cell h7 g, hb.trans (g.mono (Nat.le_trans hK hb.size))⟩
theorem T8.set {a0 a1 a2 a3 a4 a5 a6 a7 : Addr} {x0 x1 x2 x3 x4 x5 x6 x7 : Value} {K : Nat} {W w : World} (h : T8 a0 a1 a2 a3 a4 a5 a6 a7 x0 x1 x2 x3 x4 x5 x6 x7 K W w) {p : Addr} (hp : K ≤ p.block) (h0 : a0.block < K ∧ a1.block < K ∧ a2.block < K ∧ a3.block < K ∧ a4.block < K ∧ a5.block < K ∧ a6.block < K ∧ a7.block < K) (z : Value) : T8 a0 a1 a2 a3 a4 a5 a6 a7 x0 x1 x2 x3 x4 x5 x6 x7 K W (w.setCell p z) := by
  have f : ∀ a : Addr, a.block < K → (w.setCell p z).cell? a = w.cell? a := fun a ha => World.cell?_setCell_far w p a z (by omega)
  obtain ⟨k0, k1, k2, k3, k4, k5, k6, k7, hb⟩ := h
  obtain ⟨l0, l1, l2, l3, l4, l5, l6, l7⟩ := h0
  exact ⟨(f a0 l0).trans k0, (f a1 l1).trans k1, (f a2 l2).trans k2, (f a3 l3).trans k3, (f a4 l4).trans k4, (f a5 l5).trans k5, (f a6 l6).trans k6, (f a7 l7).trans k7, hb.setCell hp z⟩

set_option maxRecDepth 20000 in
set_option maxHeartbeats 4000000 in
theorem join_any (a0 a1 a2 a3 b0 b1 b2 b3 : Int) (w : World) :
    Calls Try.prog 32 #[bx a0 a1 a2 a3, bx b0 b1 b2 b3] w fun e w' => e = .returned (bxv (joinQ a0 a1 a2 a3 b0 b1 b2 b3)) ∧ Below w.heap.size w w' := by
  have ETT : Hid (rightB a0 a1 a2 a3 = true → rightB b0 b1 b2 b3 = true → joinQ a0 a1 a2 a3 b0 b1 b2 b3 = (minI a0 b0, minI a1 b1, maxI a2 b2, maxI a3 b3)) := fun h k => by unfold joinQ; rw [if_pos h, if_pos k]
  have ETF : Hid (rightB a0 a1 a2 a3 = true → rightB b0 b1 b2 b3 = false → joinQ a0 a1 a2 a3 b0 b1 b2 b3 = (a0, a1, a2, a3)) := fun h k => by unfold joinQ; rw [if_pos h, if_neg (by rw [k]; simp)]
  have EFT : Hid (rightB a0 a1 a2 a3 = false → rightB b0 b1 b2 b3 = true → joinQ a0 a1 a2 a3 b0 b1 b2 b3 = (b0, b1, b2, b3)) := fun h k => by unfold joinQ; rw [if_neg (by rw [h]; simp), if_pos k]
  have EFF : Hid (rightB a0 a1 a2 a3 = false → rightB b0 b1 b2 b3 = false → joinQ a0 a1 a2 a3 b0 b1 b2 b3 = (0, 0, 0, 0)) := fun h k => by unfold joinQ; rw [if_neg (by rw [h]; simp), if_neg (by rw [k]; simp)]
  have R1 : Hid (∀ w, Calls Try.prog 26 #[bx a0 a1 a2 a3] w fun e w' => e = .returned (.bool (rightB a0 a1 a2 a3)) ∧ Gr w w') := right_any a0 a1 a2 a3
  have R2 : Hid (∀ w, Calls Try.prog 26 #[bx b0 b1 b2 b3] w fun e w' => e = .returned (.bool (rightB b0 b1 b2 b3)) ∧ Gr w w') := right_any b0 b1 b2 b3
  generalize rightB a0 a1 a2 a3 = r1 at *
  generalize rightB b0 b1 b2 b3 = r2 at *
  go_enter Try.func32, Try.ntmps32
  go_upto_region 1 with fail
  have hG : Gr w (((w.alloc (.cells #[.int .i32 a0, .int .i32 a1, .int .i32 a2, .int .i32 a3] 35)).alloc (.cells #[.int .i32 b0, .int .i32 b1, .int .i32 b2, .int .i32 b3] 35)).alloc (.cells #[.int .i32 0, .int .i32 0, .int .i32 0, .int .i32 0] 35)) := (((Gr.refl _).alloc _).alloc _).alloc _
  have F := (BoxesAre.new w a0 a1 a2 a3 b0 b1 b2 b3).gr ((Gr.refl _).alloc (.cells #[.int .i32 0, .int .i32 0, .int .i32 0, .int .i32 0] 35)).below
  have kR : B4 (((w.alloc (.cells #[.int .i32 a0, .int .i32 a1, .int .i32 a2, .int .i32 a3] 35)).alloc (.cells #[.int .i32 b0, .int .i32 b1, .int .i32 b2, .int .i32 b3] 35)).alloc (.cells #[.int .i32 0, .int .i32 0, .int .i32 0, .int .i32 0] 35)) (w.heap.size + 1 + 1) (.int .i32 0) (.int .i32 0) (.int .i32 0) (.int .i32 0) := by
    simpa using B4.new ((w.alloc (.cells #[.int .i32 a0, .int .i32 a1, .int .i32 a2, .int .i32 a3] 35)).alloc (.cells #[.int .i32 b0, .int .i32 b1, .int .i32 b2, .int .i32 b3] 35)) (.int .i32 0) (.int .i32 0) (.int .i32 0) (.int .i32 0)
  generalize ((w.alloc (.cells #[.int .i32 a0, .int .i32 a1, .int .i32 a2, .int .i32 a3] 35)).alloc (.cells #[.int .i32 b0, .int .i32 b1, .int .i32 b2, .int .i32 b3] 35)).alloc (.cells #[.int .i32 0, .int .i32 0, .int .i32 0, .int .i32 0] 35) = W at *
  have x0 := F.c0
  have x1 := F.c1
  have x2 := F.c2
  have x3 := F.c3
  have x4 := F.c4
  have x5 := F.c5
  have x6 := F.c6
  have x7 := F.c7
  go_wp2_with fail
  refine (R1.out _).mono ?_
  rintro e v1 ⟨rfl, g⟩
  replace hG := hG.trans g
  replace F := F.gr g.below
  replace kR := kR.gr g
  clear g
  clear x0 x1 x2 x3 x4 x5 x6 x7
  have x0 := F.c0
  have x1 := F.c1
  have x2 := F.c2
  have x3 := F.c3
  have x4 := F.c4
  have x5 := F.c5
  have x6 := F.c6
  have x7 := F.c7
  cases r1 with
  | true =>
    go_wp2_with fail
    refine (R2.out _).mono ?_
    rintro e v2 ⟨rfl, g⟩
    replace hG := hG.trans g
    replace F := F.gr g.below
    replace kR := kR.gr g
    clear g
    clear x0 x1 x2 x3 x4 x5 x6 x7
    have x0 := F.c0
    have x1 := F.c1
    have x2 := F.c2
    have x3 := F.c3
    have x4 := F.c4
    have x5 := F.c5
    have x6 := F.c6
    have x7 := F.c7
    cases r2 with
    | true =>
      have E : Hid (joinQ a0 a1 a2 a3 b0 b1 b2 b3 = _) := ETT.out (by first | rfl | trivial) (by first | rfl | trivial)
      clear ETT ETF EFT EFF
      go_upto_region 2 with fail
      have hb0 := hG.below
      have hK : w.heap.size + 1 + 1 ≤ v2.heap.size := Nat.le_of_lt kR.lt
      replace kR := kR.gr ((Gr.refl _).drew)
      have hS0 : Hid (T8 ⟨w.heap.size, 0, none⟩ ⟨w.heap.size, 1, none⟩ ⟨w.heap.size, 2, none⟩ ⟨w.heap.size, 3, none⟩ ⟨w.heap.size + 1, 0, none⟩ ⟨w.heap.size + 1, 1, none⟩ ⟨w.heap.size + 1, 2, none⟩ ⟨w.heap.size + 1, 3, none⟩ (.int .i32 a0) (.int .i32 a1) (.int .i32 a2) (.int .i32 a3) (.int .i32 b0) (.int .i32 b1) (.int .i32 b2) (.int .i32 b3) (w.heap.size + 1 + 1) v2 v2.drew) := ⟨x0, x1, x2, x3, x4, x5, x6, x7, (Below.refl _ _).drew⟩
      go_region_held3 (T8 ⟨w.heap.size, 0, none⟩ ⟨w.heap.size, 1, none⟩ ⟨w.heap.size, 2, none⟩ ⟨w.heap.size, 3, none⟩ ⟨w.heap.size + 1, 0, none⟩ ⟨w.heap.size + 1, 1, none⟩ ⟨w.heap.size + 1, 2, none⟩ ⟨w.heap.size + 1, 3, none⟩ (.int .i32 a0) (.int .i32 a1) (.int .i32 a2) (.int .i32 a3) (.int .i32 b0) (.int .i32 b1) (.int .i32 b2) (.int .i32 b3) (w.heap.size + 1 + 1) v2)
        (first
          | with_reducible exact hS0.out
          | (with_reducible refine T8.set (T8.set (T8.set (T8.set ?_ ?_ ?_ _) ?_ ?_ _) ?_ ?_ _) ?_ ?_ _ <;> first | (simp only []; omega) | with_reducible assumption)
          | exact T8.call (by assumption) hK (by assumption))
        (first
          | (go_at_call 57; refine (lower_any a0 a1 b0 b1 _).mono ?_; rintro e z1 ⟨rfl, g1⟩; have hb1 := g1.below; replace kR := kR.gr g1)
          | (go_at_call 56; refine (upper_any a2 a3 b2 b3 _).mono ?_; rintro e z2 ⟨rfl, g2⟩; have hb2 := g2.below; replace kR := kR.gr g2; have z0 := kR.f 0; have z1' := kR.f 1; have z2' := kR.f 2; have z3 := kR.f 3; have u0 := kR.c0; have u1 := kR.c1; have u2 := kR.c2; have u3 := kR.c3))
      have hb3 : Below w.heap.size w z2 := hb0.trans (((Below.refl _ _).drew.trans (hb1.mono (Nat.le_refl _))).trans (hb2.mono hb1.size) |>.mono hb0.size)
      have t0 := (kR.s0 (.int .i32 (minI a0 b0))).c0
      have t1 := ((kR.s0 (.int .i32 (minI a0 b0))).s1 (.int .i32 (minI a1 b1))).c1
      have t2 := (((kR.s0 (.int .i32 (minI a0 b0))).s1 (.int .i32 (minI a1 b1))).s2 (.int .i32 (maxI a2 b2))).c2
      have t3 := ((((kR.s0 (.int .i32 (minI a0 b0))).s1 (.int .i32 (minI a1 b1))).s2 (.int .i32 (maxI a2 b2))).s3 (.int .i32 (maxI a3 b3))).c3
      go_wp2
      refine bodyPost_ret (v := bx (minI a0 b0) (minI a1 b1) (maxI a2 b2) (maxI a3 b3)) (by simp [results, Try.results32, go_sem, t0, t1, t2, t3]) rfl ⟨by rw [E.out], ?_⟩
      exact (((hb3.setCell (by simp only []; omega) _).setCell (by simp only []; omega) _).setCell (by simp only []; omega) _).setCell (by simp only []; omega) _
    | false =>
      have E : Hid (joinQ a0 a1 a2 a3 b0 b1 b2 b3 = _) := ETF.out (by first | rfl | trivial) (by first | rfl | trivial)
      clear ETT ETF EFT EFF
      go_wp2_with fail
      refine (R1.out _).mono ?_
      rintro e v3 ⟨rfl, g⟩
      replace hG := hG.trans g
      replace F := F.gr g.below
      replace kR := kR.gr g
      clear g
      clear x0 x1 x2 x3 x4 x5 x6 x7
      have x0 := F.c0
      have x1 := F.c1
      have x2 := F.c2
      have x3 := F.c3
      have x4 := F.c4
      have x5 := F.c5
      have x6 := F.c6
      have x7 := F.c7
      replace hG := hG.below
      have z0 := kR.f 0
      have u0' := kR.c0
      have z1 := kR.f 1
      have u1' := kR.c1
      have z2 := kR.f 2
      have u2' := kR.c2
      have z3 := kR.f 3
      have u3' := kR.c3
      have t0 := (kR.s0 (.int .i32 a0)).c0
      have t1 := ((kR.s0 (.int .i32 a0)).s1 (.int .i32 a1)).c1
      have t2 := (((kR.s0 (.int .i32 a0)).s1 (.int .i32 a1)).s2 (.int .i32 a2)).c2
      have t3 := ((((kR.s0 (.int .i32 a0)).s1 (.int .i32 a1)).s2 (.int .i32 a2)).s3 (.int .i32 a3)).c3
      clear kR
      go_wp2
      refine bodyPost_ret (v := bx a0 a1 a2 a3) (by simp [results, Try.results32, go_sem, t0, t1, t2, t3]) rfl ⟨by rw [E.out], ?_⟩
      exact (((hG.setCell (by simp only []; omega) _).setCell (by simp only []; omega) _).setCell (by simp only []; omega) _).setCell (by simp only []; omega) _
  | false =>
    go_wp2_with fail
    refine (R1.out _).mono ?_
    rintro e v2 ⟨rfl, g⟩
    replace hG := hG.trans g
    replace F := F.gr g.below
    replace kR := kR.gr g
    clear g
    clear x0 x1 x2 x3 x4 x5 x6 x7
    have x0 := F.c0
    have x1 := F.c1
    have x2 := F.c2
    have x3 := F.c3
    have x4 := F.c4
    have x5 := F.c5
    have x6 := F.c6
    have x7 := F.c7
    go_wp2_with fail
    refine (R2.out _).mono ?_
    rintro e v3 ⟨rfl, g⟩
    replace hG := hG.trans g
    replace F := F.gr g.below
    replace kR := kR.gr g
    clear g
    clear x0 x1 x2 x3 x4 x5 x6 x7
    have x0 := F.c0
    have x1 := F.c1
    have x2 := F.c2
    have x3 := F.c3
    have x4 := F.c4
    have x5 := F.c5
    have x6 := F.c6
    have x7 := F.c7
    cases r2 with
    | true =>
      have E : Hid (joinQ a0 a1 a2 a3 b0 b1 b2 b3 = _) := EFT.out (by first | rfl | trivial) (by first | rfl | trivial)
      clear ETT ETF EFT EFF
      replace hG := hG.below
      have z0 := kR.f 0
      have u0' := kR.c0
      have z1 := kR.f 1
      have u1' := kR.c1
      have z2 := kR.f 2
      have u2' := kR.c2
      have z3 := kR.f 3
      have u3' := kR.c3
      have t0 := (kR.s0 (.int .i32 b0)).c0
      have t1 := ((kR.s0 (.int .i32 b0)).s1 (.int .i32 b1)).c1
      have t2 := (((kR.s0 (.int .i32 b0)).s1 (.int .i32 b1)).s2 (.int .i32 b2)).c2
      have t3 := ((((kR.s0 (.int .i32 b0)).s1 (.int .i32 b1)).s2 (.int .i32 b2)).s3 (.int .i32 b3)).c3
      clear kR
      go_wp2
      refine bodyPost_ret (v := bx b0 b1 b2 b3) (by simp [results, Try.results32, go_sem, t0, t1, t2, t3]) rfl ⟨by rw [E.out], ?_⟩
      exact (((hG.setCell (by simp only []; omega) _).setCell (by simp only []; omega) _).setCell (by simp only []; omega) _).setCell (by simp only []; omega) _
    | false =>
      have E : Hid (joinQ a0 a1 a2 a3 b0 b1 b2 b3 = _) := EFF.out (by first | rfl | trivial) (by first | rfl | trivial)
      clear ETT ETF EFT EFF
      replace hG := hG.below
      have z0 := kR.f 0
      have u0' := kR.c0
      have z1 := kR.f 1
      have u1' := kR.c1
      have z2 := kR.f 2
      have u2' := kR.c2
      have z3 := kR.f 3
      have u3' := kR.c3
      have t0 := (kR.s0 (.int .i32 0)).c0
      have t1 := ((kR.s0 (.int .i32 0)).s1 (.int .i32 0)).c1
      have t2 := (((kR.s0 (.int .i32 0)).s1 (.int .i32 0)).s2 (.int .i32 0)).c2
      have t3 := ((((kR.s0 (.int .i32 0)).s1 (.int .i32 0)).s2 (.int .i32 0)).s3 (.int .i32 0)).c3
      clear kR
      go_wp2
      refine bodyPost_ret (v := bx 0 0 0 0) (by simp [results, Try.results32, go_sem, t0, t1, t2, t3]) rfl ⟨by rw [E.out], ?_⟩
      exact (((hG.setCell (by simp only []; omega) _).setCell (by simp only []; omega) _).setCell (by simp only []; omega) _).setCell (by simp only []; omega) _

theorem Try.info23 : (Try.prog.info? 23).map (fun i => (i.zero, i.size, i.bytes)) = some (some (.agg #[.int .i32 0, .int .i32 0]), 2, 8) := by kernel_rfl
theorem BoxesAre.mono {W W' : World} {K b : Nat} {a0 a1 a2 a3 b0 b1 b2 b3 : Int} (h : BoxesAre W b a0 a1 a2 a3 b0 b1 b2 b3) (g : Below K W W') (hk : b + 1 < K) : BoxesAre W' b a0 a1 a2 a3 b0 b1 b2 b3 :=
  have f : ∀ p o v, p < K → W.cell? ⟨p, o, none⟩ = some v → W'.cell? ⟨p, o, none⟩ = some v := fun p o v hp h => (g.cell (p := ⟨p, o, none⟩) hp).trans h
  ⟨f _ _ _ (by omega) h.c0, f _ _ _ (by omega) h.c1, f _ _ _ (by omega) h.c2, f _ _ _ (by omega) h.c3, f _ _ _ hk h.c4, f _ _ _ hk h.c5, f _ _ _ hk h.c6, f _ _ _ hk h.c7⟩
theorem own2_gr {w w' : World} {base e k s : Nat} {v : Value} {xs : List Value} (h : w.ownsRow base e s v k xs) (g : Gr w w') : w'.ownsRow base e s v k xs := by
  obtain ⟨hl, h | ⟨b, cap, cur, rfl, h1, h2, h3⟩⟩ := h
  · exact ⟨hl, .inl h⟩
  · exact ⟨hl, .inr ⟨b, cap, cur, rfl, h1, by rw [g.below.block b (lt_of_block h2)]; exact h2, h3⟩⟩
theorem own2_shape {w : World} {base e k s : Nat} {v : Value} {xs : List Value} (h : w.ownsRow base e s v (k + 1) xs) : ∃ g cap, v = .slice (some ⟨g, 0, none⟩) (k + 1) cap ∧ k + 1 ≤ cap ∧ base ≤ g := by
  rcases h.2 with ⟨_, hn⟩ | ⟨g, cap, cur, rfl, hb, _, hc, _⟩
  · omega
  · exact ⟨g, cap, rfl, hc, hb⟩
/-- The points that a row of the call's own holds. -/
def flat : List (Int × Int) → List Value
  | [] => []
  | p :: r => .int .i32 p.1 :: .int .i32 p.2 :: flat r
theorem flat_at (l : List (Int × Int)) (i : Nat) (h : i < l.length) : (flat l)[i * 2]? = some (.int .i32 (l.getD i (0, 0)).1) ∧ (flat l)[i * 2 + 1]? = some (.int .i32 (l.getD i (0, 0)).2) := by
  induction l generalizing i with
  | nil => simp at h
  | cons p r ih =>
    cases i with
    | zero => simp [flat]
    | succ j =>
      have := ih j (by simpa using h)
      rw [show (j + 1) * 2 = j * 2 + 1 + 1 by omega]
      simpa [flat] using this
theorem flat_len (l : List (Int × Int)) : (flat l).length = l.length * 2 := by
  induction l with
  | nil => rfl
  | cons p r ih => simp [flat, ih]; omega
theorem flat_append (l r : List (Int × Int)) : flat (l ++ r) = flat l ++ flat r := by
  induction l with
  | nil => rfl
  | cons p t ih => simp [flat, ih]
theorem Pts.of_own {w : World} {base : Nat} {g cap : Nat} {l : List (Int × Int)} (h : w.ownsRow base 23 2 (.slice (some ⟨g, 0, none⟩) l.length cap) l.length (flat l)) : Pts w (some ⟨g, 0, none⟩) l := fun i hi => by
  obtain ⟨f0, f1⟩ := flat_at l i hi
  have c0 := h.cells (g := g) rfl _ _ f0
  have c1 := h.cells (g := g) rfl _ _ f1
  have e : ∀ k, (⟨g, 0, none⟩ : Addr).add k = ⟨g, 0 + k, none⟩ := fun k => by unfold Addr.add; split <;> simp_all
  rw [e] at c0 c1
  exact ⟨g, 0, rfl, c0, by rw [← c1]; rfl⟩
theorem two_cells (w : World) (x0 x1 x2 x3 : Value) : ∀ (j : Nat) (u : Value), [x0, x1, x2, x3][j]? = some u → (w.alloc (.cells #[x0, x1, x2, x3] 23)).cell? ((⟨w.heap.size, 0, none⟩ : Addr).add j) = some u := by
  intro j u hj
  match j, hj with
  | 0, hj => simp at hj; subst hj; simp [Addr.add]
  | 1, hj => simp at hj; subst hj; simp [Addr.add]
  | 2, hj => simp at hj; subst hj; simp [Addr.add]
  | 3, hj => simp at hj; subst hj; simp [Addr.add]
theorem right_le {a b c d : Int} (h : rightB a b c d = true) : a ≤ c ∧ b ≤ d := by unfold rightB at h; simpa using h
theorem bnd_one {a0 a1 a2 a3 : Int} (h : rightB a0 a1 a2 a3 = true) : bndL [(a0, a1), (a2, a3)] = (a0, a1, a2, a3) := by
  have := right_le h
  show (minI a0 a2, minI a1 a3, maxI a0 a2, maxI a1 a3) = _
  unfold minI maxI
  rw [if_pos this.1, if_pos this.2, if_pos this.1, if_pos this.2]
theorem bnd_both {a0 a1 a2 a3 b0 b1 b2 b3 : Int} (h : rightB a0 a1 a2 a3 = true) (k : rightB b0 b1 b2 b3 = true) : bndL [(a0, a1), (a2, a3), (b0, b1), (b2, b3)] = (minI a0 b0, minI a1 b1, maxI a2 b2, maxI a3 b3) := by
  have := right_le h
  have := right_le k
  show (minI (minI (minI a0 a2) b0) b2, minI (minI (minI a1 a3) b1) b3, maxI (maxI (maxI a0 a2) b0) b2, maxI (maxI (maxI a1 a3) b1) b3) = _
  have e : ∀ x y u v : Int, x ≤ y → u ≤ v → minI (minI (minI x y) u) v = minI x u ∧ maxI (maxI (maxI x y) u) v = maxI y v := by
    intro x y u v p q
    unfold minI maxI
    constructor <;> (repeat' split) <;> omega
  rw [(e a0 a2 b0 b2 (by omega) (by omega)).1, (e a0 a2 b0 b2 (by omega) (by omega)).2, (e a1 a3 b1 b3 (by omega) (by omega)).1, (e a1 a3 b1 b3 (by omega) (by omega)).2]

set_option maxRecDepth 20000 in
set_option maxHeartbeats 8000000 in
theorem rjoin_any (a0 a1 a2 a3 b0 b1 b2 b3 : Int) (w : World) :
    Calls Try.prog 33 #[bx a0 a1 a2 a3, bx b0 b1 b2 b3] w fun e w' => e = .returned (bxv (joinQ a0 a1 a2 a3 b0 b1 b2 b3)) ∧ Below w.heap.size w w' := by
  obtain ⟨i0, hi, hz0, hz1, hz2⟩ := info_parts Try.info23
  have ETT : Hid (rightB a0 a1 a2 a3 = true → rightB b0 b1 b2 b3 = true → joinQ a0 a1 a2 a3 b0 b1 b2 b3 = (minI a0 b0, minI a1 b1, maxI a2 b2, maxI a3 b3)) := fun h k => by unfold joinQ; rw [if_pos h, if_pos k]
  have ETF : Hid (rightB a0 a1 a2 a3 = true → rightB b0 b1 b2 b3 = false → joinQ a0 a1 a2 a3 b0 b1 b2 b3 = (a0, a1, a2, a3)) := fun h k => by unfold joinQ; rw [if_pos h, if_neg (by rw [k]; simp)]
  have EFT : Hid (rightB a0 a1 a2 a3 = false → rightB b0 b1 b2 b3 = true → joinQ a0 a1 a2 a3 b0 b1 b2 b3 = (b0, b1, b2, b3)) := fun h k => by unfold joinQ; rw [if_neg (by rw [h]; simp), if_pos k]
  have EFF : Hid (rightB a0 a1 a2 a3 = false → rightB b0 b1 b2 b3 = false → joinQ a0 a1 a2 a3 b0 b1 b2 b3 = (0, 0, 0, 0)) := fun h k => by unfold joinQ; rw [if_neg (by rw [h]; simp), if_neg (by rw [k]; simp)]
  have R1 : Hid (∀ w, Calls Try.prog 27 #[bx a0 a1 a2 a3] w fun e w' => e = .returned (.bool (rightB a0 a1 a2 a3)) ∧ Gr w w') := rright_any a0 a1 a2 a3
  have R2 : Hid (∀ w, Calls Try.prog 27 #[bx b0 b1 b2 b3] w fun e w' => e = .returned (.bool (rightB b0 b1 b2 b3)) ∧ Gr w w') := rright_any b0 b1 b2 b3
  have Q1 : Hid (rightB a0 a1 a2 a3 = true → bndL [(a0, a1), (a2, a3)] = (a0, a1, a2, a3)) := bnd_one
  have Q2 : Hid (rightB b0 b1 b2 b3 = true → bndL [(b0, b1), (b2, b3)] = (b0, b1, b2, b3)) := bnd_one
  have Q3 : Hid (rightB a0 a1 a2 a3 = true → rightB b0 b1 b2 b3 = true → bndL [(a0, a1), (a2, a3), (b0, b1), (b2, b3)] = (minI a0 b0, minI a1 b1, maxI a2 b2, maxI a3 b3)) := bnd_both
  generalize rightB a0 a1 a2 a3 = r1 at *
  generalize rightB b0 b1 b2 b3 = r2 at *
  go_enter Try.func33, Try.ntmps33
  go_upto_region 2 with fail
  have hG : Gr w (((w.alloc (.cells #[.int .i32 a0, .int .i32 a1, .int .i32 a2, .int .i32 a3] 35)).alloc (.cells #[.int .i32 b0, .int .i32 b1, .int .i32 b2, .int .i32 b3] 35)).alloc (.cells #[.int .i32 0, .int .i32 0, .int .i32 0, .int .i32 0] 35)) := (((Gr.refl _).alloc _).alloc _).alloc _
  have F := (BoxesAre.new w a0 a1 a2 a3 b0 b1 b2 b3).gr ((Gr.refl _).alloc (.cells #[.int .i32 0, .int .i32 0, .int .i32 0, .int .i32 0] 35)).below
  have kR : B4 (((w.alloc (.cells #[.int .i32 a0, .int .i32 a1, .int .i32 a2, .int .i32 a3] 35)).alloc (.cells #[.int .i32 b0, .int .i32 b1, .int .i32 b2, .int .i32 b3] 35)).alloc (.cells #[.int .i32 0, .int .i32 0, .int .i32 0, .int .i32 0] 35)) (w.heap.size + 1 + 1) (.int .i32 0) (.int .i32 0) (.int .i32 0) (.int .i32 0) := by
    simpa using B4.new ((w.alloc (.cells #[.int .i32 a0, .int .i32 a1, .int .i32 a2, .int .i32 a3] 35)).alloc (.cells #[.int .i32 b0, .int .i32 b1, .int .i32 b2, .int .i32 b3] 35)) (.int .i32 0) (.int .i32 0) (.int .i32 0) (.int .i32 0)
  have hsz : (((w.alloc (.cells #[.int .i32 a0, .int .i32 a1, .int .i32 a2, .int .i32 a3] 35)).alloc (.cells #[.int .i32 b0, .int .i32 b1, .int .i32 b2, .int .i32 b3] 35)).alloc (.cells #[.int .i32 0, .int .i32 0, .int .i32 0, .int .i32 0] 35)).heap.size = w.heap.size + 1 + 1 + 1 := by simp
  generalize ((w.alloc (.cells #[.int .i32 a0, .int .i32 a1, .int .i32 a2, .int .i32 a3] 35)).alloc (.cells #[.int .i32 b0, .int .i32 b1, .int .i32 b2, .int .i32 b3] 35)).alloc (.cells #[.int .i32 0, .int .i32 0, .int .i32 0, .int .i32 0] 35) = W at *
  replace hG := hG.below
  have hB := Below.refl (w.heap.size + 1 + 1 + 1) W
  have F' := F.mono hB (by omega)
  have x0 := F'.c0
  have x1 := F'.c1
  have x2 := F'.c2
  have x3 := F'.c3
  have x4 := F'.c4
  have x5 := F'.c5
  have x6 := F'.c6
  have x7 := F'.c7
  go_wp2_with fail
  refine (R1.out _).mono ?_
  rintro e v1 ⟨rfl, g⟩
  replace hB := hB.trans (g.below.mono (by have := hB.size; omega))
  clear g
  clear F' x0 x1 x2 x3 x4 x5 x6 x7
  have F' := F.mono hB (by omega)
  have x0 := F'.c0
  have x1 := F'.c1
  have x2 := F'.c2
  have x3 := F'.c3
  have x4 := F'.c4
  have x5 := F'.c5
  have x6 := F'.c6
  have x7 := F'.c7
  cases r1 with
  | false =>
    go_wp2_with fail
    refine (R2.out _).mono ?_
    rintro e v2 ⟨rfl, g⟩
    replace hB := hB.trans (g.below.mono (by have := hB.size; omega))
    clear g
    clear F' x0 x1 x2 x3 x4 x5 x6 x7
    have F' := F.mono hB (by omega)
    have x0 := F'.c0
    have x1 := F'.c1
    have x2 := F'.c2
    have x3 := F'.c3
    have x4 := F'.c4
    have x5 := F'.c5
    have x6 := F'.c6
    have x7 := F'.c7
    cases r2 with
    | false =>
      have E : Hid (joinQ a0 a1 a2 a3 b0 b1 b2 b3 = _) := EFF.out (by first | rfl | trivial) (by first | rfl | trivial)
      clear ETT ETF EFT EFF
      have RB : Hid (Calls Try.prog 41 #[.slice none 0 0] v2 fun e w' => e = .returned (.tuple #[bx 0 0 0 0, .bool (decide (0 < ([] : List (Int × Int)).length))]) ∧ Gr v2 w') := by
        have h := rbounds_any none 0 ([] : List (Int × Int)) v2 (by simp) (fun i hi => absurd hi (by simp))
        rw [bndL_nil] at h
        exact h
      clear F' x0 x1 x2 x3 x4 x5 x6 x7
      go_wp2_with fail
      refine RB.out.mono ?_
      rintro e v9 ⟨rfl, g⟩
      replace hB := hB.trans (g.below.mono (by have := hB.size; omega))
      clear g RB
      go_upto_region 7 with fail
      have hl9 : w.heap.size + 1 + 1 < v9.heap.size := by have := hB.size; omega
      have K9 := B4.new v9 (.int .i32 0) (.int .i32 0) (.int .i32 0) (.int .i32 0)
      replace hB := hB.alloc (by have := hB.size; omega) (.cells #[.int .i32 0, .int .i32 0, .int .i32 0, .int .i32 0] 35)
      replace kR := kR.mono hB (by omega)
      generalize v9.alloc (.cells #[.int .i32 0, .int .i32 0, .int .i32 0, .int .i32 0] 35) = W9 at *
      have z0 := kR.f 0
      have u0 := kR.c0
      have y0 := K9.c0
      have z1 := kR.f 1
      have u1 := kR.c1
      have y1 := K9.c1
      have z2 := kR.f 2
      have u2 := kR.c2
      have y2 := K9.c2
      have z3 := kR.f 3
      have u3 := kR.c3
      have y3 := K9.c3
      have t0 := (kR.s0 (.int .i32 0)).c0
      have t1 := ((kR.s0 (.int .i32 0)).s1 (.int .i32 0)).c1
      have t2 := (((kR.s0 (.int .i32 0)).s1 (.int .i32 0)).s2 (.int .i32 0)).c2
      have t3 := ((((kR.s0 (.int .i32 0)).s1 (.int .i32 0)).s2 (.int .i32 0)).s3 (.int .i32 0)).c3
      have hb9 := hG.trans (hB.mono (by omega))
      clear kR K9 hB
      go_wp2
      refine bodyPost_ret (v := bx 0 0 0 0) (by simp [results, Try.results33, go_sem, t0, t1, t2, t3]) rfl ⟨by rw [E.out], ?_⟩
      exact (((hb9.setCell (by simp only []; omega) _).setCell (by simp only []; omega) _).setCell (by simp only []; omega) _).setCell (by simp only []; omega) _
    | true =>
      have E : Hid (joinQ a0 a1 a2 a3 b0 b1 b2 b3 = _) := EFT.out (by first | rfl | trivial) (by first | rfl | trivial)
      clear ETT ETF EFT EFF
      have BE := Q2.out (by first | rfl | trivial)
      go_wp2_with (at_builtin; refine wpList_append_own _ rfl (.tmp 19) (.tmp 24) 41 rfl (w.heap.size + 1 + 1 + 1) 23 i0 (.agg #[.int .i32 0, .int .i32 0]) 2 8 Try.underlying41 hi hz0 hz1 hz2 rfl (by decide) (.slice none 0 0) 0 _ rfl (World.ownsRow_nil _ _ _ _) ⟨v2.heap.size, 0, none⟩ 2 2 [.int .i32 b0, .int .i32 b1, .int .i32 b2, .int .i32 b3] rfl rfl (two_cells _ _ _ _ _) (fun u hu => by simp at hu; rcases hu with rfl | rfl | rfl | rfl <;> rfl) (by unfold maxLen; omega) (by omega) (by have := hB.size; simp; omega) ?_)
      intro sv w3 hown3 hgrow _
      obtain ⟨g3, cap3, rfl, hcap3, hge3⟩ := own2_shape (k := 0+1) hown3
      replace hB := (hB.alloc (by have := hB.size; omega) _).grown hgrow (by have := hB.size; simp; omega) (fun k hk => by cases hk)
      clear hgrow
      clear F' x0 x1 x2 x3 x4 x5 x6 x7
      have F' := F.mono hB (by omega)
      have x0 := F'.c0
      have x1 := F'.c1
      have x2 := F'.c2
      have x3 := F'.c3
      have x4 := F'.c4
      have x5 := F'.c5
      have x6 := F'.c6
      have x7 := F'.c7
      have RB : Hid (Calls Try.prog 41 #[.slice (some ⟨g3, 0, none⟩) 2 cap3] w3 fun e w' => e = .returned (.tuple #[bx b0 b1 b2 b3, .bool (decide (0 < [(b0, b1), (b2, b3)].length))]) ∧ Gr w3 w') := by
        have h := rbounds_any (some ⟨g3, 0, none⟩) cap3 [(b0, b1), (b2, b3)] w3 (by simp) (Pts.of_own hown3)
        rw [BE] at h
        exact h
      clear F' x0 x1 x2 x3 x4 x5 x6 x7
      go_wp2_with fail
      refine RB.out.mono ?_
      rintro e v9 ⟨rfl, g⟩
      replace hB := hB.trans (g.below.mono (by have := hB.size; omega))
      clear g RB
      go_upto_region 7 with fail
      have hl9 : w.heap.size + 1 + 1 < v9.heap.size := by have := hB.size; omega
      have K9 := B4.new v9 (.int .i32 b0) (.int .i32 b1) (.int .i32 b2) (.int .i32 b3)
      replace hB := hB.alloc (by have := hB.size; omega) (.cells #[.int .i32 b0, .int .i32 b1, .int .i32 b2, .int .i32 b3] 35)
      replace kR := kR.mono hB (by omega)
      generalize v9.alloc (.cells #[.int .i32 b0, .int .i32 b1, .int .i32 b2, .int .i32 b3] 35) = W9 at *
      have z0 := kR.f 0
      have u0 := kR.c0
      have y0 := K9.c0
      have z1 := kR.f 1
      have u1 := kR.c1
      have y1 := K9.c1
      have z2 := kR.f 2
      have u2 := kR.c2
      have y2 := K9.c2
      have z3 := kR.f 3
      have u3 := kR.c3
      have y3 := K9.c3
      have t0 := (kR.s0 (.int .i32 b0)).c0
      have t1 := ((kR.s0 (.int .i32 b0)).s1 (.int .i32 b1)).c1
      have t2 := (((kR.s0 (.int .i32 b0)).s1 (.int .i32 b1)).s2 (.int .i32 b2)).c2
      have t3 := ((((kR.s0 (.int .i32 b0)).s1 (.int .i32 b1)).s2 (.int .i32 b2)).s3 (.int .i32 b3)).c3
      have hb9 := hG.trans (hB.mono (by omega))
      clear kR K9 hB
      go_wp2
      refine bodyPost_ret (v := bx b0 b1 b2 b3) (by simp [results, Try.results33, go_sem, t0, t1, t2, t3]) rfl ⟨by rw [E.out], ?_⟩
      exact (((hb9.setCell (by simp only []; omega) _).setCell (by simp only []; omega) _).setCell (by simp only []; omega) _).setCell (by simp only []; omega) _
  | true =>
    go_wp2_with (at_builtin; refine wpList_append_own _ rfl (.tmp 10) (.tmp 15) 41 rfl (w.heap.size + 1 + 1 + 1) 23 i0 (.agg #[.int .i32 0, .int .i32 0]) 2 8 Try.underlying41 hi hz0 hz1 hz2 rfl (by decide) (.slice none 0 0) 0 _ rfl (World.ownsRow_nil _ _ _ _) ⟨v1.heap.size, 0, none⟩ 2 2 [.int .i32 a0, .int .i32 a1, .int .i32 a2, .int .i32 a3] rfl rfl (two_cells _ _ _ _ _) (fun u hu => by simp at hu; rcases hu with rfl | rfl | rfl | rfl <;> rfl) (by unfold maxLen; omega) (by omega) (by have := hB.size; simp; omega) ?_)
    intro sv w1 hown1 hgrow _
    obtain ⟨g1, cap1, rfl, hcap1, hge1⟩ := own2_shape (k := 0+1) hown1
    replace hB := (hB.alloc (by have := hB.size; omega) _).grown hgrow (by have := hB.size; simp; omega) (fun k hk => by cases hk)
    clear hgrow
    clear F' x0 x1 x2 x3 x4 x5 x6 x7
    have F' := F.mono hB (by omega)
    have x0 := F'.c0
    have x1 := F'.c1
    have x2 := F'.c2
    have x3 := F'.c3
    have x4 := F'.c4
    have x5 := F'.c5
    have x6 := F'.c6
    have x7 := F'.c7
    have hown := hown1
    clear hown1
    go_wp2_with fail
    refine (R2.out _).mono ?_
    rintro e v2 ⟨rfl, g⟩
    replace hB := hB.trans (g.below.mono (by have := hB.size; omega))
    replace hown := own2_gr hown g
    clear g
    clear F' x0 x1 x2 x3 x4 x5 x6 x7
    have F' := F.mono hB (by omega)
    have x0 := F'.c0
    have x1 := F'.c1
    have x2 := F'.c2
    have x3 := F'.c3
    have x4 := F'.c4
    have x5 := F'.c5
    have x6 := F'.c6
    have x7 := F'.c7
    cases r2 with
    | false =>
      have E : Hid (joinQ a0 a1 a2 a3 b0 b1 b2 b3 = _) := ETF.out (by first | rfl | trivial) (by first | rfl | trivial)
      clear ETT ETF EFT EFF
      have BE := Q1.out (by first | rfl | trivial)
      have RB : Hid (Calls Try.prog 41 #[.slice (some ⟨g1, 0, none⟩) 2 cap1] v2 fun e w' => e = .returned (.tuple #[bx a0 a1 a2 a3, .bool (decide (0 < [(a0, a1), (a2, a3)].length))]) ∧ Gr v2 w') := by
        have h := rbounds_any (some ⟨g1, 0, none⟩) cap1 [(a0, a1), (a2, a3)] v2 (by simp) (Pts.of_own hown)
        rw [BE] at h
        exact h
      clear F' x0 x1 x2 x3 x4 x5 x6 x7
      go_wp2_with fail
      refine RB.out.mono ?_
      rintro e v9 ⟨rfl, g⟩
      replace hB := hB.trans (g.below.mono (by have := hB.size; omega))
      clear g RB
      go_upto_region 7 with fail
      have hl9 : w.heap.size + 1 + 1 < v9.heap.size := by have := hB.size; omega
      have K9 := B4.new v9 (.int .i32 a0) (.int .i32 a1) (.int .i32 a2) (.int .i32 a3)
      replace hB := hB.alloc (by have := hB.size; omega) (.cells #[.int .i32 a0, .int .i32 a1, .int .i32 a2, .int .i32 a3] 35)
      replace kR := kR.mono hB (by omega)
      generalize v9.alloc (.cells #[.int .i32 a0, .int .i32 a1, .int .i32 a2, .int .i32 a3] 35) = W9 at *
      have z0 := kR.f 0
      have u0 := kR.c0
      have y0 := K9.c0
      have z1 := kR.f 1
      have u1 := kR.c1
      have y1 := K9.c1
      have z2 := kR.f 2
      have u2 := kR.c2
      have y2 := K9.c2
      have z3 := kR.f 3
      have u3 := kR.c3
      have y3 := K9.c3
      have t0 := (kR.s0 (.int .i32 a0)).c0
      have t1 := ((kR.s0 (.int .i32 a0)).s1 (.int .i32 a1)).c1
      have t2 := (((kR.s0 (.int .i32 a0)).s1 (.int .i32 a1)).s2 (.int .i32 a2)).c2
      have t3 := ((((kR.s0 (.int .i32 a0)).s1 (.int .i32 a1)).s2 (.int .i32 a2)).s3 (.int .i32 a3)).c3
      have hb9 := hG.trans (hB.mono (by omega))
      clear kR K9 hB
      go_wp2
      refine bodyPost_ret (v := bx a0 a1 a2 a3) (by simp [results, Try.results33, go_sem, t0, t1, t2, t3]) rfl ⟨by rw [E.out], ?_⟩
      exact (((hb9.setCell (by simp only []; omega) _).setCell (by simp only []; omega) _).setCell (by simp only []; omega) _).setCell (by simp only []; omega) _
    | true =>
      have E : Hid (joinQ a0 a1 a2 a3 b0 b1 b2 b3 = _) := ETT.out (by first | rfl | trivial) (by first | rfl | trivial)
      clear ETT ETF EFT EFF
      have BE := Q3.out (by first | rfl | trivial) (by first | rfl | trivial)
      go_wp2_with (at_builtin; refine wpList_append_own _ rfl (.tmp 19) (.tmp 24) 41 rfl (w.heap.size + 1 + 1 + 1) 23 i0 (.agg #[.int .i32 0, .int .i32 0]) 2 8 Try.underlying41 hi hz0 hz1 hz2 rfl (by decide) (.slice (some ⟨g1, 0, none⟩) 2 cap1) 2 _ rfl (hown.alloc _) ⟨v2.heap.size, 0, none⟩ 2 2 [.int .i32 b0, .int .i32 b1, .int .i32 b2, .int .i32 b3] rfl rfl (two_cells _ _ _ _ _) (fun u hu => by simp at hu; rcases hu with rfl | rfl | rfl | rfl <;> rfl) (by unfold maxLen; omega) (by omega) (by have := hB.size; simp; omega) ?_)
      intro sv w3 hown3 hgrow _
      obtain ⟨g3, cap3, rfl, hcap3, hge3⟩ := own2_shape (k := 2+1) hown3
      replace hB := (hB.alloc (by have := hB.size; omega) _).grown hgrow (by have := hB.size; simp; omega) (fun k hk => by cases hk; exact hge1)
      clear hgrow
      clear F' x0 x1 x2 x3 x4 x5 x6 x7
      have F' := F.mono hB (by omega)
      have x0 := F'.c0
      have x1 := F'.c1
      have x2 := F'.c2
      have x3 := F'.c3
      have x4 := F'.c4
      have x5 := F'.c5
      have x6 := F'.c6
      have x7 := F'.c7
      have RB : Hid (Calls Try.prog 41 #[.slice (some ⟨g3, 0, none⟩) 4 cap3] w3 fun e w' => e = .returned (.tuple #[bx (minI a0 b0) (minI a1 b1) (maxI a2 b2) (maxI a3 b3), .bool (decide (0 < [(a0, a1), (a2, a3), (b0, b1), (b2, b3)].length))]) ∧ Gr w3 w') := by
        have h := rbounds_any (some ⟨g3, 0, none⟩) cap3 [(a0, a1), (a2, a3), (b0, b1), (b2, b3)] w3 (by simp) (Pts.of_own hown3)
        rw [BE] at h
        exact h
      clear F' x0 x1 x2 x3 x4 x5 x6 x7
      go_wp2_with fail
      refine RB.out.mono ?_
      rintro e v9 ⟨rfl, g⟩
      replace hB := hB.trans (g.below.mono (by have := hB.size; omega))
      clear g RB
      go_upto_region 7 with fail
      have hl9 : w.heap.size + 1 + 1 < v9.heap.size := by have := hB.size; omega
      have K9 := B4.new v9 (.int .i32 (minI a0 b0)) (.int .i32 (minI a1 b1)) (.int .i32 (maxI a2 b2)) (.int .i32 (maxI a3 b3))
      replace hB := hB.alloc (by have := hB.size; omega) (.cells #[.int .i32 (minI a0 b0), .int .i32 (minI a1 b1), .int .i32 (maxI a2 b2), .int .i32 (maxI a3 b3)] 35)
      replace kR := kR.mono hB (by omega)
      generalize v9.alloc (.cells #[.int .i32 (minI a0 b0), .int .i32 (minI a1 b1), .int .i32 (maxI a2 b2), .int .i32 (maxI a3 b3)] 35) = W9 at *
      have z0 := kR.f 0
      have u0 := kR.c0
      have y0 := K9.c0
      have z1 := kR.f 1
      have u1 := kR.c1
      have y1 := K9.c1
      have z2 := kR.f 2
      have u2 := kR.c2
      have y2 := K9.c2
      have z3 := kR.f 3
      have u3 := kR.c3
      have y3 := K9.c3
      have t0 := (kR.s0 (.int .i32 (minI a0 b0))).c0
      have t1 := ((kR.s0 (.int .i32 (minI a0 b0))).s1 (.int .i32 (minI a1 b1))).c1
      have t2 := (((kR.s0 (.int .i32 (minI a0 b0))).s1 (.int .i32 (minI a1 b1))).s2 (.int .i32 (maxI a2 b2))).c2
      have t3 := ((((kR.s0 (.int .i32 (minI a0 b0))).s1 (.int .i32 (minI a1 b1))).s2 (.int .i32 (maxI a2 b2))).s3 (.int .i32 (maxI a3 b3))).c3
      have hb9 := hG.trans (hB.mono (by omega))
      clear kR K9 hB
      go_wp2
      refine bodyPost_ret (v := bx (minI a0 b0) (minI a1 b1) (maxI a2 b2) (maxI a3 b3)) (by simp [results, Try.results33, go_sem, t0, t1, t2, t3]) rfl ⟨by rw [E.out], ?_⟩
      exact (((hb9.setCell (by simp only []; omega) _).setCell (by simp only []; omega) _).setCell (by simp only []; omega) _).setCell (by simp only []; omega) _

end Go.Proofs.Ytclhkcpccocajaa
