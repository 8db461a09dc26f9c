/- Contract of the reference's quotient of fractions. -/
import Derived.Test.YtagabccaipfjeaaR10
namespace Go.Proofs.Ytagabccaipfjeaa
open Go.RowKit Go.Sort

/-- Four cells of two blocks. -/
abbrev S5 (A B : Nat) (x0 x1 y0 y1 : Value) (_R : Nat) (w : World) : Prop := w.cell? ⟨A, 0, none⟩ = some x0 ∧ w.cell? ⟨A, 1, none⟩ = some x1 ∧ w.cell? ⟨B, 0, none⟩ = some y0 ∧ w.cell? ⟨B, 1, none⟩ = some y1
theorem S5.call {A B : Nat} {x0 x1 y0 y1 : Value} {R : Nat} {w w' : World} (h : S5 A B x0 x1 y0 y1 R w) (g : Below w.heap.size w w') : S5 A B x0 x1 y0 y1 R w' :=
  ⟨below_cell h.1 g, below_cell h.2.1 g, below_cell h.2.2.1 g, below_cell h.2.2.2 g⟩
theorem S5.set {A B : Nat} {x0 x1 y0 y1 : Value} {R : Nat} {w : World} (h : S5 A B x0 x1 y0 y1 R w) {p : Addr} (hA : R ≠ A) (hB : R ≠ B) (hp : p.block = R) (z : Value) : S5 A B x0 x1 y0 y1 R (w.setCell p z) :=
  have f : ∀ a : Addr, R ≠ a.block → (w.setCell p z).cell? a = w.cell? a := fun a ha => World.cell?_setCell_far w p a z (by rw [hp]; exact ha)
  ⟨(f _ hA).trans h.1, (f _ hA).trans h.2.1, (f _ hB).trans h.2.2.1, (f _ hB).trans h.2.2.2⟩
def quoN (n d m e : Int) : Int := if d * m < 0 then -(n * e) else n * e
def quoD (d m : Int) : Int := if d * m < 0 then -(d * m) else d * m
theorem Q4.put {w : World} {b : Nat} {x0 x1 x2 x3 : Value} (h : Q4 w b x0 x1 x2 x3) {p : Addr} (hp : b ≠ p.block) (z : Value) : Q4 (w.setCell p z) b x0 x1 x2 x3 := h.other hp z
set_option maxRecDepth 20000 in
set_option maxHeartbeats 2000000 in
theorem rquo_rt (x y : Value) (n d m e' : Int) (L M : Nat) (w : World) (hx : Rt w x n d L) (hy : Rt w y m e' M) (hL : L + M ≤ 400) :
    Calls Try.prog 25 #[x, y] w fun e w' => ∃ z, e = .returned z ∧ Rt w' z (quoN n d m e') (quoD d m) (L + M) ∧ Below w.heap.size w w' := by
  obtain ⟨ar, ao, al, ac, aR, aO, aL, aC, rfl, ha1, ha2⟩ := hx
  obtain ⟨br, bo, bl, bc, bR, bO, bL, bC, rfl, hb1, hb2⟩ := hy
  have k0 : Q4 (((w.alloc (.cells #[.bool ar, .slice ao al ac, .bool aR, .slice aO aL aC] 53)).alloc (.cells #[.bool br, .slice bo bl bc, .bool bR, .slice bO bL bC] 53)).alloc (.cells #[.bool false, .slice none 0 0, .bool false, .slice none 0 0] 53)) w.heap.size (.bool ar) (.slice ao al ac) (.bool aR) (.slice aO aL aC) := (Q4.new w _ _ _ _).gr (((Gr.refl _).alloc _).alloc _)
  have k1 : Q4 (((w.alloc (.cells #[.bool ar, .slice ao al ac, .bool aR, .slice aO aL aC] 53)).alloc (.cells #[.bool br, .slice bo bl bc, .bool bR, .slice bO bL bC] 53)).alloc (.cells #[.bool false, .slice none 0 0, .bool false, .slice none 0 0] 53)) (w.heap.size + 1) (.bool br) (.slice bo bl bc) (.bool bR) (.slice bO bL bC) := by
    have := (Q4.new (w.alloc (.cells #[.bool ar, .slice ao al ac, .bool aR, .slice aO aL aC] 53)) (.bool br) (.slice bo bl bc) (.bool bR) (.slice bO bL bC)).gr ((Gr.refl _).alloc (.cells #[.bool false, .slice none 0 0, .bool false, .slice none 0 0] 53))
    simpa using this
  have k2 : Q4 (((w.alloc (.cells #[.bool ar, .slice ao al ac, .bool aR, .slice aO aL aC] 53)).alloc (.cells #[.bool br, .slice bo bl bc, .bool bR, .slice bO bL bC] 53)).alloc (.cells #[.bool false, .slice none 0 0, .bool false, .slice none 0 0] 53)) (w.heap.size + 1 + 1) (.bool false) (.slice none 0 0) (.bool false) (.slice none 0 0) := by
    have := Q4.new ((w.alloc (.cells #[.bool ar, .slice ao al ac, .bool aR, .slice aO aL aC] 53)).alloc (.cells #[.bool br, .slice bo bl bc, .bool bR, .slice bO bL bC] 53)) (.bool false) (.slice none 0 0) (.bool false) (.slice none 0 0)
    simpa using this
  have hF : Below w.heap.size w (((w.alloc (.cells #[.bool ar, .slice ao al ac, .bool aR, .slice aO aL aC] 53)).alloc (.cells #[.bool br, .slice bo bl bc, .bool bR, .slice bO bL bC] 53)).alloc (.cells #[.bool false, .slice none 0 0, .bool false, .slice none 0 0] 53)) := ((((Gr.refl _).alloc _).alloc _).alloc _).below
  have T1 := times_num _ _ n e' L M (((w.alloc (.cells #[.bool ar, .slice ao al ac, .bool aR, .slice aO aL aC] 53)).alloc (.cells #[.bool br, .slice bo bl bc, .bool bR, .slice bO bL bC] 53)).alloc (.cells #[.bool false, .slice none 0 0, .bool false, .slice none 0 0] 53)) (ha1.mono hF) (hb2.mono hF) (by omega) (by omega)
  have N2 := hid' (ha2.mono hF)
  have N3 := hid' (hb1.mono hF)
  clear ha1 ha2 hb1 hb2
  go_enter Try.func25, Try.ntmps25
  go_wp2_with fail
  generalize (((w.alloc (.cells #[.bool ar, .slice ao al ac, .bool aR, .slice aO aL aC] 53)).alloc (.cells #[.bool br, .slice bo bl bc, .bool bR, .slice bO bL bC] 53)).alloc (.cells #[.bool false, .slice none 0 0, .bool false, .slice none 0 0] 53)) = W at *
  refine T1.mono ?_
  clear T1
  rintro e y1 ⟨z, rfl, hz, g1⟩
  obtain ⟨r1, o1, l1, c1, rfl, hz1⟩ := hz.shape
  clear hz
  have a1 : Gr y1 (y1.alloc (.cells #[.bool r1, .slice o1 l1 c1] 51)) := (Gr.refl _).alloc _
  have b1 := g1.trans (a1.below.mono g1.size)
  replace k0 := k0.mono b1 k0.lt
  replace k1 := k1.mono b1 k1.lt
  replace k2 := k2.mono b1 k2.lt
  replace N2 := hid' (N2.out.mono b1)
  replace N3 := hid' (N3.out.mono b1)
  replace hz1 := hid' (hz1.out.gr a1)
  replace hF := hF.trans (b1.mono hF.size)
  have v5 : Wh (y1.alloc (.cells #[.bool r1, .slice o1 l1 c1] 51)) y1.heap.size (.bool r1) (.slice o1 l1 c1) := Wh.new y1 _ _
  have T2 := times_num _ _ d m L M (y1.alloc (.cells #[.bool r1, .slice o1 l1 c1] 51)) N2.out N3.out (by omega) (by omega)
  have x2 := k0.c2
  have x3 := k0.c3
  have x4 := k1.c0
  have x5 := k1.c1
  clear b1 a1 g1 N2 N3
  go_wp2_with fail
  generalize y1.alloc (.cells #[.bool r1, .slice o1 l1 c1] 51) = Y1 at *
  generalize y1.heap.size = X5 at *
  refine T2.mono ?_
  clear T2 x2 x3 x4 x5
  rintro e y2 ⟨z, rfl, hz, g2⟩
  obtain ⟨o2, c2, l2, rfl, hr2, hn2, hv2, hl2⟩ := hz
  have hz2 : Hid (Nm y2 (.agg #[.bool (decide (d * m < 0)), .slice o2 l2.length c2]) (d * m) (L + M)) := hid' ⟨o2, c2, l2, rfl, hr2, hn2, hv2, hl2⟩
  clear hr2 hn2 hv2 hl2
  generalize hBd : decide (d * m < 0) = B at *
  have a2 : Gr y2 (y2.alloc (.cells #[.bool (B), .slice o2 l2.length c2] 51)) := (Gr.refl _).alloc _
  have b2 := g2.trans (a2.below.mono g2.size)
  replace k2 := k2.mono b2 k2.lt
  replace v5 := v5.mono b2 v5.lt
  replace hz1 := hid' (hz1.out.mono b2)
  replace hz2 := hid' (hz2.out.gr a2)
  replace hF := hF.trans (b2.mono hF.size)
  have v6 : Wh (y2.alloc (.cells #[.bool (B), .slice o2 l2.length c2] 51)) y2.heap.size (.bool (B)) (.slice o2 l2.length c2) := Wh.new y2 _ _
  have EN : Hid (quoN n d m e' = if d * m < 0 then -(n * e') else n * e') := rfl
  have ED : Hid (quoD d m = if d * m < 0 then -(d * m) else d * m) := rfl
  clear k0 k1 b2 a2 g2
  have u0 := v5.c0
  have u1 := v5.c1
  have u2 := v6.c0
  have u3 := v6.c1
  have d0 := k2.c0
  have d1 := k2.c1
  have d2 := k2.c2
  have d3 := k2.c3
  have df := k2.f
  cases B with
  | true =>
    have hneg : d * m < 0 := by simpa using hBd
    rw [if_pos hneg] at EN ED
    clear hneg hBd
    generalize n * e' = NE at *
    generalize d * m = DM at *
    go_upto_region 4 with fail
    generalize y2.alloc (.cells #[.bool true, .slice o2 l2.length c2] 51) = Y2 at *
    generalize y2.heap.size = X6 at *
    have M1 := hid' (hz1.out.mono (Below.refl _ _).drew)
    have M2 := hid' (hz2.out.mono (Below.refl _ _).drew)
    have lt5 := v5.lt
    have lt6 := v6.lt
    have lt2 := k2.lt
    have n5 : w.heap.size + 1 + 1 ≠ X5 := fun q => by have a := v5; have b := k2; rw [← q] at a; unfold Wh at a; unfold Q4 at b; rw [a] at b; simp at b
    have n6 : w.heap.size + 1 + 1 ≠ X6 := fun q => by have a := v6; have b := k2; rw [← q] at a; unfold Wh at a; unfold Q4 at b; rw [a] at b; simp at b
    have hS0 : Hid (S5 X5 X6 (.bool r1) (.slice o1 l1 c1) (.bool true) (.slice o2 l2.length c2) (w.heap.size + 1 + 1) Y2.drew) := ⟨v5.c0, v5.c1, v6.c0, v6.c1⟩
    have kd : Q4 Y2.drew (w.heap.size + 1 + 1) (.bool false) (.slice none 0 0) (.bool false) (.slice none 0 0) := k2
    have hFd : Below w.heap.size w Y2.drew := hF.drew
    clear hz1 hz2 u0 u1 u2 u3 d0 d1 d2 d3 df v5 v6 k2
    go_region_held3 (S5 X5 X6 (.bool r1) (.slice o1 l1 c1) (.bool true) (.slice o2 l2.length c2) (w.heap.size + 1 + 1))
      (repeat (first | with_reducible exact hS2.out | with_reducible exact hS1.out | with_reducible exact hS0.out | (with_reducible refine S5.set ?_ n5 n6 rfl _)))
      (first
        | (have _n := hw1; go_at_call 44; refine (other_b _ DM (L + M) _ M2.out).mono ?_; rintro e y4 ⟨z, rfl, hz, g4⟩; obtain ⟨r4, o4, l4, c4, rfl, hw2⟩ := hz.shape; clear hz; replace hw1 := hid' (hw1.out.mono g4); have hS2 : Hid (S5 X5 X6 (.bool r1) (.slice o1 l1 c1) (.bool true) (.slice o2 l2.length c2) (w.heap.size + 1 + 1) y4) := S5.call hS1.out g4; replace kd := kd.mono g4 kd.lt; have d0 := kd.c0; have d1 := kd.c1; have d2 := kd.c2; have d3 := kd.c3; have df := kd.f; replace hFd := hFd.trans (g4.mono hFd.size))
        | (go_at_call 44; refine (other_b _ NE (L + M) _ M1.out).mono ?_; rintro e y3 ⟨z, rfl, hz, g3⟩; obtain ⟨r3, o3, l3, c3, rfl, hw1⟩ := hz.shape; clear hz; replace M2 := hid' (M2.out.mono g3); have hS1 : Hid (S5 X5 X6 (.bool r1) (.slice o1 l1 c1) (.bool true) (.slice o2 l2.length c2) (w.heap.size + 1 + 1) y3) := S5.call hS0.out g3; replace kd := kd.mono g3 kd.lt; replace hFd := hFd.trans (g3.mono hFd.size)))
    all_goals
      go_wp2
      refine bodyPost_ret (v := .agg #[.bool r3, .slice o3 l3 c3, .bool r4, .slice o4 l4 c4]) (by simp [results, Try.results25, go_sem, d0, d1, d2, d3]) rfl ⟨_, rfl, ⟨r3, o3, l3, c3, r4, o4, l4, c4, rfl, ?_, ?_⟩, ?_⟩
      · rw [EN.out]; exact hw1.out.setQ kd _ _ _ _
      · rw [ED.out]; exact hw2.out.setQ kd _ _ _ _
      · exact (((hFd.setCell (by simp only []; omega) _).setCell (by simp only []; omega) _).setCell (by simp only []; omega) _).setCell (by simp only []; omega) _
  | false =>
    have hneg : ¬ d * m < 0 := by simpa using hBd
    rw [if_neg hneg] at EN ED
    clear hneg hBd
    generalize n * e' = NE at *
    generalize d * m = DM at *
    go_wp2
    refine bodyPost_ret (v := .agg #[.bool r1, .slice o1 l1 c1, .bool false, .slice o2 l2.length c2]) (by simp [results, Try.results25, go_sem, d0, d1, d2, d3]) rfl ⟨_, rfl, ⟨r1, o1, l1, c1, false, o2, l2.length, c2, rfl, ?_, ?_⟩, ?_⟩
    · rw [EN.out]; exact hz1.out.setQ k2 _ _ _ _
    · rw [ED.out]; exact hz2.out.setQ k2 _ _ _ _
    · exact (((hF.setCell (by simp only []; omega) _).setCell (by simp only []; omega) _).setCell (by simp only []; omega) _).setCell (by simp only []; omega) _
end Go.Proofs.Ytagabccaipfjeaa
