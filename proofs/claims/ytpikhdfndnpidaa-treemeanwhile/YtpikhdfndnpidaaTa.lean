/- A Tree's Range, At, Crossing and All, and what the law is told of them. -/
import Derived.Test.YtpikhdfndnpidaaTq
set_option linter.unusedSimpArgs false
set_option linter.unusedVariables false
namespace Go.Proofs.Ytpikhdfndnpidaa
open Go.RowKit Go.Sort Go.Shelf
attribute [local go_sem] Oper.semAt_some wide_fn
attribute [local simp] wide_fn

/-- The walk over the boxes of v that meet b. -/
def ItR (w : World) (v : Value) (b : Q4) (fv : Value) : Prop := ∃ bt bc, fv = .func (.func 37) #[] #[.pointer (some ⟨bt, 0, none⟩), .pointer (some ⟨bc, 0, none⟩)] ∧ Bk w bt 23 [v] ∧ Bk w bc 36 [.int .i32 b.1, .int .i32 b.2.1, .int .i32 b.2.2.1, .int .i32 b.2.2.2]
theorem ItR.below {w w' : World} {v fv : Value} {b : Q4} (h : ItR w v b fv) (g : Below w.heap.size w w') : ItR w' v b fv := by
  obtain ⟨bt, bc, e, h1, h2⟩ := h
  exact ⟨bt, bc, e, h1.mono g h1.lt, h2.mono g h2.lt⟩
theorem ItR.gr {w w' : World} {v fv : Value} {b : Q4} (h : ItR w v b fv) (g : Gr w w') : ItR w' v b fv := h.below g.below
theorem range_any (o : Option Addr) (b : Q4) (w : World) : Calls Try.prog 19 #[.pointer o, bv b] w fun e w' => ∃ fv, e = .returned fv ∧ ItR w' (.pointer o) b fv ∧ Gr w w' := by
  have k0 := (Bk.new w 23 [.pointer o]).alloc (.cells #[.int .i32 b.1, .int .i32 b.2.1, .int .i32 b.2.2.1, .int .i32 b.2.2.2] 36)
  have k1 := Bk.new (w.alloc (.cells #[.pointer o] 23)) 36 [.int .i32 b.1, .int .i32 b.2.1, .int .i32 b.2.2.1, .int .i32 b.2.2.2]
  rw [World.size_alloc] at k1
  go_enter Try.func19, Try.ntmps19
  go_wp2
  go_ret
  exact ⟨_, rfl, ⟨_, _, rfl, k0, k1⟩, ((Gr.refl _).alloc _).alloc _⟩
theorem at_any (o : Option Addr) (x y : Int) (w : World) : Calls Try.prog 20 #[.pointer o, pt x y] w fun e w' => ∃ fv, e = .returned fv ∧ ItR w' (.pointer o) (x, y, x, y) fv ∧ Gr w w' := by
  have R := hid0 (range_any o (x, y, x, y))
  have g0 := (Gr.refl w).alloc (.cells #[.int .i32 x, .int .i32 y] 34)
  obtain ⟨c0, c1⟩ := (Bk.new w 34 [.int .i32 x, .int .i32 y]).two
  dsimp only [bv, bx] at R
  go_enter Try.func20, Try.ntmps20
  go_upto_region 1 with fail
  generalize w.alloc (.cells #[.int .i32 x, .int .i32 y] 34) = W at *
  generalize w.heap.size = BE at *
  go_wp2_with (go_at_call 19; refine (R.out _).mono ?_; rintro e w1 ⟨fv, rfl, hI, g⟩)
  go_ret
  exact ⟨fv, rfl, hI, g0.trans g⟩
theorem slice_two (W : World) (a b c d : Value) : (W.alloc (.cells #[a, b, c, d] 34)).cell? ⟨W.heap.size, 0, none⟩ = some a ∧ (W.alloc (.cells #[a, b, c, d] 34)).cell? ⟨W.heap.size, 1, none⟩ = some b ∧ (W.alloc (.cells #[a, b, c, d] 34)).cell? ⟨W.heap.size, 2, none⟩ = some c ∧ (W.alloc (.cells #[a, b, c, d] 34)).cell? ⟨W.heap.size, 3, none⟩ = some d := (Bk.new W 34 [a, b, c, d]).four
set_option maxHeartbeats 1000000 in
theorem crossing_any (o : Option Addr) (px py qx qy : Int) (w : World) : Calls Try.prog 21 #[.pointer o, pt px py, pt qx qy] w fun e w' => ∃ fv, e = .returned fv ∧ ItR w' (.pointer o) (boxOf px py qx qy) fv ∧ Gr w w' := by
  have R := hid0 (range_any o (boxOf px py qx qy))
  have B2 : Hid (∀ W x, W.cell? ⟨x, 0, none⟩ = some (.int .i32 px) → W.cell? ⟨x, 1, none⟩ = some (.int .i32 py) → W.cell? ⟨x, 2, none⟩ = some (.int .i32 qx) → W.cell? ⟨x, 3, none⟩ = some (.int .i32 qy) → Calls Try.prog 41 #[.slice (some ⟨x, 0, none⟩) 2 2] W fun e w' => e = .returned (.tuple #[bv (boxOf px py qx qy), .bool true]) ∧ Gr W w') := fun W x c0 c1 c2 c3 => bounds_two W px py qx qy x c0 c1 c2 c3
  generalize boxOf px py qx qy = Q at *
  have g0 := ((Gr.refl w).alloc (.cells #[.int .i32 px, .int .i32 py] 34)).alloc (.cells #[.int .i32 qx, .int .i32 qy] 34)
  obtain ⟨c0, c1⟩ := ((Bk.new w 34 [.int .i32 px, .int .i32 py]).alloc (.cells #[.int .i32 qx, .int .i32 qy] 34)).two
  have d := (Bk.new (w.alloc (.cells #[.int .i32 px, .int .i32 py] 34)) 34 [.int .i32 qx, .int .i32 qy]).two
  rw [World.size_alloc] at d
  obtain ⟨d0, d1⟩ := d
  dsimp only [bv, bx] at R B2
  go_enter Try.func21, Try.ntmps21
  go_upto_region 1 with fail
  generalize (w.alloc (.cells #[.int .i32 px, .int .i32 py] 34)).alloc (.cells #[.int .i32 qx, .int .i32 qy] 34) = W at *
  generalize w.heap.size = BE at *
  go_wp2_with fail
  obtain ⟨s0, s1, s2, s3⟩ := slice_two W (.int .i32 px) (.int .i32 py) (.int .i32 qx) (.int .i32 qy)
  refine (B2.out _ _ s0 s1 s2 s3).mono ?_
  rintro e w1 ⟨rfl, g1⟩
  have gA := ((Gr.refl W).alloc (.cells #[.int .i32 px, .int .i32 py, .int .i32 qx, .int .i32 qy] 34)).trans g1
  have k7 := Bk.new w1 36 [.int .i32 Q.1, .int .i32 Q.2.1, .int .i32 Q.2.2.1, .int .i32 Q.2.2.2]
  clear B2 s0 s1 s2 s3 c0 c1 d0 d1 g1
  go_upto_region 2 with fail
  have gB := gA.alloc (.cells #[.int .i32 Q.1, .int .i32 Q.2.1, .int .i32 Q.2.2.1, .int .i32 Q.2.2.2] 36)
  obtain ⟨y0, y1, y2, y3⟩ := k7.four
  generalize w1.alloc (.cells #[.int .i32 Q.1, .int .i32 Q.2.1, .int .i32 Q.2.2.1, .int .i32 Q.2.2.2] 36) = W1 at *
  generalize w1.heap.size = BX at *
  go_wp2_with (go_at_call 19; refine (R.out _).mono ?_; rintro e w2 ⟨fv, rfl, hI, g2⟩)
  go_ret
  exact ⟨fv, rfl, hI, (g0.trans gB).trans g2⟩
/-- The walk over all of v. -/
def ItA (w : World) (v : Value) (fv : Value) : Prop := ∃ bt, fv = .func (.func 44) #[] #[.pointer (some ⟨bt, 0, none⟩)] ∧ Bk w bt 23 [v]
theorem all_any (o : Option Addr) (w : World) : Calls Try.prog 30 #[.pointer o] w fun e w' => ∃ bt, e = .returned (.func (.func 44) #[] #[.pointer (some ⟨bt, 0, none⟩)]) ∧ Bk w' bt 23 [.pointer o] ∧ Gr w w' := by
  go_enter Try.func30, Try.ntmps30
  go_wp2
  go_ret
  exact ⟨_, rfl, Bk.new w 23 _, (Gr.refl _).alloc _⟩
/-- A row of numbers that a slice reads. -/
def Row (w : World) (base : Nat) (v : Value) (l : List Int) : Prop := w.ownsRow base 32 1 v l.length (l.map (fun i => Value.int .u32 i))
abbrev idL (L : List Nd) : List Int := L.map (fun x => x.2.1)
theorem told_any (v fv : Value) (b : Q4) (L : List Nd) (m : Int) (w : World) (hI : ItR w v b fv) (hT : Told w (fun q => meetQ q b) v L) (hL : L.length ≤ 1000000) :
    Calls Try.prog 18 #[fv, .int .i64 m] w fun e w' => ∃ u, e = .returned u ∧ Row w' w.heap.size u (idL (leftL m L)) ∧ Below w.heap.size w w' := by
  obtain ⟨bt, bc, rfl, h1, h2⟩ := hI
  refine callsIn_wide.1 ((told_in 20 (by omega) 37 _ L hL m (Stay w bc) w ?_ (enters_of Try.func37 (by kernel_rfl) rfl) (range1_seq 19 bt bc (by omega) v b L w hT h1 h2)).mono ?_)
  · rintro x (h | rfl)
    · exact h.lt
    · exact h2.lt
  · rintro e w' ⟨u, rfl, h3, h4⟩
    refine ⟨u, rfl, ?_, h4⟩
    unfold Row idL
    rw [List.length_map, List.map_map]
    exact h3
theorem Row.slice {w : World} {base : Nat} {v : Value} {l : List Int} (h : Row w base v l) : ∃ ao cap, v = .slice ao l.length cap := by
  rcases h.2 with ⟨e, h0⟩ | ⟨g, cap, cur, e, _⟩
  · exact ⟨none, 0, by rw [e, h0]⟩
  · exact ⟨_, _, e⟩
end Go.Proofs.Ytpikhdfndnpidaa
