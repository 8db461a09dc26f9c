/- Plain: how far a point is off a segment, as the program reckons it (its square, times the square of the segment's length). The program's numbers on the lattice; what a block holds. -/
import Derived.Test.YtljdnahomhbenaaHf
namespace Go.Proofs.Ytljdnahomhbenaa
section
open Go.RowKit Go.Sort

def latP (p : Int × Int) : Prop := (-1073741823 ≤ p.1 ∧ p.1 ≤ 1073741823) ∧ (-1073741823 ≤ p.2 ∧ p.2 ≤ 1073741823)
theorem latP.in2 {p : Int × Int} (h : latP p) : in2 p := by unfold latP at h; exact ⟨⟨by omega, by omega⟩, ⟨by omega, by omega⟩⟩
def d2 (a b : Int × Int) : Int := (b.1 - a.1) * (b.1 - a.1) + (b.2 - a.2) * (b.2 - a.2)
def al (a b p : Int × Int) : Int := (b.1 - a.1) * (p.1 - a.1) + (b.2 - a.2) * (p.2 - a.2)
def scl (a b : Int × Int) : Int := if d2 a b ≤ 1 then 1 else d2 a b
def offI (a b p : Int × Int) : Int := if al a b p ≤ 0 then d2 a p * scl a b else if scl a b ≤ al a b p then d2 b p * scl a b else cr a b p * cr a b p

theorem prod_bd {x y : Int} (hx : -2147483646 ≤ x) (hx' : x ≤ 2147483646) (hy : -2147483646 ≤ y) (hy' : y ≤ 2147483646) : -4611686009837453316 ≤ x * y ∧ x * y ≤ 4611686009837453316 := by
  have a1 := Int.mul_nonneg (show 0 ≤ 2147483646 - x by omega) (show 0 ≤ 2147483646 - y by omega)
  have a2 := Int.mul_nonneg (show 0 ≤ 2147483646 + x by omega) (show 0 ≤ 2147483646 + y by omega)
  have a3 := Int.mul_nonneg (show 0 ≤ 2147483646 - x by omega) (show 0 ≤ 2147483646 + y by omega)
  have a4 := Int.mul_nonneg (show 0 ≤ 2147483646 + x by omega) (show 0 ≤ 2147483646 - y by omega)
  have e1 : (2147483646 - x) * (2147483646 - y) = 4611686009837453316 - 2147483646 * x - 2147483646 * y + x * y := by grind
  have e2 : (2147483646 + x) * (2147483646 + y) = 4611686009837453316 + 2147483646 * x + 2147483646 * y + x * y := by grind
  have e3 : (2147483646 - x) * (2147483646 + y) = 4611686009837453316 - 2147483646 * x + 2147483646 * y - x * y := by grind
  have e4 : (2147483646 + x) * (2147483646 - y) = 4611686009837453316 + 2147483646 * x - 2147483646 * y - x * y := by grind
  generalize x * y = z at *
  omega
theorem sum_bd {a b c p : Int × Int} (ha : latP a) (hb : latP b) (hc : latP c) (hp : latP p) : -9223372019674906632 ≤ (b.1 - a.1) * (p.1 - c.1) + (b.2 - a.2) * (p.2 - c.2) ∧ (b.1 - a.1) * (p.1 - c.1) + (b.2 - a.2) * (p.2 - c.2) ≤ 9223372019674906632 := by
  unfold latP at *
  have h1 := prod_bd (x := b.1 - a.1) (y := p.1 - c.1) (by omega) (by omega) (by omega) (by omega)
  have h2 := prod_bd (x := b.2 - a.2) (y := p.2 - c.2) (by omega) (by omega) (by omega) (by omega)
  omega
theorem d2_bd {a b : Int × Int} (ha : latP a) (hb : latP b) : 0 ≤ d2 a b ∧ d2 a b ≤ 9223372019674906632 := by
  have h := (sum_bd ha hb ha hb).2
  refine ⟨?_, h⟩
  unfold d2
  have h1 : 0 ≤ (b.1 - a.1) * (b.1 - a.1) := by
    rcases Int.le_total 0 (b.1 - a.1) with h | h
    · exact Int.mul_nonneg h h
    · exact Int.mul_nonneg_of_nonpos_of_nonpos h h
  have h2 : 0 ≤ (b.2 - a.2) * (b.2 - a.2) := by
    rcases Int.le_total 0 (b.2 - a.2) with h | h
    · exact Int.mul_nonneg h h
    · exact Int.mul_nonneg_of_nonpos_of_nonpos h h
  omega
theorem al_bd {a b p : Int × Int} (ha : latP a) (hb : latP b) (hp : latP p) : -9223372019674906632 ≤ al a b p ∧ al a b p ≤ 9223372019674906632 := sum_bd ha hb ha hp
theorem cr_bd {a b p : Int × Int} (ha : latP a) (hb : latP b) (hp : latP p) : -9223372019674906632 ≤ cr a b p ∧ cr a b p ≤ 9223372019674906632 := by
  unfold latP at *
  have h1 := prod_bd (x := b.1 - a.1) (y := p.2 - a.2) (by omega) (by omega) (by omega) (by omega)
  have h2 := prod_bd (x := b.2 - a.2) (y := p.1 - a.1) (by omega) (by omega) (by omega) (by omega)
  unfold cr
  omega
theorem scl_bd {a b : Int × Int} (ha : latP a) (hb : latP b) : 1 ≤ scl a b ∧ scl a b ≤ 9223372019674906632 := by
  have := d2_bd ha hb
  unfold scl
  split <;> omega
theorem w64_of {x : Int} (h : -9223372019674906632 ≤ x ∧ x ≤ 9223372019674906632) : wrap64 x = x := by unfold wrap64; omega
end
section
set_option linter.unusedSimpArgs false
open Go.RowKit Go.Sort

abbrev bsV (a b : Int × Int) (s : Int) : Value := .agg #[.int .i32 a.1, .int .i32 a.2, .int .i32 b.1, .int .i32 b.2, .int .i64 s]
abbrev wd (m : Int) : Value := .agg #[.int .i64 (hiI m), .int .u64 (loI m)]
theorem dist_lat (a b : Int × Int) (ha : latP a) (hb : latP b) (w : World) : Calls Try.prog 42 #[pt a.1 a.2, pt b.1 b.2] w fun e w' => e = .returned (.int .i64 (d2 a b)) ∧ Gr w w' := by
  have h := dist2_any a.1 a.2 b.1 b.2 ha.in2.1 ha.in2.2 hb.in2.1 hb.in2.2 w
  rw [w64_of (sum_bd ha hb ha hb)] at h
  exact h
theorem dot_lat (a b p : Int × Int) (ha : latP a) (hb : latP b) (hp : latP p) (w : World) : Calls Try.prog 68 #[pt a.1 a.2, pt b.1 b.2, pt p.1 p.2] w fun e w' => e = .returned (.int .i64 (al a b p)) ∧ Gr w w' := by
  have h := dot_any a.1 a.2 b.1 b.2 p.1 p.2 ha.in2.1 ha.in2.2 hb.in2.1 hb.in2.2 hp.in2.1 hp.in2.2 w
  have e := w64_of (al_bd ha hb hp)
  unfold al at e ⊢
  rw [e] at h
  exact h
theorem cross_lat (a b p : Int × Int) (ha : latP a) (hb : latP b) (hp : latP p) (w : World) : Calls Try.prog 122 #[pt a.1 a.2, pt b.1 b.2, pt p.1 p.2] w fun e w' => e = .returned (.int .i64 (cr a b p)) ∧ Gr w w' := by
  have h := cross_any a.1 a.2 b.1 b.2 p.1 p.2 ha.in2.1 ha.in2.2 hb.in2.1 hb.in2.2 hp.in2.1 hp.in2.2 w
  have e := w64_of (cr_bd ha hb hp)
  unfold cr at e ⊢
  rw [e] at h
  exact h
theorem mul_lat (x y : Int) (hx : -9223372019674906632 ≤ x ∧ x ≤ 9223372019674906632) (hy : -9223372019674906632 ≤ y ∧ y ≤ 9223372019674906632) (w : World) : Calls Try.prog 95 #[.int .i64 x, .int .i64 y] w fun e w' => e = .returned (wd (x * y)) ∧ Gr w w' :=
  wmul_any x y w (by omega) (by omega) (by omega) (by omega)

/-- What a block holds. -/
abbrev Hs (w : World) (b t : Nat) (vs : Array Value) : Prop := w.heap[b]? = some (.cells vs t (0, 0))
theorem Hs.cell {w : World} {b t : Nat} {vs : Array Value} (h : Hs w b t vs) {i : Nat} {v : Value} (hv : vs[i]? = some v) : w.cell? ⟨b, i, none⟩ = some v := by
  unfold Hs at h
  simp [World.cell?, h, hv]
theorem Hs.froz {w : World} {b t : Nat} {vs : Array Value} (h : Hs w b t vs) (i : Nat) : w.frozen? ⟨b, i, none⟩ = false := by
  unfold Hs at h
  simp [World.frozen?, h]
theorem Hs.gr {w w' : World} {b t : Nat} {vs : Array Value} (h : Hs w b t vs) (g : Gr w w') : Hs w' b t vs := (g.below.block b (lt_of_block h)).trans h
theorem Hs.new (w : World) (t : Nat) (vs : Array Value) : Hs (w.alloc (.cells vs t)) w.heap.size t vs := heap_alloc_new w _
theorem Hs.setAt {w : World} {b t : Nat} {vs : Array Value} (h : Hs w b t vs) (i : Nat) (v : Value) : Hs (w.setCell ⟨b, i, none⟩ v) b t (vs.setIfInBounds i v) := by
  have e1 := setCell_eq_setRow w b i vs t (0, 0) v h
  have h1 := setRow_heap w b vs (vs.setIfInBounds i v) t (0, 0) h
  rw [← e1] at h1
  exact h1
theorem Hs.set2 {w : World} {b t : Nat} {x y : Value} (h : Hs w b t #[x, y]) (u v : Value) : Hs ((w.setCell ⟨b, 0, none⟩ u).setCell ⟨b, 1, none⟩ v) b t #[u, v] := by
  have e1 := setCell_eq_setRow w b 0 #[x, y] t (0, 0) u h
  have h1 := setRow_heap w b #[x, y] (#[x, y].setIfInBounds 0 u) t (0, 0) h
  rw [← e1] at h1
  have e2 := setCell_eq_setRow (w.setCell ⟨b, 0, none⟩ u) b 1 _ t (0, 0) v h1
  have h2 := setRow_heap (w.setCell ⟨b, 0, none⟩ u) b _ ((#[x, y].setIfInBounds 0 u).setIfInBounds 1 v) t (0, 0) h1
  rw [← e2] at h2
  simpa using h2
theorem three_new (w : World) (x y z : Array Value) (t u v : Nat) : ∃ W, W = ((w.alloc (.cells x t)).alloc (.cells y u)).alloc (.cells z v) ∧ Hs W w.heap.size t x ∧ Hs W (w.heap.size + 1) u y ∧ Hs W (w.heap.size + 1 + 1) v z ∧ Gr w W ∧ W.heap.size = w.heap.size + 3 := by
  have h1 := Hs.new w t x
  have h2 := Hs.new (w.alloc (.cells x t)) u y
  have h3 := Hs.new ((w.alloc (.cells x t)).alloc (.cells y u)) v z
  rw [World.size_alloc] at h2
  rw [World.size_alloc, World.size_alloc] at h3
  refine ⟨_, rfl, (h1.gr ((Gr.refl _).alloc _)).gr ((Gr.refl _).alloc _), h2.gr ((Gr.refl _).alloc _), h3, (((Gr.refl w).alloc _).alloc _).alloc _, by simp⟩
end
end Go.Proofs.Ytljdnahomhbenaa
