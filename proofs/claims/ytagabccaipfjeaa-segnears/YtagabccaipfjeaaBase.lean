/- Memory: what a call leaves as it was; small laws over blocks, cells and rows. -/
import Derived.Test.YtagabccaipfjeaaWide
import Derived.BigQuiet
import Derived.Deep.RegionWith
import Derived.Deep.RegionHeld3
import Derived.Deep.DeepCutAuto
namespace Go.Proofs.Ytagabccaipfjeaa
open Go.RowKit Go.Sort

theorem below_cell {w w' : World} {a : Addr} {v : Value} (h : w.cell? a = some v) (g : Below w.heap.size w w') : w'.cell? a = some v :=
  (g.cell (World.block_lt_of_cell? w a h)).trans h

theorem Gr.grownBy {w w' : World} (h : Gr w w') : w.grownBy w' none :=
  ⟨h.below.os, h.below.tape, h.below.output, h.below.size, fun k hk _ => h.below.block k hk⟩
theorem own_gr {w w' : World} {base e k : Nat} {v : Value} {xs : List Value} (h : w.ownsRow base e 1 v k xs) (g : Gr w w') : w'.ownsRow base e 1 v k xs :=
  h.kept g.grownBy (by cases v.ownBlock <;> simp)

theorem below2 (w : World) (a b : Obj) : Below w.heap.size w ((w.alloc a).alloc b) := (((Gr.refl _).alloc _).alloc _).below
theorem below3 (w : World) (a b c : Obj) : Below w.heap.size w (((w.alloc a).alloc b).alloc c) := ((((Gr.refl _).alloc _).alloc _).alloc _).below
theorem below4 (w : World) (a b c d : Obj) : Below w.heap.size w ((((w.alloc a).alloc b).alloc c).alloc d) := (((((Gr.refl _).alloc _).alloc _).alloc _).alloc _).below

theorem regr1 {W w1 : World} {a : Addr} {v : Value} (h : ∀ n os, (grow (W.drewN n) os).cell? a = some v) (g : Gr W w1) : ∀ n os, (grow (w1.drewN n) os).cell? a = some v := by
  obtain ⟨q, o, rfl⟩ := g
  intro n os
  have e : grow ((grow (W.drewN q) o).drewN n) os = grow (W.drewN (q + n)) (o ++ os) := by
    show grow (grow ((W.drewN q).drewN n) o) os = _
    rw [grow_grow, World.drewN_drewN]
  rw [e]; exact h _ _
theorem at0 {W : World} {a : Addr} {v : Value} (h : ∀ n os, (grow (W.drewN n) os).cell? a = some v) : W.cell? a = some v := by simpa using h 0 #[]
theorem own_shape {w : World} {base e k : Nat} {v : Value} {xs : List Value} (h : w.ownsRow base e 1 v (k + 1) xs) : ∃ g cap, v = .slice (some ⟨g, 0, none⟩) (k + 1) cap := by
  rcases h.2 with ⟨_, hn⟩ | ⟨g, cap, cur, rfl, _⟩
  · omega
  · exact ⟨g, cap, rfl⟩


/-- Four cells, and that nothing below K has turned. -/
abbrev S4 (a0 a1 a2 a3 : Addr) (x0 x1 x2 x3 : Value) (K : Nat) (W : World) (w : World) : Prop :=
  w.cell? a0 = some x0 ∧ w.cell? a1 = some x1 ∧ w.cell? a2 = some x2 ∧ w.cell? a3 = some x3 ∧ Below K W w
theorem S4.call {a0 a1 a2 a3 : Addr} {x0 x1 x2 x3 : Value} {K : Nat} {W w w' : World} (h : S4 a0 a1 a2 a3 x0 x1 x2 x3 K W w) (hK : K ≤ W.heap.size) (g : Below w.heap.size w w') : S4 a0 a1 a2 a3 x0 x1 x2 x3 K W w' :=
  ⟨below_cell h.1 g, below_cell h.2.1 g, below_cell h.2.2.1 g, below_cell h.2.2.2.1 g, h.2.2.2.2.trans (g.mono (Nat.le_trans hK h.2.2.2.2.size))⟩
theorem S4.set {a0 a1 a2 a3 : Addr} {x0 x1 x2 x3 : Value} {K : Nat} {W w : World} (h : S4 a0 a1 a2 a3 x0 x1 x2 x3 K W w) {p : Addr} (hp : K ≤ p.block) (h0 : a0.block < K) (h1 : a1.block < K) (h2 : a2.block < K) (h3 : a3.block < K) (z : Value) : S4 a0 a1 a2 a3 x0 x1 x2 x3 K W (w.setCell p z) :=
  have f : ∀ a : Addr, a.block < K → (w.setCell p z).cell? a = w.cell? a := fun a ha => World.cell?_setCell_far w p a z (by omega)
  ⟨(f a0 h0).trans h.1, (f a1 h1).trans h.2.1, (f a2 h2).trans h.2.2.1, (f a3 h3).trans h.2.2.2.1, h.2.2.2.2.setCell hp z⟩

end Go.Proofs.Ytagabccaipfjeaa
