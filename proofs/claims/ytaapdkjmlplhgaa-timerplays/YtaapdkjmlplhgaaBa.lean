/- Ground: what a call leaves as it was; sizes, places, right boxes; division towards below. -/
import Derived.Test.YtaapdkjmlplhgaaRows
import Derived.WalkKit
import Derived.WalkSpells
import Derived.WalkLawsBesides
import Derived.Handy
import Derived.Lib.Hide
import Derived.Shelf.SlSortCmp.QuietGrown
import Derived.BigQuiet
import Derived.Deep.RegionWith
import Derived.Deep.RegionHeld3
import Derived.Deep.DeepCutAuto
import Derived.Deep.DeepMust
namespace Go.Proofs.Ytaapdkjmlplhgaa
open Go.RowKit Go.Sort

/-- w' is w after some draws, with some blocks laid behind it. -/
def Gr (w w' : World) : Prop := ∃ q os, w' = grow (w.drewN q) os
theorem Gr.refl (w : World) : Gr w w := ⟨0, #[], by simp [World.drewN_zero]⟩
theorem Gr.alloc {w w' : World} (h : Gr w w') (o : Obj) : Gr w (w'.alloc o) := by
  obtain ⟨q, os, rfl⟩ := h
  exact ⟨q, os ++ #[o], by rw [alloc_eq_grow, grow_grow]⟩
theorem Gr.drew {w w' : World} (h : Gr w w') : Gr w w'.drew := by
  obtain ⟨q, os, rfl⟩ := h
  exact ⟨q + 1, os, rfl⟩
theorem Gr.drewN {w w' : World} (h : Gr w w') (n : Nat) : Gr w (w'.drewN n) := by
  obtain ⟨q, os, rfl⟩ := h
  exact ⟨q + n, os, by show grow ((w.drewN q).drewN n) os = _; rw [World.drewN_drewN]⟩
theorem Gr.trans {a b c : World} (h : Gr a b) (k : Gr b c) : Gr a c := by
  obtain ⟨q, os, rfl⟩ := h
  obtain ⟨q', os', rfl⟩ := k
  exact ⟨q + q', os ++ os', by show grow (grow ((a.drewN q).drewN q') os) os' = _; rw [grow_grow, World.drewN_drewN]⟩
theorem Gr.setCell {w w' : World} (h : Gr w w') {p : Addr} (hp : w.heap.size ≤ p.block) (v : Value) : Gr w (w'.setCell p v) := by
  obtain ⟨q, os, rfl⟩ := h
  have e : ∀ f : Obj → Obj, ({ grow (w.drewN q) os with heap := (grow (w.drewN q) os).heap.modify p.block f } : World) = grow (w.drewN q) (os.modify (p.block - w.heap.size) f) := fun f => by
    show ({ w.drewN q with heap := (w.heap ++ os).modify p.block f } : World) = { w.drewN q with heap := w.heap ++ os.modify (p.block - w.heap.size) f }
    rw [modify_append_right _ _ _ _ hp]
  exact ⟨q, _, e _⟩
theorem Gr.below {w w' : World} (h : Gr w w') : Below w.heap.size w w' := by
  obtain ⟨q, os, rfl⟩ := h
  exact ⟨rfl, rfl, rfl, by simp, fun k hk => by simpa using heap_grow_old (w.drewN q) os hk⟩
theorem Gr.size {w w' : World} (h : Gr w w') : w.heap.size ≤ w'.heap.size := h.below.size
theorem Gr.grownBy {w w' : World} (h : Gr w w') : w.grownBy w' none :=
  ⟨h.below.os, h.below.tape, h.below.output, h.below.size, fun k hk _ => h.below.block k hk⟩
theorem below_cell {w w' : World} {a : Addr} {v : Value} (h : w.cell? a = some v) (g : Below w.heap.size w w') : w'.cell? a = some v :=
  (g.cell (World.block_lt_of_cell? w a h)).trans h
theorem cell_gr {W : World} {a : Addr} {x : Value} (h : W.cell? a = some x) : ∀ n os, (grow (W.drewN n) os).cell? a = some x :=
  fun n os => cell_grown (World.block_lt_of_cell? _ _ h) h n os

def in32 (x : Int) : Prop := -2147483648 ≤ x ∧ x ≤ 2147483647
def in64 (x : Int) : Prop := -9223372036854775808 ≤ x ∧ x ≤ 9223372036854775807
/-- A point, a cell: two numbers of 32 bits. -/
abbrev pt (x y : Int) : Value := .agg #[.int .i32 x, .int .i32 y]
abbrev bx (a b c d : Int) : Value := .agg #[.int .i32 a, .int .i32 b, .int .i32 c, .int .i32 d]
theorem w64_in {x : Int} (h : in64 x) : wrap64 x = x := by unfold in64 at h; unfold wrap64; omega
theorem w64_32 {x : Int} (h : in32 x) : wrap64 x = x := by unfold in32 at h; unfold wrap64; omega
theorem w32_in {x : Int} (h : in32 x) : IntKind.i32.wrap x = x := by unfold in32 at h; rw [IntKind.wrap_i32]; omega

/-! ### Blocks -/
def Bk (W : World) (b : Nat) (t : TypeId) (l : List Value) : Prop := W.heap[b]? = some (.cells l.toArray t (0, 0))
theorem Bk.lt {W : World} {b : Nat} {t : TypeId} {l : List Value} (h : Bk W b t l) : b < W.heap.size := (Array.getElem?_eq_some_iff.1 h).1
theorem Bk.at {W : World} {b : Nat} {t : TypeId} {l : List Value} (h : Bk W b t l) (i : Nat) : W.cell? ⟨b, i, none⟩ = l[i]? := by unfold Bk at h; simp [World.cell?, h]
theorem Bk.frozen {W : World} {b : Nat} {t : TypeId} {l : List Value} (h : Bk W b t l) (i : Nat) : W.frozen? ⟨b, i, none⟩ = false := by unfold Bk at h; simp [World.frozen?, h]
theorem Bk.new (W : World) (t : TypeId) (l : List Value) : Bk (W.alloc (.cells l.toArray t)) W.heap.size t l := heap_alloc_new W _
theorem Bk.mono {W W' : World} {b B : Nat} {t : TypeId} {l : List Value} (h : Bk W b t l) (g : Below B W W') (hb : b < B) : Bk W' b t l := by unfold Bk; rw [g.block b hb]; exact h
theorem Bk.gr {W W' : World} {b : Nat} {t : TypeId} {l : List Value} (h : Bk W b t l) (g : Gr W W') : Bk W' b t l := h.mono g.below h.lt
theorem Bk.alloc {W : World} {b : Nat} {t : TypeId} {l : List Value} (h : Bk W b t l) (o : Obj) : Bk (W.alloc o) b t l := h.gr ((Gr.refl _).alloc _)
theorem Bk.other {W : World} {b : Nat} {t : TypeId} {l : List Value} (h : Bk W b t l) {a : Addr} (ha : b ≠ a.block) (z : Value) : Bk (W.setCell a z) b t l := by unfold Bk; rw [Below.heap_setCell _ _ _ _ ha]; exact h
theorem Bk.same {W W' : World} {b : Nat} {t : TypeId} {l : List Value} (h : Bk W b t l) (e : W'.heap[b]? = W.heap[b]?) : Bk W' b t l := e.trans h
theorem Bk.set {W : World} {b : Nat} {t : TypeId} {l : List Value} (h : Bk W b t l) (i : Nat) (z : Value) : Bk (W.setCell ⟨b, i, none⟩ z) b t (l.set i z) := by
  unfold Bk at *
  have hlt : b < W.heap.size := (Array.getElem?_eq_some_iff.1 h).1
  have h' : W.heap[b] = .cells l.toArray t (0, 0) := (Array.getElem?_eq_some_iff.1 h).2
  show (W.heap.modify b _)[b]? = _
  rw [Array.getElem?_modify]
  simp [h]
theorem Bk.two {W : World} {b : Nat} {t : TypeId} {x y : Value} (h : Bk W b t [x, y]) : W.cell? ⟨b, 0, none⟩ = some x ∧ W.cell? ⟨b, 1, none⟩ = some y := ⟨h.at 0, h.at 1⟩
theorem Bk.four {W : World} {b : Nat} {t : TypeId} {x y z u : Value} (h : Bk W b t [x, y, z, u]) : W.cell? ⟨b, 0, none⟩ = some x ∧ W.cell? ⟨b, 1, none⟩ = some y ∧ W.cell? ⟨b, 2, none⟩ = some z ∧ W.cell? ⟨b, 3, none⟩ = some u := ⟨h.at 0, h.at 1, h.at 2, h.at 3⟩
theorem Bk.one {W : World} {b : Nat} {t : TypeId} {x : Value} (h : Bk W b t [x]) : W.cell? ⟨b, 0, none⟩ = some x := h.at 0

theorem hid0 {p : Prop} (h : p) : Hid p := h
theorem lt_of_block {W : World} {b : Nat} {o : Obj} (h : W.heap[b]? = some o) : b < W.heap.size := (Array.getElem?_eq_some_iff.1 h).1
end Go.Proofs.Ytaapdkjmlplhgaa
