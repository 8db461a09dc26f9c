/- Worlds that have grown: draws, and new blocks behind those that were there. -/
import Derived.Test.YtgcofpfjdplopaaGreatProg
import Derived.WalkKit
import Derived.WalkSpells
import Derived.WalkLawsBesides
import Derived.BigCall
import Derived.BigGuard
import Derived.Handy
import Derived.BigQuiet
import Derived.Lib.Hide
import Derived.Shelf.SlSortCmp.QuietGrown
import Derived.Deep.RegionWith
import Derived.Deep.RegionHeld3
import Derived.Deep.DeepCutAuto
import Derived.Deep.CutBlock
import Derived.Deep.LoopGhost
import Derived.OwnWalk
import Derived.WalkMore
import Derived.Laws.CopyOwn
import Derived.Laws.AppendOwnNone
namespace Go.Proofs.YtgcofpfjdplopaaGreat
open Go.RowKit Go.Sort

/-- w' is w after some draws, with some blocks laid behind it. -/
def Gr (w w' : World) : Prop := ∃ q os, w' = grow (w.drewN q) os
theorem Gr.refl (w : World) : Gr w w := ⟨0, #[], by simp [World.drewN_zero]⟩
theorem Gr.alloc {w w' : World} (h : Gr w w') (o : Obj) : Gr w (w'.alloc o) := by
  obtain ⟨q, os, rfl⟩ := h
  exact ⟨q, os ++ #[o], by rw [alloc_eq_grow, grow_grow]⟩
theorem Gr.drew {w w' : World} (h : Gr w w') : Gr w w'.drew := by
  obtain ⟨q, os, rfl⟩ := h
  exact ⟨q + 1, os, rfl⟩
theorem Gr.drewN {w w' : World} (h : Gr w w') (n : Nat) : Gr w (w'.drewN n) := by
  obtain ⟨q, os, rfl⟩ := h
  exact ⟨q + n, os, by show grow ((w.drewN q).drewN n) os = _; rw [World.drewN_drewN]⟩
theorem Gr.trans {a b c : World} (h : Gr a b) (k : Gr b c) : Gr a c := by
  obtain ⟨q, os, rfl⟩ := h
  obtain ⟨q', os', rfl⟩ := k
  exact ⟨q + q', os ++ os', by show grow (grow ((a.drewN q).drewN q') os) os' = _; rw [grow_grow, World.drewN_drewN]⟩
theorem Gr.setCell {w w' : World} (h : Gr w w') {p : Addr} (hp : w.heap.size ≤ p.block) (v : Value) : Gr w (w'.setCell p v) := by
  obtain ⟨q, os, rfl⟩ := h
  have e : ∀ f : Obj → Obj, ({ grow (w.drewN q) os with heap := (grow (w.drewN q) os).heap.modify p.block f } : World) = grow (w.drewN q) (os.modify (p.block - w.heap.size) f) := fun f => by
    show ({ w.drewN q with heap := (w.heap ++ os).modify p.block f } : World) = { w.drewN q with heap := w.heap ++ os.modify (p.block - w.heap.size) f }
    rw [modify_append_right _ _ _ _ hp]
  exact ⟨q, _, e _⟩
theorem Gr.below {w w' : World} (h : Gr w w') : Below w.heap.size w w' := by
  obtain ⟨q, os, rfl⟩ := h
  exact ⟨rfl, rfl, rfl, by simp, fun k hk => by simpa using heap_grow_old (w.drewN q) os hk⟩
theorem Gr.size {w w' : World} (h : Gr w w') : w.heap.size ≤ w'.heap.size := h.below.size
theorem Gr.cells {w w' : World} (h : Gr w w') : (∀ b o, b < w.heap.size → w'.cell? ⟨b, o, none⟩ = w.cell? ⟨b, o, none⟩) ∧ (∀ b o, b < w.heap.size → w'.frozen? ⟨b, o, none⟩ = w.frozen? ⟨b, o, none⟩) :=
  ⟨fun b o h' => h.below.cell (p := ⟨b, o, none⟩) h', fun b o h' => h.below.frozen (p := ⟨b, o, none⟩) h'⟩


theorem hid' {p : Prop} (h : p) : Hid p := h
theorem below_cell {w w' : World} {a : Addr} {v : Value} (h : w.cell? a = some v) (g : Below w.heap.size w w') : w'.cell? a = some v :=
  (g.cell (World.block_lt_of_cell? w a h)).trans h
/-- A block of the call's own. -/
def Bl (w : World) (b t : Nat) (vs : Array Value) : Prop := w.heap[b]? = some (.cells vs t (0, 0))
theorem Bl.lt {w : World} {b t : Nat} {vs : Array Value} (h : Bl w b t vs) : b < w.heap.size := lt_of_block h
theorem Bl.cell {w : World} {b t : Nat} {vs : Array Value} (h : Bl w b t vs) {i : Nat} {v : Value} (hv : vs[i]? = some v) : w.cell? ⟨b, i, none⟩ = some v := by unfold Bl at h; simp [World.cell?, h, hv]
theorem Bl.fro {w : World} {b t : Nat} {vs : Array Value} (h : Bl w b t vs) (i : Nat) : w.frozen? ⟨b, i, none⟩ = false := by unfold Bl at h; simp [World.frozen?, h]
theorem Bl.gr {w w' : World} {b t : Nat} {vs : Array Value} (h : Bl w b t vs) (g : Gr w w') : Bl w' b t vs := by
  unfold Bl; rw [g.below.block b h.lt]; exact h
theorem Bl.new (w : World) (t : Nat) (vs : Array Value) : Bl (w.alloc (.cells vs t)) w.heap.size t vs := heap_alloc_new w _
theorem Bl.alloc {w : World} {b t : Nat} {vs : Array Value} (h : Bl w b t vs) (o : Obj) : Bl (w.alloc o) b t vs := by
  unfold Bl; rw [Below.heap_alloc w o b h.lt]; exact h
theorem Bl.drewN {w : World} {b t : Nat} {vs : Array Value} (h : Bl w b t vs) (n : Nat) : Bl (w.drewN n) b t vs := h
theorem Bl.two {w : World} {b t : Nat} {x y : Value} (h : Bl w b t #[x, y]) : w.cell? ⟨b, 0, none⟩ = some x ∧ w.cell? ⟨b, 1, none⟩ = some y ∧ w.frozen? ⟨b, 0, none⟩ = false ∧ w.frozen? ⟨b, 1, none⟩ = false :=
  ⟨h.cell rfl, h.cell rfl, h.fro 0, h.fro 1⟩
theorem Bl.four {w : World} {b t : Nat} {x y z v : Value} (h : Bl w b t #[x, y, z, v]) : (w.cell? ⟨b, 0, none⟩ = some x ∧ w.cell? ⟨b, 1, none⟩ = some y ∧ w.cell? ⟨b, 2, none⟩ = some z ∧ w.cell? ⟨b, 3, none⟩ = some v) ∧ w.frozen? ⟨b, 0, none⟩ = false ∧ w.frozen? ⟨b, 1, none⟩ = false ∧ w.frozen? ⟨b, 2, none⟩ = false ∧ w.frozen? ⟨b, 3, none⟩ = false :=
  ⟨⟨h.cell rfl, h.cell rfl, h.cell rfl, h.cell rfl⟩, h.fro 0, h.fro 1, h.fro 2, h.fro 3⟩

theorem Bl.set2 {w : World} {b t : Nat} {x y : Value} (h : Bl w b t #[x, y]) (v u : Value) : Bl ((w.setCell ⟨b, 0, none⟩ v).setCell ⟨b, 1, none⟩ u) b t #[v, u] := by
  unfold Bl at *
  simp [World.setCell, Array.getElem?_modify, h]
theorem Bl.other {w : World} {b t : Nat} {vs : Array Value} (h : Bl w b t vs) {p : Addr} (hp : p.block ≠ b) (v : Value) : Bl (w.setCell p v) b t vs := by
  unfold Bl at *
  simp [World.setCell, Array.getElem?_modify, hp, h]
theorem Bl.setAt {w : World} {b t : Nat} {vs : Array Value} (h : Bl w b t vs) (i : Nat) (v : Value) : Bl (w.setCell ⟨b, i, none⟩ v) b t (vs.setIfInBounds i v) := by
  unfold Bl at *
  simp [World.setCell, Array.getElem?_modify, h]
theorem Bl.below {w w' : World} {b t : Nat} {vs : Array Value} (h : Bl w b t vs) (g : Below w.heap.size w w') : Bl w' b t vs := by
  unfold Bl; rw [g.block b h.lt]; exact h
theorem run_store_i (k : IntKind) (a : Addr) (x : Int) (m : Mode) (w : World) : (store a (.int k x) m).run Tryz.prog w = stored Tryz.prog w a (.int k x) m := run_store Tryz.prog w a _ m rfl
theorem run_store_s (a : Addr) (p : Option Addr) (l c : Nat) (m : Mode) (w : World) : (store a (.slice p l c) m).run Tryz.prog w = stored Tryz.prog w a (.slice p l c) m := run_store Tryz.prog w a _ m rfl
abbrev pt (x y : Int) : Value := .agg #[.int .i32 x, .int .i32 y]
/-- Points that a slice reads. -/
def Pts (w : World) (ao : Option Addr) (l : List (Int × Int)) : Prop := ∀ i, i < l.length → ∃ b off, ao = some ⟨b, off, none⟩ ∧
  w.cell? ⟨b, off + i * 2, none⟩ = some (.int .i32 (l.getD i (0, 0)).1) ∧ w.cell? ⟨b, off + i * 2 + 1, none⟩ = some (.int .i32 (l.getD i (0, 0)).2)
theorem Pts.mono {w w' : World} {ao : Option Addr} {l : List (Int × Int)} (h : Pts w ao l) (g : Below w.heap.size w w') : Pts w' ao l := fun i hi => by
  obtain ⟨b, off, e, h1, h2⟩ := h i hi
  exact ⟨b, off, e, below_cell h1 g, below_cell h2 g⟩
/-- What the law lays behind a list. -/
def mk7 (n : Nat) : List (Int × Int) := (List.range 7).map fun j => (555, IntKind.i32.wrap ((n + j : Nat) : Int))
theorem mk7_len (n : Nat) : (mk7 n).length = 7 := by simp [mk7]
/-- A list with its marks, in a block of its own. -/
structure Mkd (w : World) (g : Nat) (l : List (Int × Int)) : Prop where
  b : ∃ cur, Bl w g 28 cur ∧ cur.size = (l.length + 7) * 2 ∧ ∀ j, j < l.length + 7 → cur[j * 2]? = some (.int .i32 ((l ++ mk7 l.length).getD j (0, 0)).1) ∧ cur[j * 2 + 1]? = some (.int .i32 ((l ++ mk7 l.length).getD j (0, 0)).2)
theorem Mkd.lt {w : World} {g : Nat} {l : List (Int × Int)} (h : Mkd w g l) : g < w.heap.size := by obtain ⟨cur, k, _⟩ := h.b; exact k.lt
theorem Mkd.below {w w' : World} {g : Nat} {l : List (Int × Int)} (h : Mkd w g l) (k : Below w.heap.size w w') : Mkd w' g l := by
  obtain ⟨cur, b, r⟩ := h.b
  exact ⟨cur, b.below k, r⟩
theorem Mkd.pts {w : World} {g : Nat} {l : List (Int × Int)} (h : Mkd w g l) : Pts w (some ⟨g, 0, none⟩) l := fun i hi => by
  obtain ⟨cur, b, _, r⟩ := h.b
  obtain ⟨r0, r1⟩ := r i (by omega)
  have e : (l ++ mk7 l.length).getD i (0, 0) = l.getD i (0, 0) := by simp [List.getD, List.getElem?_append_left hi]
  rw [e] at r0 r1
  exact ⟨g, 0, rfl, by rw [Nat.zero_add]; exact b.cell r0, by rw [Nat.zero_add]; exact b.cell r1⟩
end Go.Proofs.YtgcofpfjdplopaaGreat
