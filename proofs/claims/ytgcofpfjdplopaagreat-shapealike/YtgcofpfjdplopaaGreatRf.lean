/- Ground for the ranges over functions: what a round keeps; points in memory. -/
import Derived.RangeFuncNested
import Derived.RangeFuncBound
import Derived.RangeFuncCalls
import Derived.RangeFuncLeaves
import Derived.Shelf.Abstract
import Derived.Shelf.RegionOpen
import Derived.WalkKit
import Derived.OwnWalkIn
import Derived.TacticsInMore
import Derived.LoopNIn
import Derived.LoopIn
import Derived.Test.YtgcofpfjdplopaaGreatBnd
namespace Go.Proofs.YtgcofpfjdplopaaGreat
section
open Go.RowKit Go.Shelf

theorem wide_fn (k : Nat) : Fence.wide.fn k = True := rfl
/-- What a round that goes on keeps: the blocks of a set. -/
def Kp (p : Nat → Prop) (W W' : World) : Prop := ∀ b, p b → W'.heap[b]? = W.heap[b]?
theorem Kp.refl {p : Nat → Prop} (W : World) : Kp p W W := fun _ _ => rfl
theorem Kp.t {p : Nat → Prop} {A B C : World} (h : Kp p A B) (k : Kp p B C) : Kp p A C := fun b hb => (k b hb).trans (h b hb)
theorem Kp.b {p : Nat → Prop} {w : World} (hp : ∀ b, p b → b < w.heap.size) (W : World) (l : Nat) (o o' : Obj) (hl : w.heap.size ≤ l) (_ : W.heap[l]? = some o) (_ : o.isCells = false) (_ : o.isWalk = false) : Kp p W (W.putObj l o') := fun b hb => by
  have h1 := hp b hb
  have hne : l ≠ b := by omega
  show (W.heap.setIfInBounds l o')[b]? = _
  exact Array.getElem?_setIfInBounds_ne hne
theorem Kp.below {p : Nat → Prop} {B : Nat} {W W' : World} (hp : ∀ b, p b → b < B) (h : Below B W W') : Kp p W W' := fun b hb => h.block b (hp b hb)
theorem Kp.gr {p : Nat → Prop} {W W' : World} (hp : ∀ b, p b → b < W.heap.size) (h : Gr W W') : Kp p W W' := Kp.below hp h.below
theorem Kp.alloc {p : Nat → Prop} {W : World} (hp : ∀ b, p b → b < W.heap.size) (o : Obj) : Kp p W (W.alloc o) := Kp.gr hp ((Gr.refl _).alloc _)
theorem Kp.set {p : Nat → Prop} {W : World} {a : Addr} (hp : ¬ p a.block) (v : Value) : Kp p W (W.setCell a v) := fun _ hb => Below.heap_setCell _ _ _ _ (fun e => hp (e ▸ hb))
theorem Kp.cell {p : Nat → Prop} {W W' : World} (h : Kp p W W') {b o : Nat} (hb : p b) : W'.cell? ⟨b, o, none⟩ = W.cell? ⟨b, o, none⟩ := by simp only [World.cell?, h b hb]

/-- A block of cells abides. -/
theorem blk_kept {A B : World} {row : Option Nat} {b : Nat} {cs : Array Value} {t : TypeId} {z : Nat × Nat} (h : A.heap[b]? = some (.cells cs t z)) (hg : A.grownBy B row)
    (hr : ∀ r, row = some r → ∃ o : Obj, A.heap[r]? = some o ∧ o.isCells = false) : B.heap[b]? = some (.cells cs t z) :=
  (hg.block b (Array.getElem?_eq_some_iff.1 h).1 (fun e => by obtain ⟨o, ho, hc⟩ := hr b e.symm; rw [h] at ho; cases ho; cases hc)).trans h
theorem blk_own {β : Type} (B b : Nat) (cs : β → Array Value) (t : TypeId) (z : Nat × Nat) : OwnFrom B (fun s (W : World) => W.heap[b]? = some (.cells (cs s) t z)) := fun _ _ _ _ hs hg hr => blk_kept hs hg (fun r e => (hr r e).2)
theorem kp_own {β : Type} {B : Nat} {p : Nat → Prop} {w : World} (hp : ∀ b, p b → b < w.heap.size) (hB : w.heap.size ≤ B) : OwnFrom B (fun (_ : β) W => Kp p w W ∧ w.heap.size ≤ W.heap.size) := fun _ A A' row hs hg hr => by
  refine ⟨fun b hb => ?_, Nat.le_trans hs.2 hg.size⟩
  have h1 := hp b hb
  refine (hg.block b (by omega) (fun e => ?_)).trans (hs.1 b hb)
  have := (hr b e.symm).1
  omega

theorem size_own {β : Type} (B N : Nat) : OwnFrom B (fun (_ : β) (W : World) => N ≤ W.heap.size) := fun _ _ _ _ hs hg _ => Nat.le_trans hs hg.size
theorem Gr.from {W W' : World} (h : Gr W W') (B : Nat) : KeepsFrom B W W' := (KeepsOthers.of_grownBy h.grownBy (fun _ _ e => by cases e)).from B
/-- A point in a block of its own. -/
def PtB (W : World) (b : Nat) (p : Int × Int) : Prop := W.heap[b]? = some (.cells #[.int .i32 p.1, .int .i32 p.2] 28 (0, 0))
theorem PtB.lt {W : World} {b : Nat} {p : Int × Int} (h : PtB W b p) : b < W.heap.size := (Array.getElem?_eq_some_iff.1 h).1
theorem PtB.c0 {W : World} {b : Nat} {p : Int × Int} (h : PtB W b p) : W.cell? ⟨b, 0, none⟩ = some (.int .i32 p.1) := by unfold PtB at h; simp [World.cell?, h]
theorem PtB.c1 {W : World} {b : Nat} {p : Int × Int} (h : PtB W b p) : W.cell? ⟨b, 1, none⟩ = some (.int .i32 p.2) := by unfold PtB at h; simp [World.cell?, h]
theorem PtB.mono {W W' : World} {b B : Nat} {p : Int × Int} (h : PtB W b p) (g : Below B W W') (hb : b < B) : PtB W' b p := by unfold PtB; rw [g.block b hb]; exact h
theorem PtB.gr {W W' : World} {b : Nat} {p : Int × Int} (h : PtB W b p) (g : Gr W W') : PtB W' b p := h.mono g.below h.lt
theorem PtB.alloc {W : World} {b : Nat} {p : Int × Int} (h : PtB W b p) (o : Obj) : PtB (W.alloc o) b p := h.gr ((Gr.refl _).alloc _)
theorem PtB.other {W : World} {b : Nat} {p : Int × Int} (h : PtB W b p) {a : Addr} (ha : b ≠ a.block) (z : Value) : PtB (W.setCell a z) b p := by unfold PtB; rw [Below.heap_setCell _ _ _ _ ha]; exact h
theorem PtB.new (W : World) (p : Int × Int) : PtB (W.alloc (.cells #[.int .i32 p.1, .int .i32 p.2] 28)) W.heap.size p := World.alloc_heap_new W _
theorem PtB.own {β : Type} (B b : Nat) (f : β → Int × Int) : OwnFrom B (fun s (W : World) => PtB W b (f s)) := fun _ _ _ _ hs hg hr => blk_kept hs hg (fun r e => (hr r e).2)

/-- The i-th vertex, round and round. -/
def pAt (l : List (Int × Int)) (i : Nat) : Int × Int := l.getD (i % l.length) (0, 0)
def P32 (p : Int × Int) : Prop := in32 p.1 ∧ in32 p.2
def All32 (l : List (Int × Int)) : Prop := ∀ p ∈ l, P32 p
theorem pAt_32 {l : List (Int × Int)} (h : All32 l) (i : Nat) : P32 (pAt l i) := by
  unfold pAt
  by_cases e : i % l.length < l.length
  · rw [List.getD_eq_getElem?_getD, List.getElem?_eq_getElem e]
    exact h _ (List.getElem_mem e)
  · rw [List.getD_eq_getElem?_getD, List.getElem?_eq_none (by omega)]
    unfold P32 in32; simp
theorem pAt_lt {l : List (Int × Int)} {i : Nat} (h : i < l.length) : pAt l i = l.getD i (0, 0) := by unfold pAt; rw [Nat.mod_eq_of_lt h]

/-- A list of points that a slice reads, in a block of a set. -/
def PtsIn (p : Nat → Prop) (W : World) (ao : Option Addr) (l : List (Int × Int)) : Prop := l = [] ∨ ∃ b off, p b ∧ ao = some ⟨b, off, none⟩ ∧
  ∀ i, i < l.length → W.cell? ⟨b, off + i * 2, none⟩ = some (.int .i32 (l.getD i (0, 0)).1) ∧ W.cell? ⟨b, off + i * 2 + 1, none⟩ = some (.int .i32 (l.getD i (0, 0)).2)
theorem PtsIn.keep {p : Nat → Prop} {W W' : World} {ao : Option Addr} {l : List (Int × Int)} (h : PtsIn p W ao l) (k : Kp p W W') : PtsIn p W' ao l := by
  rcases h with h | ⟨b, off, hb, e, hc⟩
  · exact .inl h
  · exact .inr ⟨b, off, hb, e, fun i hi => by rw [k.cell hb, k.cell hb]; exact hc i hi⟩
theorem PtsIn.of {p : Nat → Prop} {W : World} {ao : Option Addr} {l : List (Int × Int)} (h : Pts W ao l) (hp : ∀ b off, ao = some ⟨b, off, none⟩ → p b) : PtsIn p W ao l := by
  cases l with
  | nil => exact .inl rfl
  | cons x r =>
    obtain ⟨b, off, e, _⟩ := h 0 (by simp)
    refine .inr ⟨b, off, hp b off e, e, fun i hi => ?_⟩
    obtain ⟨b', off', e', h1, h2⟩ := h i hi
    rw [e] at e'
    cases e'
    exact ⟨h1, h2⟩
theorem Pts.block {W : World} {ao : Option Addr} {l : List (Int × Int)} (h : Pts W ao l) (hl : 0 < l.length) : ∃ b off, ao = some ⟨b, off, none⟩ ∧ b < W.heap.size := by
  obtain ⟨b, off, e, h1, _⟩ := h 0 hl
  refine ⟨b, off, e, ?_⟩
  rcases Nat.lt_or_ge b W.heap.size with h' | h'
  · exact h'
  · simp [World.cell?, Array.getElem?_eq_none h'] at h1
theorem PtsIn.at {p : Nat → Prop} {w W : World} {ao : Option Addr} {l : List (Int × Int)} (h : Pts w ao l) (hp : ∀ b, b < w.heap.size → p b) (g : Below w.heap.size w W) : PtsIn p W ao l := by
  by_cases hl : 0 < l.length
  · obtain ⟨b, off, e, hb⟩ := h.block hl
    refine PtsIn.of (h.mono g) (fun b' off' e' => ?_)
    rw [e] at e'
    cases e'
    exact hp b hb
  · exact .inl (List.eq_nil_of_length_eq_zero (by omega))
end
end Go.Proofs.YtgcofpfjdplopaaGreat
