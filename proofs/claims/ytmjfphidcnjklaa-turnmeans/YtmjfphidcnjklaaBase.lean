/- Worlds that have grown: draws, and new blocks behind those that were there. -/
import Derived.Test.YtmjfphidcnjklaaProg
import Derived.WalkKit
import Derived.WalkSpells
import Derived.WalkLawsBesides
import Derived.BigCall
import Derived.BigGuard
import Derived.Handy
import Derived.BigQuiet
import Derived.Lib.Hide
import Derived.Shelf.SlSortCmp.QuietGrown
import Derived.Deep.RegionWith
import Derived.Deep.RegionHeld3
import Derived.Deep.DeepCutAuto
import Derived.Deep.CutBlock
import Derived.Deep.LoopGhost
namespace Go.Proofs.Ytmjfphidcnjklaa
open Go.RowKit Go.Sort

/-- w' is w after some draws, with some blocks laid behind it. -/
def Gr (w w' : World) : Prop := ∃ q os, w' = grow (w.drewN q) os
theorem Gr.refl (w : World) : Gr w w := ⟨0, #[], by simp [World.drewN_zero]⟩
theorem Gr.alloc {w w' : World} (h : Gr w w') (o : Obj) : Gr w (w'.alloc o) := by
  obtain ⟨q, os, rfl⟩ := h
  exact ⟨q, os ++ #[o], by rw [alloc_eq_grow, grow_grow]⟩
theorem Gr.drew {w w' : World} (h : Gr w w') : Gr w w'.drew := by
  obtain ⟨q, os, rfl⟩ := h
  exact ⟨q + 1, os, rfl⟩
theorem Gr.drewN {w w' : World} (h : Gr w w') (n : Nat) : Gr w (w'.drewN n) := by
  obtain ⟨q, os, rfl⟩ := h
  exact ⟨q + n, os, by show grow ((w.drewN q).drewN n) os = _; rw [World.drewN_drewN]⟩
theorem Gr.trans {a b c : World} (h : Gr a b) (k : Gr b c) : Gr a c := by
  obtain ⟨q, os, rfl⟩ := h
  obtain ⟨q', os', rfl⟩ := k
  exact ⟨q + q', os ++ os', by show grow (grow ((a.drewN q).drewN q') os) os' = _; rw [grow_grow, World.drewN_drewN]⟩
theorem Gr.setCell {w w' : World} (h : Gr w w') {p : Addr} (hp : w.heap.size ≤ p.block) (v : Value) : Gr w (w'.setCell p v) := by
  obtain ⟨q, os, rfl⟩ := h
  have e : ∀ f : Obj → Obj, ({ grow (w.drewN q) os with heap := (grow (w.drewN q) os).heap.modify p.block f } : World) = grow (w.drewN q) (os.modify (p.block - w.heap.size) f) := fun f => by
    show ({ w.drewN q with heap := (w.heap ++ os).modify p.block f } : World) = { w.drewN q with heap := w.heap ++ os.modify (p.block - w.heap.size) f }
    rw [modify_append_right _ _ _ _ hp]
  exact ⟨q, _, e _⟩
theorem Gr.below {w w' : World} (h : Gr w w') : Below w.heap.size w w' := by
  obtain ⟨q, os, rfl⟩ := h
  exact ⟨rfl, rfl, rfl, by simp, fun k hk => by simpa using heap_grow_old (w.drewN q) os hk⟩
theorem Gr.size {w w' : World} (h : Gr w w') : w.heap.size ≤ w'.heap.size := h.below.size
theorem Gr.cells {w w' : World} (h : Gr w w') : (∀ b o, b < w.heap.size → w'.cell? ⟨b, o, none⟩ = w.cell? ⟨b, o, none⟩) ∧ (∀ b o, b < w.heap.size → w'.frozen? ⟨b, o, none⟩ = w.frozen? ⟨b, o, none⟩) :=
  ⟨fun b o h' => h.below.cell (p := ⟨b, o, none⟩) h', fun b o h' => h.below.frozen (p := ⟨b, o, none⟩) h'⟩


theorem run_store_f (a : Addr) (x : Nat) (m : Mode) (w : World) : (store a (.float .f64 x) m).run Try.prog w = stored Try.prog w a (.float .f64 x) m := run_store Try.prog w a _ m rfl
theorem hid' {p : Prop} (h : p) : Hid p := h
theorem below_cell {w w' : World} {a : Addr} {v : Value} (h : w.cell? a = some v) (g : Below w.heap.size w w') : w'.cell? a = some v :=
  (g.cell (World.block_lt_of_cell? w a h)).trans h
/-- A block of three cells. -/
def T3 (w : World) (t b : Nat) (x y z : Value) : Prop := w.heap[b]? = some (.cells #[x, y, z] t (0, 0))
theorem T3.lt {w : World} {t b : Nat} {x y z : Value} (h : T3 w t b x y z) : b < w.heap.size := lt_of_block h
theorem T3.c0 {w : World} {t b : Nat} {x y z : Value} (h : T3 w t b x y z) : w.cell? ⟨b, 0, none⟩ = some x := by unfold T3 at h; simp [World.cell?, h]
theorem T3.c1 {w : World} {t b : Nat} {x y z : Value} (h : T3 w t b x y z) : w.cell? ⟨b, 1, none⟩ = some y := by unfold T3 at h; simp [World.cell?, h]
theorem T3.c2 {w : World} {t b : Nat} {x y z : Value} (h : T3 w t b x y z) : w.cell? ⟨b, 2, none⟩ = some z := by unfold T3 at h; simp [World.cell?, h]
theorem T3.f (o : Nat) {w : World} {t b : Nat} {x y z : Value} (h : T3 w t b x y z) : w.frozen? ⟨b, o, none⟩ = false := by unfold T3 at h; simp [World.frozen?, h]
theorem T3.set0 {w : World} {t b : Nat} {x y z : Value} (h : T3 w t b x y z) (v : Value) : T3 (w.setCell ⟨b, 0, none⟩ v) t b v y z := by
  have hb := h.lt
  unfold T3 at *
  simp [World.setCell, Array.getElem?_modify, h]
theorem T3.set1 {w : World} {t b : Nat} {x y z : Value} (h : T3 w t b x y z) (v : Value) : T3 (w.setCell ⟨b, 1, none⟩ v) t b x v z := by
  have hb := h.lt
  unfold T3 at *
  simp [World.setCell, Array.getElem?_modify, h]
theorem T3.set2 {w : World} {t b : Nat} {x y z : Value} (h : T3 w t b x y z) (v : Value) : T3 (w.setCell ⟨b, 2, none⟩ v) t b x y v := by
  have hb := h.lt
  unfold T3 at *
  simp [World.setCell, Array.getElem?_modify, h]
theorem T3.other {w : World} {t b : Nat} {x y z : Value} (h : T3 w t b x y z) {p : Addr} (hp : b ≠ p.block) (v : Value) : T3 (w.setCell p v) t b x y z := by
  unfold T3 at *
  simp [World.setCell, Array.getElem?_modify, Ne.symm hp, h]
theorem T3.mono {w w' : World} {t b B : Nat} {x y z : Value} (h : T3 w t b x y z) (g : Below B w w') (hb : b < B) : T3 w' t b x y z := by
  unfold T3; rw [g.block b hb]; exact h
theorem T3.new (w : World) (t : Nat) (x y z : Value) : T3 (w.alloc (.cells #[x, y, z] t)) t w.heap.size x y z := heap_alloc_new w _
theorem T3.alloc {w : World} {t b : Nat} {x y z : Value} (h : T3 w t b x y z) (o : Obj) : T3 (w.alloc o) t b x y z := by
  unfold T3; rw [Below.heap_alloc w o b h.lt]; exact h
end Go.Proofs.Ytmjfphidcnjklaa
