/- Worlds that have grown: draws, and new blocks behind those that were there. Lists of points held against one another: slices.Equal, the reference's samePoints. -/
import Derived.Test.YtgcofpfjdplopaaGreatSg6
import Derived.WalkKit
import Derived.WalkSpells
import Derived.WalkLawsBesides
import Derived.BigCall
import Derived.BigGuard
import Derived.Handy
import Derived.BigQuiet
import Derived.Lib.Hide
import Derived.Shelf.SlSortCmp.QuietGrown
import Derived.Deep.RegionWith
import Derived.Deep.RegionHeld3
import Derived.Deep.DeepCutAuto
import Derived.Deep.CutBlock
import Derived.Deep.LoopGhost
import Derived.OwnWalk
import Derived.WalkMore
import Derived.Laws.CopyOwn
import Derived.Laws.AppendOwnNone
namespace Go.Proofs.YtgcofpfjdplopaaGreat
section
open Go.RowKit Go.Sort

/-- A block of the call's own. -/
def Bl (w : World) (b t : Nat) (vs : Array Value) : Prop := w.heap[b]? = some (.cells vs t (0, 0))
theorem Bl.lt {w : World} {b t : Nat} {vs : Array Value} (h : Bl w b t vs) : b < w.heap.size := lt_of_block h
theorem Bl.cell {w : World} {b t : Nat} {vs : Array Value} (h : Bl w b t vs) {i : Nat} {v : Value} (hv : vs[i]? = some v) : w.cell? ⟨b, i, none⟩ = some v := by unfold Bl at h; simp [World.cell?, h, hv]
theorem Bl.fro {w : World} {b t : Nat} {vs : Array Value} (h : Bl w b t vs) (i : Nat) : w.frozen? ⟨b, i, none⟩ = false := by unfold Bl at h; simp [World.frozen?, h]
theorem Bl.gr {w w' : World} {b t : Nat} {vs : Array Value} (h : Bl w b t vs) (g : Gr w w') : Bl w' b t vs := by
  unfold Bl; rw [g.below.block b h.lt]; exact h
theorem Bl.new (w : World) (t : Nat) (vs : Array Value) : Bl (w.alloc (.cells vs t)) w.heap.size t vs := heap_alloc_new w _
theorem Bl.alloc {w : World} {b t : Nat} {vs : Array Value} (h : Bl w b t vs) (o : Obj) : Bl (w.alloc o) b t vs := by
  unfold Bl; rw [Below.heap_alloc w o b h.lt]; exact h
theorem Bl.drewN {w : World} {b t : Nat} {vs : Array Value} (h : Bl w b t vs) (n : Nat) : Bl (w.drewN n) b t vs := h
theorem Bl.two {w : World} {b t : Nat} {x y : Value} (h : Bl w b t #[x, y]) : w.cell? ⟨b, 0, none⟩ = some x ∧ w.cell? ⟨b, 1, none⟩ = some y ∧ w.frozen? ⟨b, 0, none⟩ = false ∧ w.frozen? ⟨b, 1, none⟩ = false :=
  ⟨h.cell rfl, h.cell rfl, h.fro 0, h.fro 1⟩
theorem Bl.four {w : World} {b t : Nat} {x y z v : Value} (h : Bl w b t #[x, y, z, v]) : (w.cell? ⟨b, 0, none⟩ = some x ∧ w.cell? ⟨b, 1, none⟩ = some y ∧ w.cell? ⟨b, 2, none⟩ = some z ∧ w.cell? ⟨b, 3, none⟩ = some v) ∧ w.frozen? ⟨b, 0, none⟩ = false ∧ w.frozen? ⟨b, 1, none⟩ = false ∧ w.frozen? ⟨b, 2, none⟩ = false ∧ w.frozen? ⟨b, 3, none⟩ = false :=
  ⟨⟨h.cell rfl, h.cell rfl, h.cell rfl, h.cell rfl⟩, h.fro 0, h.fro 1, h.fro 2, h.fro 3⟩

theorem Bl.set2 {w : World} {b t : Nat} {x y : Value} (h : Bl w b t #[x, y]) (v u : Value) : Bl ((w.setCell ⟨b, 0, none⟩ v).setCell ⟨b, 1, none⟩ u) b t #[v, u] := by
  unfold Bl at *
  simp [World.setCell, Array.getElem?_modify, h]
theorem Bl.other {w : World} {b t : Nat} {vs : Array Value} (h : Bl w b t vs) {p : Addr} (hp : p.block ≠ b) (v : Value) : Bl (w.setCell p v) b t vs := by
  unfold Bl at *
  simp [World.setCell, Array.getElem?_modify, hp, h]
theorem Bl.setAt {w : World} {b t : Nat} {vs : Array Value} (h : Bl w b t vs) (i : Nat) (v : Value) : Bl (w.setCell ⟨b, i, none⟩ v) b t (vs.setIfInBounds i v) := by
  unfold Bl at *
  simp [World.setCell, Array.getElem?_modify, h]
theorem Bl.below {w w' : World} {b t : Nat} {vs : Array Value} (h : Bl w b t vs) (g : Below w.heap.size w w') : Bl w' b t vs := by
  unfold Bl; rw [g.block b h.lt]; exact h
theorem run_store_i (k : IntKind) (a : Addr) (x : Int) (m : Mode) (w : World) : (store a (.int k x) m).run Tryz.prog w = stored Tryz.prog w a (.int k x) m := run_store Tryz.prog w a _ m rfl
theorem run_store_s (a : Addr) (p : Option Addr) (l c : Nat) (m : Mode) (w : World) : (store a (.slice p l c) m).run Tryz.prog w = stored Tryz.prog w a (.slice p l c) m := run_store Tryz.prog w a _ m rfl
/-- What the law lays behind a list. -/
def mk7 (n : Nat) : List (Int × Int) := (List.range 7).map fun j => (555, IntKind.i32.wrap ((n + j : Nat) : Int))
theorem mk7_len (n : Nat) : (mk7 n).length = 7 := by simp [mk7]
/-- A list with its marks, in a block of its own. -/
structure Mkd (w : World) (g : Nat) (l : List (Int × Int)) : Prop where
  b : ∃ cur, Bl w g 28 cur ∧ cur.size = (l.length + 7) * 2 ∧ ∀ j, j < l.length + 7 → cur[j * 2]? = some (.int .i32 ((l ++ mk7 l.length).getD j (0, 0)).1) ∧ cur[j * 2 + 1]? = some (.int .i32 ((l ++ mk7 l.length).getD j (0, 0)).2)
theorem Mkd.lt {w : World} {g : Nat} {l : List (Int × Int)} (h : Mkd w g l) : g < w.heap.size := by obtain ⟨cur, k, _⟩ := h.b; exact k.lt
theorem Mkd.below {w w' : World} {g : Nat} {l : List (Int × Int)} (h : Mkd w g l) (k : Below w.heap.size w w') : Mkd w' g l := by
  obtain ⟨cur, b, r⟩ := h.b
  exact ⟨cur, b.below k, r⟩
theorem Mkd.pts {w : World} {g : Nat} {l : List (Int × Int)} (h : Mkd w g l) : Pts w (some ⟨g, 0, none⟩) l := fun i hi => by
  obtain ⟨cur, b, _, r⟩ := h.b
  obtain ⟨r0, r1⟩ := r i (by omega)
  have e : (l ++ mk7 l.length).getD i (0, 0) = l.getD i (0, 0) := by simp [List.getD, List.getElem?_append_left hi]
  rw [e] at r0 r1
  exact ⟨g, 0, rfl, by rw [Nat.zero_add]; exact b.cell r0, by rw [Nat.zero_add]; exact b.cell r1⟩
end
section
set_option linter.unusedSimpArgs false
open Go.RowKit Go.Sort

theorem ext_getD {l m : List (Int × Int)} (hn : l.length = m.length) (h : ∀ j, j < l.length → l.getD j (0, 0) = m.getD j (0, 0)) : l = m := by
  refine List.ext_getElem hn fun i h1 h2 => ?_
  have := h i h1
  simpa [List.getD, h1, h2] using this
theorem pair_cases (p q : Int × Int) : (p = q ∧ p.1 = q.1 ∧ p.2 = q.2) ∨ (p ≠ q ∧ (p.1 == q.1) = true ∧ (p.2 == q.2) = false) ∨ (p ≠ q ∧ (p.1 == q.1) = false) := by
  by_cases h1 : p.1 = q.1
  · by_cases h2 : p.2 = q.2
    · exact .inl ⟨Prod.ext h1 h2, h1, h2⟩
    · exact .inr (.inl ⟨fun e => h2 (by rw [e]), beq_iff_eq.2 h1, beq_eq_false_iff_ne.2 h2⟩)
  · exact .inr (.inr ⟨fun e => h1 (by rw [e]), beq_eq_false_iff_ne.2 h1⟩)

set_option maxRecDepth 20000 in
set_option maxHeartbeats 4000000 in
theorem equal_any (ao bo : Option Addr) (ca cb : Nat) (l m : List (Int × Int)) (w : World) (hl : l.length ≤ 281474976710656) (ha : Pts w ao l) (hb : Pts w bo m) :
    Calls Tryz.prog 50 #[.slice ao l.length ca, .slice bo m.length cb] w fun e w' => e = .returned (.bool (decide (l = m))) ∧ Gr w w' := by
  have HA := hid' ha
  have HB := hid' hb
  clear ha hb
  by_cases hn : l.length = m.length
  · have HT : Hid ((∀ j, j < l.length → l.getD j (0, 0) = m.getD j (0, 0)) → decide (l = m) = true) := fun h => decide_eq_true (ext_getD hn h)
    have HF : Hid (∀ j, j < l.length → l.getD j (0, 0) ≠ m.getD j (0, 0) → decide (l = m) = false) := fun j _ h => decide_eq_false (fun e => h (by rw [e]))
    generalize decide (l = m) = R at *
    have HB' : Hid (∀ i, i < l.length → ∃ b off, bo = some ⟨b, off, none⟩ ∧ w.cell? ⟨b, off + i * 2, none⟩ = some (.int .i32 (m.getD i (0, 0)).1) ∧ w.cell? ⟨b, off + i * 2 + 1, none⟩ = some (.int .i32 (m.getD i (0, 0)).2)) := fun i hi => HB.out i (by omega)
    rw [← hn]
    clear HB
    go_enter Tryz.func50, Tryz.ntmps50
    go_wp2
    go_loopw [13] (fun i wr => ∃ k : Nat, k ≤ l.length ∧ i = .int .i64 k ∧ Hid (∀ j, j < k → l.getD j (0, 0) = m.getD j (0, 0)) ∧ Gr w wr) (fun i _ => l.length - (intOf i).toNat)
    case atStart => exact ⟨0, by omega, rfl, (by intro j hj; omega), Gr.refl _⟩
    case round =>
      obtain ⟨k, hk, rfl, hE, hG⟩ := hrel
      by_cases hlt : k < l.length
      · obtain ⟨b, off, rfl, p0, p1⟩ := HA.out k hlt
        obtain ⟨b2, off2, rfl, q0, q1⟩ := HB'.out k hlt
        replace p0 := below_cell p0 hG.below
        replace p1 := below_cell p1 hG.below
        replace q0 := below_cell q0 hG.below
        replace q1 := below_cell q1 hG.below
        have C := pair_cases (l.getD k (0, 0)) (m.getD k (0, 0))
        have HF' := hid' (HF.out k hlt)
        have HE' : Hid (l.getD k (0, 0) = m.getD k (0, 0) → ∀ j, j < k + 1 → l.getD j (0, 0) = m.getD j (0, 0)) := fun e j hj => by
          by_cases c : j = k
          · subst c; exact e
          · exact hE.out j (by omega)
        clear HF hE
        generalize (l.getD k (0, 0)).1 = X at *
        generalize (l.getD k (0, 0)).2 = Y at *
        generalize (m.getD k (0, 0)).1 = X' at *
        generalize (m.getD k (0, 0)).2 = Y' at *
        rcases C with ⟨e, rfl, rfl⟩ | ⟨e, b1, b2⟩ | ⟨e, b1⟩
        · replace HE' := hid' (HE'.out e)
          clear HF' e
          go_wp2
          go_region
          go_wp2
          go_roundw
          case rel => exact ⟨k + 1, by omega, by go_num, HE', hG.drew⟩
          case measure => simp [intOf]; omega
        all_goals
          have eF := hid' (HF'.out e)
          clear HF' HE' e HT
          go_wp2
          go_region
          go_wp2
          go_ret
          exact ⟨by rw [eF.out]; rfl, hG.drew⟩
      · obtain rfl : k = l.length := by omega
        have eT := hid' (HT.out hE.out)
        clear HT HF
        go_wp2
        go_ret
        exact ⟨by rw [eT.out]; rfl, hG⟩
  · have eF : decide (l = m) = false := decide_eq_false (fun e => hn (by rw [e]))
    rw [eF]
    have hn' : ((l.length : Int) == (m.length : Int)) = false := beq_eq_false_iff_ne.2 (by omega)
    clear HA HB eF
    go_enter Tryz.func50, Tryz.ntmps50
    go_wp2
    go_ret
    exact ⟨rfl, Gr.refl _⟩

set_option maxRecDepth 20000 in
set_option maxHeartbeats 4000000 in
theorem rsame_any (ao bo : Option Addr) (ca cb : Nat) (l m : List (Int × Int)) (w : World) (hl : l.length ≤ 281474976710656) (ha : Pts w ao l) (hb : Pts w bo m) :
    Calls Tryz.prog 52 #[.slice ao l.length ca, .slice bo m.length cb] w fun e w' => e = .returned (.bool (decide (l = m))) ∧ Gr w w' := by
  have HA := hid' ha
  have HB := hid' hb
  clear ha hb
  by_cases hn : l.length = m.length
  · have HT : Hid ((∀ j, j < l.length → l.getD j (0, 0) = m.getD j (0, 0)) → decide (l = m) = true) := fun h => decide_eq_true (ext_getD hn h)
    have HF : Hid (∀ j, j < l.length → l.getD j (0, 0) ≠ m.getD j (0, 0) → decide (l = m) = false) := fun j _ h => decide_eq_false (fun e => h (by rw [e]))
    generalize decide (l = m) = R at *
    have HB' : Hid (∀ i, i < l.length → ∃ b off, bo = some ⟨b, off, none⟩ ∧ w.cell? ⟨b, off + i * 2, none⟩ = some (.int .i32 (m.getD i (0, 0)).1) ∧ w.cell? ⟨b, off + i * 2 + 1, none⟩ = some (.int .i32 (m.getD i (0, 0)).2)) := fun i hi => HB.out i (by omega)
    rw [← hn]
    clear HB
    go_enter Tryz.func52, Tryz.ntmps52
    go_wp2
    go_loopw [5] (fun i wr => ∃ k : Nat, k ≤ l.length ∧ i = .int .i64 k ∧ Hid (∀ j, j < k → l.getD j (0, 0) = m.getD j (0, 0)) ∧ Gr w wr) (fun i _ => l.length - (intOf i).toNat)
    case atStart => exact ⟨0, by omega, rfl, (by intro j hj; omega), Gr.refl _⟩
    case round =>
      obtain ⟨k, hk, rfl, hE, hG⟩ := hrel
      by_cases hlt : k < l.length
      · obtain ⟨b, off, rfl, p0, p1⟩ := HA.out k hlt
        obtain ⟨b2, off2, rfl, q0, q1⟩ := HB'.out k hlt
        replace p0 := below_cell p0 hG.below
        replace p1 := below_cell p1 hG.below
        replace q0 := below_cell q0 hG.below
        replace q1 := below_cell q1 hG.below
        have C := pair_cases (l.getD k (0, 0)) (m.getD k (0, 0))
        have HF' := hid' (HF.out k hlt)
        have HE' : Hid (l.getD k (0, 0) = m.getD k (0, 0) → ∀ j, j < k + 1 → l.getD j (0, 0) = m.getD j (0, 0)) := fun e j hj => by
          by_cases c : j = k
          · subst c; exact e
          · exact hE.out j (by omega)
        clear HF hE
        generalize (l.getD k (0, 0)).1 = X at *
        generalize (l.getD k (0, 0)).2 = Y at *
        generalize (m.getD k (0, 0)).1 = X' at *
        generalize (m.getD k (0, 0)).2 = Y' at *
        rcases C with ⟨e, rfl, rfl⟩ | ⟨e, b1, b2⟩ | ⟨e, b1⟩
        · replace HE' := hid' (HE'.out e)
          clear HF' e
          go_wp2
          go_region
          go_wp2
          go_roundw
          case rel => exact ⟨k + 1, by omega, by go_num, HE', hG.drew⟩
          case measure => simp [intOf]; omega
        all_goals
          have eF := hid' (HF'.out e)
          clear HF' HE' e HT
          go_wp2
          go_region
          go_wp2
          go_ret
          exact ⟨by rw [eF.out]; rfl, hG.drew⟩
      · obtain rfl : k = l.length := by omega
        have eT := hid' (HT.out hE.out)
        clear HT HF
        go_wp2
        go_ret
        exact ⟨by rw [eT.out]; rfl, hG⟩
  · have eF : decide (l = m) = false := decide_eq_false (fun e => hn (by rw [e]))
    rw [eF]
    have hn' : ((l.length : Int) == (m.length : Int)) = false := beq_eq_false_iff_ne.2 (by omega)
    clear HA HB eF
    go_enter Tryz.func52, Tryz.ntmps52
    go_wp2
    go_ret
    exact ⟨rfl, Gr.refl _⟩
end
end Go.Proofs.YtgcofpfjdplopaaGreat
