/- What the law's steps keep: the frames of the rings' changes. -/
import Derived.Test.YtodlhclaboofiaaDoorBo
import Derived.Test.YtodlhclaboofiaaDoorTl
set_option linter.unusedSimpArgs false
set_option linter.unusedVariables false
namespace Go.Proofs.YtodlhclaboofiaaDoor
open Go.RowKit Go.Sort

/-- The blocks of the three rings. -/
abbrev p5 (T1 B1 T2 B2 R : Nat) : Nat → Prop := fun k => k = T1 ∨ k = B1 ∨ k = T2 ∨ k = B2 ∨ k = R
def Vals (L : List Int) : Prop := ∀ (i : Nat) (x : Int), L[i]? = some x → in64 x
section
variable {w w' : World} {T1 B1 T2 B2 R : Nat} {s1 s2 s3 : RS} {v : Value} {L : List Int}
theorem s_R (h : sIs w T1 B1 s1) (r : RefIs w R s3 v L) (g : Chg (fun k => k = R) w w') : sIs w' T1 B1 s1 := h.chg g (bk_ne h.blk r.blk (by decide)) (bk_ne h.pls r.blk (by decide))
theorem p_R (h : pIs w T2 B2 s2) (r : RefIs w R s3 v L) (g : Chg (fun k => k = R) w w') : pIs w' T2 B2 s2 := h.chg g (bk_ne h.blk r.blk (by decide)) (bk_ne h.pls r.blk (by decide))
theorem p_S (h : pIs w T2 B2 s2) (k : sIs w T1 B1 s1) (g : Chg (tw T1 B1) w w') : pIs w' T2 B2 s2 :=
  h.chg g (fun e => e.elim (bk_ne h.blk k.blk (by decide)) (bk_ne h.blk k.pls (by decide))) (fun e => e.elim (bk_ne h.pls k.blk (by decide)) (bk_ne h.pls k.pls (by decide)))
theorem s_P (h : sIs w T1 B1 s1) (k : pIs w T2 B2 s2) (g : Chg (tw T2 B2) w w') : sIs w' T1 B1 s1 :=
  h.chg g (fun e => e.elim (bk_ne h.blk k.blk (by decide)) (bk_ne h.blk k.pls (by decide))) (fun e => e.elim (bk_ne h.pls k.blk (by decide)) (bk_ne h.pls k.pls (by decide)))
theorem blk3 {b : Nat} {t : TypeId} {l : List Value} {cur : Array Value} (h : Bk w b t l) (ht : t ≠ 3) : w.heap[b]? ≠ some (.cells cur 3 (0, 0)) := fun e => by
  unfold Bk at h
  rw [h] at e
  cases e
  exact ht rfl
theorem r_S (h : RefIs w R s3 v L) (k : sIs w T1 B1 s1) (g : Chg (tw T1 B1) w w') : RefIs w' R s3 v L :=
  ⟨h.blk.chg g (fun e => e.elim (bk_ne h.blk k.blk (by decide)) (bk_ne h.blk k.pls (by decide))), h.lst.chg g (fun b cur hb => hb.elim (fun e => by rw [e]; exact blk3 k.blk (by decide)) (fun e => by rw [e]; exact blk3 k.pls (by decide)))⟩
theorem r_P (h : RefIs w R s3 v L) (k : pIs w T2 B2 s2) (g : Chg (tw T2 B2) w w') : RefIs w' R s3 v L :=
  ⟨h.blk.chg g (fun e => e.elim (bk_ne h.blk k.blk (by decide)) (bk_ne h.blk k.pls (by decide))), h.lst.chg g (fun b cur hb => hb.elim (fun e => by rw [e]; exact blk3 k.blk (by decide)) (fun e => by rw [e]; exact blk3 k.pls (by decide)))⟩
theorem Chg.wR (g : Chg (fun k => k = R) w w') : Chg (p5 T1 B1 T2 B2 R) w w' := g.wide (fun k _ h => .inr (.inr (.inr (.inr h))))
theorem Chg.wS (g : Chg (tw T1 B1) w w') : Chg (p5 T1 B1 T2 B2 R) w w' := g.wide (fun k _ h => h.elim .inl (fun h => .inr (.inl h)))
theorem Chg.wP (g : Chg (tw T2 B2) w w') : Chg (p5 T1 B1 T2 B2 R) w w' := g.wide (fun k _ h => h.elim (fun h => .inr (.inr (.inl h))) (fun h => .inr (.inr (.inr (.inl h)))))
theorem Chg.w1 (g : Chg (fun k => k = T1) w w') : Chg (tw T1 B1) w w' := g.wide (fun k _ h => .inl h)
end
/-- A variable of Go's library is no ring's block. -/
theorem Tab.chg {p : Nat → Prop} {w w' : World} (h : Tab w) (g : Chg p w w') (hp : ∀ b, p b → ∀ i, Tryd.prog.globalNamed "internal/strconv.uint64pow10" = some i → b ≠ i) : Tab w' := by
  unfold Tab Lib.TabIs World.var? at *
  cases hg : Tryd.prog.globalNamed "internal/strconv.uint64pow10" with
  | none => simp [hg] at h
  | some i =>
    simp only [hg, Option.bind_some] at h ⊢
    have hlt : i < w.heap.size := by
      rcases Nat.lt_or_ge i w.heap.size with h' | h'
      · exact h'
      · rw [Array.getElem?_eq_none h'] at h; simp at h
    rw [g.block i hlt (fun hb => hp i hb i hg rfl)]
    exact h
/-- What stands between two of the law's steps; all is above the law's own beginning. -/
structure St5 (w0 w : World) (T1 B1 T2 B2 R : Nat) (s1 s2 s3 : RS) (v : Value) (L : List Int) : Prop where
  tri : Tri w T1 B1 T2 B2 R s1 s2 s3 v L
  vals : Vals L
  tab0 : Tab w0
  bel : Below w0.heap.size w0 w
  lo : w0.heap.size ≤ T1 ∧ w0.heap.size ≤ B1 ∧ w0.heap.size ≤ T2 ∧ w0.heap.size ≤ B2 ∧ w0.heap.size ≤ R
theorem St5.tab {w0 w : World} {T1 B1 T2 B2 R : Nat} {s1 s2 s3 : RS} {v : Value} {L : List Int} (h : St5 w0 w T1 B1 T2 B2 R s1 s2 s3 v L) : Tab w := h.tab0.below h.bel
/-- What a step leaves. -/
def DoesOk (w0 w : World) (T1 B1 T2 B2 R : Nat) (s1 : RS) (w' : World) : Prop := ∃ s1' s2' s3' v' L', St5 w0 w' T1 B1 T2 B2 R s1' s2' s3' v' L' ∧ s1'.rf ≤ s1.rf + 1 ∧ Chg (p5 T1 B1 T2 B2 R) w w'
abbrev stL (kd on vv i : Int) : List Value := [.int .i64 kd, .int .i64 on, .int .i64 vv, .int .i64 i]
abbrev stV (kd on vv i : Int) : Value := .agg #[.int .i64 kd, .int .i64 on, .int .i64 vv, .int .i64 i]
/-- The frame of does: the step's block, the pair's block, the world's change. -/
structure Fr (w0 w W : World) (T1 B1 T2 B2 R : Nat) (b7 b10 : Nat) (l : List Value) (a c : Value) : Prop where
  k7 : Bk W b7 43 l
  k10 : Bk W b10 38 [a, c]
  ch : Chg (p5 T1 B1 T2 B2 R) w W
  bel : Below w0.heap.size w0 W
  hi : w.heap.size ≤ b7 ∧ w.heap.size ≤ b10
  lt : T1 < w.heap.size ∧ B1 < w.heap.size ∧ T2 < w.heap.size ∧ B2 < w.heap.size ∧ R < w.heap.size
  lo : w0.heap.size ≤ T1 ∧ w0.heap.size ≤ B1 ∧ w0.heap.size ≤ T2 ∧ w0.heap.size ≤ B2 ∧ w0.heap.size ≤ R
section
variable {w0 w W W' : World} {T1 B1 T2 B2 R b7 b10 : Nat} {l : List Value} {a c : Value}
theorem Fr.chg (h : Fr w0 w W T1 B1 T2 B2 R b7 b10 l a c) (g : Chg (p5 T1 B1 T2 B2 R) W W') : Fr w0 w W' T1 B1 T2 B2 R b7 b10 l a c := by
  have h1 := h.hi
  have h2 := h.lt
  have h3 := h.lo
  have hs := h.bel.size
  refine ⟨h.k7.chg g ?_, h.k10.chg g ?_, h.ch.trans g, h.bel.trans (g.below hs ?_), h.hi, h.lt, h.lo⟩
  · rintro (e | e | e | e | e) <;> omega
  · rintro (e | e | e | e | e) <;> omega
  · rintro k (e | e | e | e | e) <;> omega
theorem Fr.gr (h : Fr w0 w W T1 B1 T2 B2 R b7 b10 l a c) (g : Gr W W') : Fr w0 w W' T1 B1 T2 B2 R b7 b10 l a c := h.chg (.of_gr g)
theorem Fr.tab (h : Fr w0 w W T1 B1 T2 B2 R b7 b10 l a c) (t : Tab w0) : Tab W := t.below h.bel
/-- The pair laid into its block. -/
theorem Fr.pair (h : Fr w0 w W T1 B1 T2 B2 R b7 b10 l a c) (x y : Value) : Fr w0 w ((W.setCell ⟨b10, 0, none⟩ x).setCell ⟨b10, 1, none⟩ y) T1 B1 T2 B2 R b7 b10 l x y := by
  have h1 := h.hi
  have h2 := h.lt
  have h3 := h.lo
  have hs := h.bel.size
  have hne : b7 ≠ b10 := bk_ne h.k7 h.k10 (by decide)
  have kk := (h.k10.set 0 x).set 1 y
  simp only [List.set_cons_zero, List.set_cons_succ] at kk
  refine ⟨(h.k7.other (a := ⟨b10, 0, none⟩) hne _).other (a := ⟨b10, 1, none⟩) hne _, kk, (h.ch.setNew (x := ⟨b10, 0, none⟩) h1.2 _).setNew (x := ⟨b10, 1, none⟩) h1.2 _, (h.bel.setCell (p := ⟨b10, 0, none⟩) (by show w0.heap.size ≤ b10; omega) x).setCell (p := ⟨b10, 1, none⟩) (by show w0.heap.size ≤ b10; omega) y, h.hi, h.lt, h.lo⟩
end
/-- The rings are not touched when the pair is laid. -/
theorem Tri.pair {w0 w W : World} {T1 B1 T2 B2 R b7 b10 : Nat} {l : List Value} {a c : Value} {s1 s2 s3 : RS} {v : Value} {L : List Int} (f : Fr w0 w W T1 B1 T2 B2 R b7 b10 l a c) (x y : Value) :
    (sIs W T1 B1 s1 → sIs ((W.setCell ⟨b10, 0, none⟩ x).setCell ⟨b10, 1, none⟩ y) T1 B1 s1) ∧ (pIs W T2 B2 s2 → pIs ((W.setCell ⟨b10, 0, none⟩ x).setCell ⟨b10, 1, none⟩ y) T2 B2 s2) ∧ (RefIs W R s3 v L → RefIs ((W.setCell ⟨b10, 0, none⟩ x).setCell ⟨b10, 1, none⟩ y) R s3 v L) := by
  have h1 := f.hi
  have h2 := f.lt
  have o : ∀ {b t l}, b ≠ b10 → Bk W b t l → Bk ((W.setCell ⟨b10, 0, none⟩ x).setCell ⟨b10, 1, none⟩ y) b t l := fun hb k => (k.other (a := ⟨b10, 0, none⟩) hb _).other (a := ⟨b10, 1, none⟩) hb _
  refine ⟨fun h => ⟨o (by omega) h.blk, o (by omega) h.pls, h.ne⟩, fun h => ⟨o (by omega) h.blk, o (by omega) h.pls, h.ne⟩, fun h => ⟨o (by omega) h.blk, ?_⟩⟩
  have := h.lst.set (a := ⟨b10, 0, none⟩) f.k10 (by decide) x
  exact this.set (a := ⟨b10, 1, none⟩) (f.k10.set 0 x) (by decide) y
end Go.Proofs.YtodlhclaboofiaaDoor
