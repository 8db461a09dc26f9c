/- What the law's own 'twin' has in memory on its way. -/
import Derived.Test.YtgcofpfjdplopaaGreatPk
import Derived.Test.YtgcofpfjdplopaaGreatSm9
set_option linter.unusedSimpArgs false
namespace Go.Proofs.YtgcofpfjdplopaaGreat
open Go.RowKit Go.Sort

theorem Bl.ne_row {w : World} {b t base e s n : Nat} {vs : Array Value} {v : Value} {xs : List Value} (h : Bl w b t vs) (hr : w.ownsRow base e s v n xs) (hne : t ≠ e) : some b ≠ v.ownBlock := by
  rcases hr.2 with ⟨rfl, _⟩ | ⟨g, cap, cur, rfl, _, hg, _⟩
  · simp [Value.ownBlock]
  · intro q
    simp only [Value.ownBlock, Option.some.injEq] at q
    subst q
    unfold Bl at h
    rw [h] at hg
    simp only [Option.some.injEq, Obj.cells.injEq] at hg
    exact hne hg.2.1
theorem Bl.grown {w w' : World} {b t : Nat} {vs : Array Value} {row : Option Nat} (h : Bl w b t vs) (g : w.grownBy w' row) (hn : some b ≠ row) : Bl w' b t vs := by
  unfold Bl; rw [g.block b h.lt hn]; exact h
theorem Mkd.grown {w w' : World} {g : Nat} {l : List (Int × Int)} {row : Option Nat} (h : Mkd w g l) (k : w.grownBy w' row) (hn : some g ≠ row) : Mkd w' g l := by
  obtain ⟨cur, b, r⟩ := h.b
  exact ⟨cur, b.grown k hn, r⟩
theorem Mkd.ne_row {w : World} {g : Nat} {l : List (Int × Int)} (h : Mkd w g l) {base s n : Nat} {v : Value} {xs : List Value} (hr : w.ownsRow base 23 s v n xs) : some g ≠ v.ownBlock := by
  obtain ⟨cur, b, r⟩ := h.b
  exact b.ne_row hr (by decide)
theorem Mkd.other {w : World} {g : Nat} {l : List (Int × Int)} (h : Mkd w g l) {p : Addr} (hp : p.block ≠ g) (u : Value) : Mkd (w.setCell p u) g l := by
  obtain ⟨cur, b, r⟩ := h.b
  exact ⟨cur, b.other hp u, r⟩
theorem Mkd.ne_bl {w : World} {g : Nat} {l : List (Int × Int)} (h : Mkd w g l) {b : Nat} {vs : Array Value} (k : Bl w b 26 vs) : b ≠ g := by
  obtain ⟨cur, b', r⟩ := h.b
  intro e
  subst e
  unfold Bl at k b'
  rw [k] at b'
  simp at b'
theorem grown_set (w : World) (p : Addr) (u : Value) : w.grownBy (w.setCell p u) (some p.block) :=
  ⟨rfl, rfl, rfl, by simp [World.setCell], fun k _ hne => by
    have : p.block ≠ k := fun e => hne (by rw [e])
    simp [World.setCell, Array.getElem?_modify, this]⟩
theorem below_grown {w w' : World} (h : Below w.heap.size w w') : w.grownBy w' none := ⟨h.os, h.tape, h.output, h.size, fun k hk _ => h.block k hk⟩
theorem row_below {B : Nat} {e : TypeId} {k : Nat} {v : Value} {n : Nat} {xs : List Value} {w w' : World} (h : w.ownsRow B e k v n xs) (hb : Below w.heap.size w w') : w'.ownsRow B e k v n xs :=
  h.kept (below_grown hb) (by cases v.ownBlock <;> simp)
theorem undrew {w w' : World} {r : Option Nat} (h : w.drew.grownBy w' r) : w.grownBy w' r := ⟨h.os, h.tape, h.output, h.size, h.block⟩
abbrev zeroC : Array Value := #[.int .u8 0, .slice none 0 0, .slice none 0 0, .int .i32 0]
/-- A hole that was made: its marks are behind it. -/
def Made (w : World) (h : Hole) (l : List (Int × Int)) : Prop := ∃ g, h = (some ⟨g, 0, none⟩, l.length + 7, l) ∧ Mkd w g l
structure TwI (W : World) (k s : Int) (v : Hole) (ho : Option Addr) (hc g b3 : Nat) (H H' : List Hole) (s3 : Value) (w : World) : Prop where
  a : Bl w W.heap.size 26 (shC k v ho H.length hc s)
  r : Bl w (W.heap.size + 1) 26 zeroC
  o : Bl w b3 26 #[.int .u8 k, .slice (some ⟨g, 0, none⟩) v.2.2.length (v.2.2.length + 7), s3, .int .i32 s]
  row : w.ownsRow W.heap.size 23 1 s3 H'.length (H'.map hv)
  m : Mkd w g v.2.2
  hm : ∀ i, i < H'.length → Made w (hAt H' i) (hAt H i).2.2
  c : Below W.heap.size W w
  l : W.heap.size + 1 < b3
theorem TwI.size {W w : World} {k s : Int} {v : Hole} {ho : Option Addr} {hc g b3 : Nat} {H H' : List Hole} {s3 : Value} (h : TwI W k s v ho hc g b3 H H' s3 w) : W.heap.size ≤ w.heap.size := h.c.size
theorem TwI.below {W w w' : World} {k s : Int} {v : Hole} {ho : Option Addr} {hc g b3 : Nat} {H H' : List Hole} {s3 : Value} (h : TwI W k s v ho hc g b3 H H' s3 w) (q : Below w.heap.size w w') : TwI W k s v ho hc g b3 H H' s3 w' :=
  ⟨h.a.below q, h.r.below q, h.o.below q, row_below h.row q, h.m.below q, fun i hi => by obtain ⟨gi, e, m⟩ := h.hm i hi; exact ⟨gi, e, m.below q⟩, h.c.trans (q.mono h.size), h.l⟩
theorem hAt_app (H' : List Hole) (x : Hole) {i : Nat} (hi : i < H'.length) : hAt (H' ++ [x]) i = hAt H' i := by unfold hAt; simp [List.getD, List.getElem?_append_left hi]
theorem hAt_last (H' : List Hole) (x : Hole) : hAt (H' ++ [x]) H'.length = x := by unfold hAt; simp [List.getD]
/-- One hole more, and the slice stored. -/
theorem TwI.push {W w w' : World} {k s : Int} {v : Hole} {ho : Option Addr} {hc g b3 : Nat} {H H' : List Hole} {s3 sv : Value} {x : Hole} (h : TwI W k s v ho hc g b3 H H' s3 w) (hx : Made w x (hAt H H'.length).2.2)
    (hg : (w.alloc (.cells #[hv x] 23)).grownBy w' s3.ownBlock) (hr : w'.ownsRow W.heap.size 23 1 sv (H'.length + 1) (H'.map hv ++ [hv x])) : TwI W k s v ho hc g b3 H (H' ++ [x]) sv (w'.setCell ⟨b3, 2, none⟩ sv) := by
  have hl := h.l
  have q : Below w.heap.size w (w.alloc (.cells #[hv x] 23)) := (Below.refl _ _).alloc (Nat.le_refl _) _
  have t := h.below q
  obtain ⟨gx, ex, mx⟩ := hx
  replace mx := mx.below q
  have n1 := t.a.ne_row t.row (by decide)
  have n2 := t.r.ne_row t.row (by decide)
  have n3 := t.o.ne_row t.row (by decide)
  have n4 := t.m.ne_row t.row
  have n5 := mx.ne_row t.row
  have o' := t.o.grown hg n3
  have ob : some b3 ≠ sv.ownBlock := o'.ne_row hr (by decide)
  have C : Below W.heap.size W w' := t.c.grown hg t.size (fun j hj => (t.row.lt j hj).1)
  have m' := t.m.grown hg n4
  have mx' := mx.grown hg n5
  refine ⟨(t.a.grown hg n1).other (by simp only []; omega) _, (t.r.grown hg n2).other (by simp only []; omega) _, ?_, ?_, m'.other (m'.ne_bl o') _, fun i hi => ?_, C.setCell (by simp only []; omega) _, hl⟩
  · have := o'.setAt 2 sv
    simpa using this
  · rw [List.length_append, List.map_append]
    refine World.ownsRow.kept hr (grown_set _ _ _) ?_
    cases e : sv.ownBlock with
    | none => exact .inl rfl
    | some j => exact .inr (fun e2 => ob (by rw [e, e2]))
  · by_cases c : i < H'.length
    · rw [hAt_app H' _ c]
      obtain ⟨gi, e, m⟩ := t.hm i c
      have mi := m.grown hg (m.ne_row t.row)
      exact ⟨gi, e, mi.other (mi.ne_bl o') _⟩
    · have e : i = H'.length := by simp at hi; omega
      subst e
      rw [hAt_last]
      exact ⟨gx, ex, mx'.other (mx'.ne_bl o') _⟩
end Go.Proofs.YtgcofpfjdplopaaGreat
