/- What a walk of a Tree leaves alone: the Tree, the reference; fresh walks and rows. -/
import Derived.Test.YtpikhdfndnpidaaLt
set_option linter.unusedSimpArgs false
set_option linter.unusedVariables false
namespace Go.Proofs.Ytpikhdfndnpidaa
open Go.RowKit Go.Sort Go.Shelf

/-- All cells of A stay. -/
def Calm (A A' : World) : Prop := A.heap.size ≤ A'.heap.size ∧ ∀ (b : Nat) (o : Obj), A.heap[b]? = some o → o.isCells = true → A'.heap[b]? = some o
theorem Calm.own {A A' : World} {row : Option Nat} (hg : A.grownBy A' row) (hr : ∀ r, row = some r → ∃ o : Obj, A.heap[r]? = some o ∧ o.isCells = false) : Calm A A' := by
  refine ⟨hg.size, fun b o hb hc => ?_⟩
  rw [hg.block b (lt_of_block hb) (fun e => ?_)]
  · exact hb
  · obtain ⟨o', ho, hc'⟩ := hr b e.symm
    rw [hb] at ho
    cases ho
    rw [hc] at hc'
    cases hc'
theorem Bk.calm {A A' : World} {b : Nat} {t : TypeId} {l : List Value} (h : Bk A b t l) (c : Calm A A') : Bk A' b t l := c.2 b _ h rfl
theorem row_calm {A A' : World} {base e s n : Nat} {v : Value} {xs : List Value} (h : A.ownsRow base e s v n xs) (c : Calm A A') : A'.ownsRow base e s v n xs := by
  rcases h.2 with ⟨e1, h0⟩ | ⟨g1, cap, cur, e1, hb1, hc, hr⟩
  · exact ⟨h.1, .inl ⟨e1, h0⟩⟩
  · exact ⟨h.1, .inr ⟨g1, cap, cur, e1, hb1, c.2 _ _ hc rfl, hr⟩⟩
theorem RefIs.calm {A A' : World} {base R : Nat} {l : List E} (h : RefIs A base R l) (c : Calm A A') : RefIs A' base R l := by
  obtain ⟨hb, iv, bw, k, h1, h2⟩ := h
  exact ⟨hb, iv, bw, k.calm c, row_calm h1 c, row_calm h2 c⟩
theorem TreeIs.calm {A A' : World} {T : Nat} {t : At} (h : TreeIs A T t) (c : Calm A A') : TreeIs A' T t :=
  ⟨h.blk.calm c, h.tr.nk (fun b m hb => hb.calm c), h.srt, h.bal, h.rg, h.few⟩
theorem Pair.calm {base : Nat} {A A' : World} {T R : Nat} {t : At} (h : Pair base A T R t) (c : Calm A A') : Pair base A' T R t :=
  ⟨h.one.calm c, h.ref.calm c, h.lo, Nat.le_trans h.sz c.1⟩
theorem RefB.back {A A' : World} {base R k : Nat} {l : List E} (h : RefIs A base R l) (c : Calm A A') (r : RefB A' R k) : RefB A R k := by
  obtain ⟨iv', bw', k', hr⟩ := r
  obtain ⟨hb, iv, bw, kR, o1, o2⟩ := h
  obtain ⟨rfl, rfl⟩ := bk_same (kR.calm c) k'
  exact ⟨iv, bw, kR, hr⟩
theorem RefIs.rowlt {A : World} {base R k : Nat} {l : List E} (h : RefIs A base R l) (r : RefB A R k) : k < A.heap.size ∧ base ≤ k := by
  obtain ⟨iv', bw', k', hr⟩ := r
  obtain ⟨hb, iv, bw, kR, o1, o2⟩ := h
  obtain ⟨rfl, rfl⟩ := bk_same kR k'
  rcases hr with hr | hr
  · exact ⟨(own_lt o1 hr).1, (own_lt o1 hr).2.1⟩
  · exact ⟨(own_lt o2 hr).1, (own_lt o2 hr).2.1⟩
/-- A walk over the boxes that meet b, in blocks of its own behind n. -/
def ItF (n : Nat) (w : World) (v : Value) (b : Q4) (fv : Value) : Prop := ∃ bt bc, fv = .func (.func 37) #[] #[.pointer (some ⟨bt, 0, none⟩), .pointer (some ⟨bc, 0, none⟩)] ∧ Bk w bt 23 [v] ∧ Bk w bc 36 [.int .i32 b.1, .int .i32 b.2.1, .int .i32 b.2.2.1, .int .i32 b.2.2.2] ∧ n ≤ bt ∧ n ≤ bc
theorem range_new (o : Option Addr) (b : Q4) (w : World) : Calls Try.prog 19 #[.pointer o, bv b] w fun e w' => ∃ fv, e = .returned fv ∧ ItF w.heap.size w' (.pointer o) b fv ∧ Gr w w' := by
  have k0 := (Bk.new w 23 [.pointer o]).alloc (.cells #[.int .i32 b.1, .int .i32 b.2.1, .int .i32 b.2.2.1, .int .i32 b.2.2.2] 36)
  have k1 := Bk.new (w.alloc (.cells #[.pointer o] 23)) 36 [.int .i32 b.1, .int .i32 b.2.1, .int .i32 b.2.2.1, .int .i32 b.2.2.2]
  rw [World.size_alloc] at k1
  go_enter Try.func19, Try.ntmps19
  go_wp2
  go_ret
  exact ⟨_, rfl, ⟨_, _, rfl, k0, k1, Nat.le_refl _, by omega⟩, ((Gr.refl _).alloc _).alloc _⟩
theorem row_base {w : World} {B C : Nat} {v : Value} {l : List Int} (h : Row w B v l) (k : C ≤ B) : Row w C v l := by
  rcases h.2 with ⟨e1, h0⟩ | ⟨g1, cap, cur, e1, hb1, hr⟩
  · exact ⟨h.1, .inl ⟨e1, h0⟩⟩
  · exact ⟨h.1, .inr ⟨g1, cap, cur, e1, Nat.le_trans k hb1, hr⟩⟩
end Go.Proofs.Ytpikhdfndnpidaa
