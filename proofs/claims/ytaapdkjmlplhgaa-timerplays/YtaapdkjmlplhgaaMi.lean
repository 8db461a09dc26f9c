/- What a round of TimerMeanwhile's walk keeps. -/
import Derived.Test.YtaapdkjmlplhgaaTw
set_option linter.unusedSimpArgs false
set_option linter.unusedVariables false
namespace Go.Proofs.Ytaapdkjmlplhgaa
open Go.RowKit Go.Sort Go.Shelf

/-- What stands ahead of the walks: the law's own cells and both lists. -/
structure Ms (B : Nat) (w0 W : World) (d r b2 b3 b5 : Nat) : Prop where
  k2 : Bk W b2 4 [.bool false]
  k3 : Bk W b3 23 [.pointer (some ⟨d, 0, none⟩)]
  k5 : Bk W b5 27 [.pointer (some ⟨r, 0, none⟩)]
  bel : Below w0.heap.size w0 W
theorem Ms.keeps {B : Nat} {w0 W W' : World} {d r b2 b3 b5 : Nat} (h : Ms B w0 W d r b2 b3 b5) (k : Keeps B W W') (hB : w0.heap.size ≤ B) : Ms B w0 W' d r b2 b3 b5 :=
  ⟨k.2 _ _ _ h.k2 (by decide) (by decide) (by decide), k.2 _ _ _ h.k3 (by decide) (by decide) (by decide), k.2 _ _ _ h.k5 (by decide) (by decide) (by decide), h.bel.trans (k.1.mono hB)⟩
theorem Ms.gr {B : Nat} {w0 W W' : World} {d r b2 b3 b5 : Nat} (h : Ms B w0 W d r b2 b3 b5) (g : Gr W W') : Ms B w0 W' d r b2 b3 b5 := ⟨h.k2.gr g, h.k3.gr g, h.k5.gr g, h.bel.trans (g.below.mono h.bel.size)⟩
theorem Ms.chg {B : Nat} {w0 W W' : World} {d r b2 b3 b5 : Nat} {p : Nat → Prop} (h : Ms B w0 W d r b2 b3 b5) (c : Chg p W W') (h2 : ¬ p b2) (h3 : ¬ p b3) (h5 : ¬ p b5) (hp : ∀ k, p k → w0.heap.size ≤ k) : Ms B w0 W' d r b2 b3 b5 :=
  ⟨h.k2.chg c h2, h.k3.chg c h3, h.k5.chg c h5, h.bel.trans (c.below h.bel.size hp)⟩
/-- The rounds' word: so many have been taken. -/
structure Wi (B : Nat) (w0 X : World) (d h pb mb r b2 b3 b5 b9 bl : Nat) (L : List Du) (p : Nat → Prop) (pre : List Du) (A : World) : Prop where
  ms : Ms B w0 A d r b2 b3 b5
  st : ∃ v lst m rv, Ds B A d h pb mb v lst m 4096 ∧ Rf B A r rv 4096 L ∧ SortOf (L.drop pre.length) lst ∧ (∀ g, v.ownBlock = some g → rv.ownBlock ≠ some g) ∧ ∀ b, p b → b ≠ h ∧ b ≠ mb ∧ v.ownBlock ≠ some b
  k9 : Bk A b9 3 [.int .i64 pre.length]
  kl : Bk A bl 23 [.pointer (some ⟨d, 0, none⟩)]
  p9 : ∀ b, p b → b ≠ b9
  lo : w0.heap.size ≤ B ∧ B ≤ X.heap.size ∧ mb < X.heap.size
section
variable {B : Nat} {w0 X : World} {d h pb mb r b2 b3 b5 b9 bl : Nat} {L : List Du} {p : Nat → Prop} {pre : List Du} {A A' : World}
theorem Wi.chg {q : Nat → Prop} (W : Wi B w0 X d h pb mb r b2 b3 b5 b9 bl L p pre A) (c : Chg q A A') (hq : ∀ k, q k → w0.heap.size ≤ k) (nc : ∀ b t cs, Bk A b t cs → ¬ q b) (nm : ¬ q mb) : Wi B w0 X d h pb mb r b2 b3 b5 b9 bl L p pre A' := by
  obtain ⟨ms, ⟨v, lst, m, rv, D, R, S, ap, pp⟩, k9, kl, p9, lo⟩ := W
  refine ⟨ms.chg c (nc _ _ _ ms.k2) (nc _ _ _ ms.k3) (nc _ _ _ ms.k5) hq, ⟨v, lst, m, rv, D.chg c (nc _ _ _ D.due) (nc _ _ _ D.hv.heap) (nc _ _ _ D.hv.cap) (fun g e => ?_) nm, R.keep (c.block _ R.blk.lt (nc _ _ _ R.blk)) (fun g e => ?_), S, ap, pp⟩, k9.chg c (nc _ _ _ k9), kl.chg c (nc _ _ _ kl), p9, lo⟩
  · obtain ⟨_, _, cur, hr⟩ := row_lt D.hv.row e
    exact nc _ _ _ hr
  · obtain ⟨hl, _, cur, hr⟩ := row_lt R.row e
    exact c.block _ hl (nc _ _ _ hr)
theorem wi_con : Con X.heap.size (Wi B w0 X d h pb mb r b2 b3 b5 b9 bl L) := by
  refine ⟨fun p s A A' row W hg hr => ?_, fun p s A b W hb => ?_, fun p q s A W hb => ?_⟩
  · refine W.chg (Chg.grownR hg) (fun k e => ?_) (fun b t cs k e => ?_) (fun e => ?_)
    · have := (hr k e).1; have := W.lo; omega
    · obtain ⟨o, h1, h2⟩ := (hr b e).2
      unfold Bk at k
      rw [k] at h1
      cases h1
      cases h2
    · have := (hr mb e).1; have := W.lo; omega
  · obtain ⟨ms, ⟨v, lst, m, rv, D, R, S, ap, pp⟩, k9, kl, p9, lo⟩ := W
    refine ⟨ms, ⟨v, lst, m, rv, D, R, S, ap, fun c hc => ?_⟩, k9, kl, fun c hc => ?_, lo⟩
    · rcases hc with hc | rfl
      · exact pp c hc
      · exact D.aside_new hb
    · rcases hc with hc | rfl
      · exact p9 c hc
      · have := k9.lt; omega
  · obtain ⟨ms, ⟨v, lst, m, rv, D, R, S, ap, pp⟩, k9, kl, p9, lo⟩ := W
    exact ⟨ms, ⟨v, lst, m, rv, D, R, S, ap, fun c hc => pp c (hb c hc)⟩, k9, kl, fun c hc => p9 c (hb c hc), lo⟩
end
/-- The least of those that are left is the next one of the list. -/
theorem head_is {L lst : List Du} {m : Pf} {n : Nat} (P : PD lst m) (S : SortOf (L.drop n) lst) (hn : n < L.length) : 0 < lst.length ∧ nth lst 0 = nth L n := by
  have hd := drop_cons L n hn
  have hx : nth L n ∈ lst := (S.mem _).1 (by rw [hd]; exact List.mem_cons_self)
  obtain ⟨j, h1, h2⟩ := mem_nth.1 hx
  have h0 : 0 < lst.length := by omega
  refine ⟨h0, ?_⟩
  have hm : nth lst 0 ∈ L.drop n := (S.mem _).2 (mem_nth.2 ⟨0, h0, rfl⟩)
  rw [hd] at hm
  rcases List.mem_cons.1 hm with e | e
  · exact e
  · have asc := S.asc
    rw [hd, List.pairwise_cons] at asc
    have a := asc.1 _ e
    have b := P.heap.min j h1
    rw [h2, a] at b
    cases b
theorem sort_next {L lst lst' : List Du} {m : Pf} {n : Nat} (P : PD lst m) (S : SortOf (L.drop n) lst) (hn : n < L.length) (M : ∀ y, y ∈ lst' ↔ y ∈ lst ∧ y.2 ≠ (nth L n).2) : SortOf (L.drop (n + 1)) lst' := by
  have hd := drop_cons L n hn
  have asc := S.asc
  rw [hd, List.pairwise_cons] at asc
  refine ⟨asc.2, fun y => ?_⟩
  rw [M y, ← S.mem y, hd]
  constructor
  · intro hy
    refine ⟨List.mem_cons_of_mem _ hy, fun e => ?_⟩
    have h1 : y ∈ lst := (S.mem y).1 (by rw [hd]; exact List.mem_cons_of_mem _ hy)
    have h2 : nth L n ∈ lst := (S.mem _).1 (by rw [hd]; exact List.mem_cons_self)
    obtain ⟨i, i1, i2⟩ := mem_nth.1 h1
    obtain ⟨j, j1, j2⟩ := mem_nth.1 h2
    have a := P.tie i i1
    have b := P.tie j j1
    rw [i2, e] at a
    rw [j2, a] at b
    have ij := Option.some.inj b
    subst ij
    rw [i2] at j2
    have := asc.1 y hy
    rw [← j2, lt_irr] at this
    cases this
  · rintro ⟨hy, hne⟩
    rcases List.mem_cons.1 hy with e | e
    · exact absurd (by rw [e]) hne
    · exact e
end Go.Proofs.Ytaapdkjmlplhgaa
