/- What a round of the law's loop keeps while the Tree and the reference change. -/
import Derived.Test.YtpikhdfndnpidaaLm0
set_option linter.unusedSimpArgs false
set_option linter.unusedVariables false
namespace Go.Proofs.Ytpikhdfndnpidaa
open Go.RowKit Go.Sort Go.Shelf

/-- What stands behind each call: W1 the world that holds the arguments. -/
structure Mw (BS : Nat) (W1 W : World) (T R b7 b8 : Nat) (t : At) : Prop where
  pr : Pair BS W T R t
  k7 : Bk W b7 23 [.pointer (some ⟨T, 0, none⟩)]
  k8 : Bk W b8 25 [.pointer (some ⟨R, 0, none⟩)]
  bel : Below BS W1 W
theorem Mw.below {BS : Nat} {W1 W W' : World} {T R b7 b8 : Nat} {t : At} (h : Mw BS W1 W T R b7 b8 t) (g : Below W.heap.size W W') : Mw BS W1 W' T R b7 b8 t :=
  ⟨h.pr.below g, h.k7.mono g h.k7.lt, h.k8.mono g h.k8.lt, h.bel.trans (g.mono h.pr.sz)⟩
theorem Mw.gr {BS : Nat} {W1 W W' : World} {T R b7 b8 : Nat} {t : At} (h : Mw BS W1 W T R b7 b8 t) (g : Gr W W') : Mw BS W1 W' T R b7 b8 t := h.below g.below
theorem Mw.put {BS : Nat} {W1 W V1 V2 : World} {T R b7 b8 : Nat} {t t' : At} (h : Mw BS W1 W T R b7 b8 t) (g1 : W.grownBy V1 (some T)) (k : TreeIs V1 T t') (r : RefIs V2 BS R t'.er.toL) (c : RCh V1 V2 BS R) : Mw BS W1 V2 T R b7 b8 t' := by
  obtain ⟨q1, q2⟩ := h.pr.put g1 k r c
  have r1 := h.pr.ref.ch h.pr.one.blk (by decide) (by decide) (by decide) g1
  exact ⟨q1, r1.keepB c (h.k7.oth h.pr.one.blk (by decide) g1) (by decide) (by decide) (by decide), r1.keepB c (h.k8.oth h.pr.one.blk (by decide) g1) (by decide) (by decide) (by decide), h.bel.trans q2⟩
/-- What a drawn statement of the law's reads. -/
def Ms (BS : Nat) (W1 : World) (T R b7 b8 : Nat) (V : World) : Prop := Bk V b7 23 [.pointer (some ⟨T, 0, none⟩)] ∧ Bk V b8 25 [.pointer (some ⟨R, 0, none⟩)] ∧ Below BS W1 V
theorem Mw.ms {BS : Nat} {W1 W : World} {T R b7 b8 : Nat} {t : At} (h : Mw BS W1 W T R b7 b8 t) : Ms BS W1 T R b7 b8 W := ⟨h.k7, h.k8, h.bel⟩
theorem Mw.ms1 {BS : Nat} {W1 W V1 : World} {T R b7 b8 : Nat} {t : At} (h : Mw BS W1 W T R b7 b8 t) (g1 : W.grownBy V1 (some T)) : Ms BS W1 T R b7 b8 V1 :=
  ⟨h.k7.oth h.pr.one.blk (by decide) g1, h.k8.oth h.pr.one.blk (by decide) g1, h.bel.trans (below_ch g1 h.pr.lo h.pr.sz)⟩
theorem Mw.calm {BS : Nat} {W1 W W' : World} {T R b7 b8 : Nat} {t : At} (h : Mw BS W1 W T R b7 b8 t) (c : Calm W W') (g : Below BS W W') : Mw BS W1 W' T R b7 b8 t :=
  ⟨h.pr.calm c, h.k7.calm c, h.k8.calm c, h.bel.trans g⟩
theorem Calm.gr {A A' : World} (g : Gr A A') : Calm A A' := ⟨g.size, fun b o hb _ => (g.below.block b (lt_of_block hb)).trans hb⟩
theorem Calm.below {A A' : World} (g : Below A.heap.size A A') : Calm A A' := ⟨g.size, fun b o hb _ => (g.block b (lt_of_block hb)).trans hb⟩
theorem mw_new (W1 : World) (ht : TreeIs (W1.alloc (.cells #[.bool true, .pointer none, .int .i64 0] 64)) W1.heap.size .nil) :
    Mw W1.heap.size W1 ((((W1.alloc (.cells #[.bool true, .pointer none, .int .i64 0] 64)).alloc (.cells #[.pointer (some ⟨W1.heap.size, 0, none⟩)] 23)).alloc (.cells #[.slice none 0 0, .slice none 0 0] 29)).alloc (.cells #[.pointer (some ⟨W1.heap.size + 1 + 1, 0, none⟩)] 25)) W1.heap.size (W1.heap.size + 1 + 1) (W1.heap.size + 1) (W1.heap.size + 1 + 1 + 1) .nil := by
  have g3 := (((Gr.refl (W1.alloc (.cells #[.bool true, .pointer none, .int .i64 0] 64))).alloc (.cells #[.pointer (some ⟨W1.heap.size, 0, none⟩)] 23)).alloc (.cells #[.slice none 0 0, .slice none 0 0] 29)).alloc (.cells #[.pointer (some ⟨W1.heap.size + 1 + 1, 0, none⟩)] 25)
  have k7 := ((Bk.new (W1.alloc (.cells #[.bool true, .pointer none, .int .i64 0] 64)) 23 [.pointer (some ⟨W1.heap.size, 0, none⟩)]).alloc (.cells #[.slice none 0 0, .slice none 0 0] 29)).alloc (.cells #[.pointer (some ⟨W1.heap.size + 1 + 1, 0, none⟩)] 25)
  have kR := (Bk.new ((W1.alloc (.cells #[.bool true, .pointer none, .int .i64 0] 64)).alloc (.cells #[.pointer (some ⟨W1.heap.size, 0, none⟩)] 23)) 29 [.slice none 0 0, .slice none 0 0]).alloc (.cells #[.pointer (some ⟨W1.heap.size + 1 + 1, 0, none⟩)] 25)
  have k8 := Bk.new (((W1.alloc (.cells #[.bool true, .pointer none, .int .i64 0] 64)).alloc (.cells #[.pointer (some ⟨W1.heap.size, 0, none⟩)] 23)).alloc (.cells #[.slice none 0 0, .slice none 0 0] 29)) 25 [.pointer (some ⟨W1.heap.size + 1 + 1, 0, none⟩)]
  simp only [World.size_alloc] at k7 kR k8
  have gg := ((Gr.refl W1).alloc (.cells #[.bool true, .pointer none, .int .i64 0] 64)).trans g3
  exact ⟨⟨ht.gr g3, ⟨by omega, _, _, kR, World.ownsRow_nil _ _ _ _, World.ownsRow_nil _ _ _ _⟩, Nat.le_refl _, gg.size⟩, k7, k8, gg.below⟩
/-- All blocks stay but those of a set. -/
def Held (ex : Nat → Prop) (A A' : World) : Prop := A.heap.size ≤ A'.heap.size ∧ ∀ k, k < A.heap.size → ¬ ex k → A'.heap[k]? = A.heap[k]?
theorem Held.kp {ex p : Nat → Prop} {A A' : World} (h : Held ex A A') (hp : ∀ k, p k → k < A.heap.size) (hn : ∀ k, ex k → ¬ p k) : Kp p A A' := fun k hk => h.2 k (hp k hk) (fun e => hn k e hk)
theorem Held.from {ex : Nat → Prop} {A A' : World} (h : Held ex A A') (hc : ∀ k, ex k → ∃ c t f, A.heap[k]? = some (.cells c t f)) (B : Nat) : KeepsFrom B A A' :=
  ⟨h.1, fun k o hk h0 ho => (h.2 k (lt_of_block h0) (fun e => by
    obtain ⟨c, t, f, hh⟩ := hc k e
    rw [hh] at h0
    cases h0
    cases ho)).trans h0⟩
/-- The Tree, then the reference, changes. -/
structure Dbl (T R : Nat) (A A' : World) : Prop where
  keep : ∀ k, k < A.heap.size → k ≠ T → k ≠ R → ¬ RefB A R k → A'.heap[k]? = A.heap[k]?
  rows : ∀ k, RefB A' R k → RefB A R k ∨ A.heap.size ≤ k
  size : A.heap.size ≤ A'.heap.size
theorem refB_same {A A' : World} {R k : Nat} {l : List Value} (hR : Bk A R 29 l) (e : A'.heap[R]? = A.heap[R]?) (r : RefB A' R k) : RefB A R k := by
  obtain ⟨iv, bw, h1, h2⟩ := r
  exact ⟨iv, bw, h1.same e.symm, h2⟩
theorem RefIs.blk {w : World} {base R : Nat} {l : List E} (h : RefIs w base R l) : ∃ m, Bk w R 29 m := by
  obtain ⟨_, iv, bw, k, _⟩ := h
  exact ⟨_, k⟩
theorem Pair.dbl {BS : Nat} {A A1 A2 : World} {T R : Nat} {t : At} (h : Pair BS A T R t) (g : A.grownBy A1 (some T)) (c : RCh A1 A2 BS R) : Dbl T R A A2 := by
  obtain ⟨m, kR⟩ := h.ref.blk
  have hTR : R ≠ T := kR.ne h.one.blk (by decide)
  have eR : A1.heap[R]? = A.heap[R]? := g.block R kR.lt (fun e => hTR (by cases e; rfl))
  refine ⟨fun k hk hT hR hn => ?_, fun k hk => ?_, Nat.le_trans g.size c.size⟩
  · rw [c.keep k (Nat.lt_of_lt_of_le hk g.size) hR (fun hb => hn (refB_same kR eR hb))]
    exact g.block k hk (fun e => hT (by cases e; rfl))
  · rcases c.rows k hk with h1 | h1
    · exact .inl (refB_same kR eR h1)
    · exact .inr (Nat.le_trans g.size h1)
theorem Dbl.trans {T R : Nat} {A B C : World} (h : Dbl T R A B) (k : Dbl T R B C) : Dbl T R A C := by
  refine ⟨fun j hj hT hR hn => ?_, fun j hj => ?_, Nat.le_trans h.size k.size⟩
  · have hb : ¬ RefB B R j := fun hb => (h.rows j hb).elim hn (fun h => by omega)
    exact (k.keep j (Nat.lt_of_lt_of_le hj h.size) hT hR hb).trans (h.keep j hj hT hR hn)
  · rcases k.rows j hj with h1 | h1
    · exact h.rows j h1
    · have := h.size; exact .inr (by omega)
/-- A Tree and a reference stay where none of their blocks is turned. -/
theorem Pair.held {BS : Nat} {A A' : World} {T R : Nat} {t : At} {ex : Nat → Prop} (h : Pair BS A T R t) (k : Held ex A A') (hT : ¬ ex T) (hR : ¬ ex R) (hN : ∀ b, isNode A b → ¬ ex b) (hB : ∀ b, RefB A R b → ¬ ex b) : Pair BS A' T R t := by
  obtain ⟨o, r, l, s⟩ := h
  have rr := r
  obtain ⟨hb, iv, bw, kR, o1, o2⟩ := r
  have row : ∀ {v : Value} {e s n : Nat} {xs : List Value}, A.ownsRow BS e s v n xs → (∀ g, v.ownBlock = some g → ¬ ex g) → A'.ownsRow BS e s v n xs := fun {v e s n xs} hv hx => by
    rcases hv.2 with ⟨e1, h0⟩ | ⟨g1, cap, cur, e1, hb1, hc, hr⟩
    · exact ⟨hv.1, .inl ⟨e1, h0⟩⟩
    · exact ⟨hv.1, .inr ⟨g1, cap, cur, e1, hb1, (k.2 g1 (lt_of_block hc) (hx g1 (by rw [e1]; rfl))).trans hc, hr⟩⟩
  refine ⟨⟨o.blk.same (k.2 T o.blk.lt hT), o.tr.nk (fun b m hb => hb.same (k.2 b hb.lt (hN b ⟨_, hb⟩))), o.srt, o.bal, o.rg, o.few⟩, ⟨hb, iv, bw, kR.same (k.2 R kR.lt hR), row o1 (fun g e => hB g ⟨iv, bw, kR, .inl e⟩), row o2 (fun g e => hB g ⟨iv, bw, kR, .inr e⟩)⟩, l, Nat.le_trans s k.1⟩
theorem Pair.rowcells {BS : Nat} {A : World} {T R k : Nat} {t : At} (h : Pair BS A T R t) (r : RefB A R k) : (∃ c t f, A.heap[k]? = some (.cells c t f)) ∧ k < A.heap.size ∧ BS ≤ k ∧ ¬ isNode A k ∧ k ≠ T ∧ k ≠ R := by
  obtain ⟨o, rf, l, s⟩ := h
  have rf' := rf
  obtain ⟨hb, iv, bw, kR, o1, o2⟩ := rf
  obtain ⟨iv', bw', k', hr⟩ := r
  obtain ⟨rfl, rfl⟩ := bk_same kR k'
  have hr' : RefB A R k := ⟨iv, bw, kR, hr⟩
  have key : ∃ c, (A.heap[k]? = some (.cells c 32 (0, 0)) ∨ A.heap[k]? = some (.cells c 36 (0, 0))) ∧ BS ≤ k := by
    rcases hr with hr | hr
    · obtain ⟨_, h2, c, h3⟩ := own_lt o1 hr; exact ⟨c, .inl h3, h2⟩
    · obtain ⟨_, h2, c, h3⟩ := own_lt o2 hr; exact ⟨c, .inr h3, h2⟩
  obtain ⟨c, hc, hk⟩ := key
  refine ⟨?_, ?_, hk, fun ⟨m, hn⟩ => rf'.notRow hn (by decide) (by decide) hr', fun e => ?_, fun e => ?_⟩
  · rcases hc with hc | hc <;> exact ⟨_, _, _, hc⟩
  · rcases hc with hc | hc <;> exact lt_of_block hc
  · subst e; exact rf'.notRow o.blk (by decide) (by decide) hr'
  · subst e; exact rf'.notRow kR (by decide) (by decide) hr'
/-- What holds between two rounds: X the world that the loop began in. -/
structure MI (X W1 : World) (BS T R b7 b8 b13 : Nat) (p : Nat → Prop) (pre : List Nd) (A : World) : Prop where
  mw : ∃ t' : At, Mw BS W1 A T R b7 b8 t'
  keep : ∀ k, k < X.heap.size → k ≠ T → k ≠ R → ¬ RefB X R k → k ≠ b13 → A.heap[k]? = X.heap[k]?
  rows : ∀ k, RefB A R k → RefB X R k ∨ X.heap.size ≤ k
  got : ∃ v, Boxed A b13 26 v ∧ A.ownsRow b13 32 1 v pre.length (pre.map idv) ∧ (∀ g, v.ownBlock = some g → ¬ p g ∧ ¬ RefB A R g)
  nb : ¬ p b13
  nT : ¬ p T
  nR : ¬ p R
  nrow : ∀ k, RefB A R k → ¬ p k
  few : pre.length ≤ 1000000
  size : X.heap.size ≤ A.heap.size
theorem mi_con {X W1 : World} {BS T R b7 b8 b13 B : Nat} (hB : X.heap.size ≤ B) (hBS : BS ≤ X.heap.size) : Con B (MI X W1 BS T R b7 b8 b13) := by
  refine ⟨?_, ?_, ?_⟩
  · rintro p s A A' row ⟨⟨t', mw⟩, keep, rows, ⟨v, h1, h2, h3⟩, nb, nT, nR, nrow, few, size⟩ hg hr
    have hc : Calm A A' := Calm.own hg (fun r e => (hr r e).2)
    have hb : ∀ k, RefB A' R k → RefB A R k := fun k hk => RefB.back mw.pr.ref hc hk
    refine ⟨⟨t', mw.calm hc (below_grown (Below.refl BS A) hg (fun r e => by have := (hr r e).1; omega) mw.pr.sz)⟩, fun k hk hT hR hn h13 => (hg.block k (by omega) (fun e => by have := (hr k e.symm).1; omega)).trans (keep k hk hT hR hn h13), fun k hk => rows k (hb k hk), ⟨v, hc.2 _ _ h1 rfl, row_calm h2 hc, fun g e => ⟨(h3 g e).1, fun hk => (h3 g e).2 (hb g hk)⟩⟩, nb, nT, nR, fun k hk => nrow k (hb k hk), few, Nat.le_trans size hg.size⟩
  · rintro p s A b ⟨⟨t', mw⟩, keep, rows, ⟨v, h1, h2, h3⟩, nb, nT, nR, nrow, few, size⟩ hb
    obtain ⟨m, kR⟩ := mw.pr.ref.blk
    refine ⟨⟨t', mw⟩, keep, rows, ⟨v, h1, h2, fun g e => ⟨?_, (h3 g e).2⟩⟩, ?_, ?_, ?_, ?_, few, size⟩
    · rintro (h | h)
      · exact (h3 g e).1 h
      · have := (own_lt h2 e).1; omega
    · rintro (h | h)
      · exact nb h
      · have := h1.lt; omega
    · rintro (h | h)
      · exact nT h
      · have := mw.pr.one.blk.lt; omega
    · rintro (h | h)
      · exact nR h
      · have := kR.lt; omega
    · rintro k hk (h | h)
      · exact nrow k hk h
      · have := (mw.pr.rowcells hk).2.1; omega
  · rintro p q s A ⟨⟨t', mw⟩, keep, rows, ⟨v, h1, h2, h3⟩, nb, nT, nR, nrow, few, size⟩ hb
    exact ⟨⟨t', mw⟩, keep, rows, ⟨v, h1, h2, fun g e => ⟨fun h => (h3 g e).1 (hb _ h), (h3 g e).2⟩⟩, fun h => nb (hb _ h), fun h => nT (hb _ h), fun h => nR (hb _ h), fun k hk h => nrow k hk (hb _ h), few, size⟩
end Go.Proofs.Ytpikhdfndnpidaa
