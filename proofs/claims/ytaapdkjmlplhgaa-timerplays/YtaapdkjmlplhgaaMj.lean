/- TimerMeanwhile's round, at a world: the count put up, the first taken. -/
import Derived.Test.YtaapdkjmlplhgaaMi
import Derived.Test.YtaapdkjmlplhgaaSo
set_option linter.unusedSimpArgs false
set_option linter.unusedVariables false
namespace Go.Proofs.Ytaapdkjmlplhgaa
open Go.RowKit Go.Sort Go.Shelf

/-- The rounds' word with all named. -/
structure Wj (B : Nat) (w0 X : World) (d h pb mb r b2 b3 b5 b9 bl : Nat) (L : List Du) (p : Nat → Prop) (v : Value) (lst : List Du) (m : Pf) (rv : Value) (z : Int) (A : World) : Prop where
  ms : Ms B w0 A d r b2 b3 b5
  ds : Ds B A d h pb mb v lst m 4096
  rf : Rf B A r rv 4096 L
  ap : ∀ g, v.ownBlock = some g → rv.ownBlock ≠ some g
  pp : ∀ b, p b → b ≠ h ∧ b ≠ mb ∧ v.ownBlock ≠ some b
  k9 : Bk A b9 3 [.int .i64 z]
  kl : Bk A bl 23 [.pointer (some ⟨d, 0, none⟩)]
  p9 : ∀ b, p b → b ≠ b9
  lo : w0.heap.size ≤ B ∧ B ≤ X.heap.size ∧ mb < X.heap.size
  hi : X.heap.size ≤ A.heap.size
  up : B ≤ b9
section
variable {B : Nat} {w0 X : World} {d h pb mb r b2 b3 b5 b9 bl : Nat} {L : List Du} {p : Nat → Prop} {v : Value} {lst : List Du} {m : Pf} {rv : Value} {z : Int} {A A' : World}
theorem Wj.gr (W : Wj B w0 X d h pb mb r b2 b3 b5 b9 bl L p v lst m rv z A) (g : Gr A A') : Wj B w0 X d h pb mb r b2 b3 b5 b9 bl L p v lst m rv z A' :=
  ⟨W.ms.gr g, W.ds.gr g, W.rf.gr g, W.ap, W.pp, W.k9.gr g, W.kl.gr g, W.p9, W.lo, Nat.le_trans W.hi g.size, W.up⟩
theorem bk_keeps {b t : Nat} {cs : List Value} (k : Bk A b t cs) {j : Nat} {o : Obj} (h : A.heap[j]? = some o) (ho : o.isCells = false) : j ≠ b := by
  intro e
  subst e
  unfold Bk at k
  rw [k] at h
  cases h
  cases ho
theorem Wj.store (W : Wj B w0 X d h pb mb r b2 b3 b5 b9 bl L p v lst m rv z A) (z' : Int) :
    Wj B w0 X d h pb mb r b2 b3 b5 b9 bl L p v lst m rv z' (A.setCell ⟨b9, 0, none⟩ (.int .i64 z')) ∧ KeepsFrom X.heap.size A (A.setCell ⟨b9, 0, none⟩ (.int .i64 z')) ∧ Kp p A (A.setCell ⟨b9, 0, none⟩ (.int .i64 z')) := by
  have C : Chg (fun k => k = b9) A (A.setCell ⟨b9, 0, none⟩ (.int .i64 z')) := Chg.set (p := fun k => k = b9) A (a := ⟨b9, 0, none⟩) rfl _
  have ne : ∀ {b t : Nat} {cs : List Value}, Bk A b t cs → t ≠ 3 → ¬ b = b9 := fun k hn e => by rw [e] at k; exact hn (bk_ty k W.k9)
  have k9' := W.k9.set 0 (.int .i64 z')
  refine ⟨⟨W.ms.chg C (ne W.ms.k2 (by decide)) (ne W.ms.k3 (by decide)) (ne W.ms.k5 (by decide)) (fun k e => by rw [e]; exact Nat.le_trans W.lo.1 W.up), W.ds.chg C (ne W.ds.due (by decide)) (ne W.ds.hv.heap (by decide)) (ne W.ds.hv.cap (by decide)) (fun g e => ?_) (fun e => ?_), W.rf.keep (C.block _ W.rf.blk.lt (ne W.rf.blk (by decide))) (fun g e => ?_), W.ap, W.pp, k9', W.kl.chg C (ne W.kl (by decide)), W.p9, W.lo, ?_, W.up⟩, ⟨C.size, fun k o _ hk ho => ?_⟩, fun b hb => ?_⟩
  · obtain ⟨_, _, cur, hr⟩ := row_lt W.ds.hv.row e
    exact ne hr (by decide)
  · obtain ⟨es, c, hm⟩ := W.ds.hv.map.isMap
    rw [e] at hm
    exact bk_map W.k9 hm
  · obtain ⟨hl, _, cur, hr⟩ := row_lt W.rf.row e
    exact C.block _ hl (ne hr (by decide))
  · exact Nat.le_trans W.hi C.size
  · exact (Below.heap_setCell _ _ _ _ (bk_keeps W.k9 hk ho)).trans hk
  · exact Below.heap_setCell _ _ _ _ (W.p9 b hb)
theorem Wj.took {v' : Value} {lst' : List Du} {m' : Pf} (W : Wj B w0 X d h pb mb r b2 b3 b5 b9 bl L p v lst m rv z A) (hpb : ∀ b, p b → b < A.heap.size) (C : DCh h mb v v' A A') (D' : Ds B A' d h pb mb v' lst' m' 4096) :
    Wj B w0 X d h pb mb r b2 b3 b5 b9 bl L p v' lst' m' rv z A' ∧ KeepsFrom X.heap.size A A' ∧ Kp p A A' := by
  have bel := C.bel W.ds W.ds.size
  have hB := W.lo.1
  have fr : ∀ g, rv.ownBlock = some g → A'.heap[g]? = A.heap[g]? := fun g e => by
    obtain ⟨hl, _, cur, hr⟩ := row_lt W.rf.row e
    refine C.chg.block g hl ?_
    rintro (e2 | e2 | e2)
    · rw [e2] at hr; have := bk_ty hr W.ds.hv.heap; cases this
    · rw [e2] at hr
      obtain ⟨es, c, hm⟩ := W.ds.hv.map.isMap
      exact bk_map hr hm
    · exact W.ap g e2 e
  refine ⟨⟨W.ms.keeps ⟨bel, fun b t cs k h1 h2 _ => C.kept W.ds k h1 h2⟩ hB, D', W.rf.keep (C.chg.block r W.rf.blk.lt (W.ds.kind W.rf.blk (by decide) (by decide))) fr, fun g e e2 => ?_, fun b hb => ?_, C.kept W.ds W.k9 (by decide) (by decide), C.kept W.ds W.kl (by decide) (by decide), W.p9, W.lo, Nat.le_trans W.hi C.chg.size, W.up⟩, ⟨C.chg.size, fun k o hk0 hk ho => ?_⟩, fun b hb => ?_⟩
  · rcases C.new g e with h | h
    · exact W.ap g h e2
    · have := (row_lt W.rf.row e2).1; omega
  · exact (C.far (hpb b hb) (W.pp b hb)).2
  · refine (C.chg.block k (lt_of_block hk) ?_).trans hk
    rintro (e | e | e)
    · exact bk_keeps W.ds.hv.heap hk ho e
    · have := W.lo.2.2; omega
    · obtain ⟨_, _, cur, hr⟩ := row_lt W.ds.hv.row e
      exact bk_keeps hr hk ho rfl
  · exact (C.far (hpb b hb) (W.pp b hb)).1
/-- Back among the rounds. -/
theorem Wj.wi {pre : List Du} {n : Nat} (W : Wj B w0 X d h pb mb r b2 b3 b5 b9 bl L p v lst m rv z A) (S : SortOf (L.drop n) lst) (hn : n = pre.length) (hz : z = n) : Wi B w0 X d h pb mb r b2 b3 b5 b9 bl L p pre A := by
  subst hn hz
  exact ⟨W.ms, ⟨v, lst, m, rv, W.ds, W.rf, S, W.ap, W.pp⟩, W.k9, W.kl, W.p9, W.lo⟩
end
end Go.Proofs.Ytaapdkjmlplhgaa
