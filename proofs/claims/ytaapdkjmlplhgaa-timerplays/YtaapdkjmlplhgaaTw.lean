/- Dues and the document's own list beside one another. -/
import Derived.Test.YtaapdkjmlplhgaaRs2
import Derived.Test.YtaapdkjmlplhgaaSo
set_option linter.unusedSimpArgs false
set_option linter.unusedVariables false
namespace Go.Proofs.Ytaapdkjmlplhgaa
open Go.RowKit Go.Sort Go.Shelf

/-- Both hold the same dues. -/
structure Pr (B : Nat) (w : World) (d h pb mb : Nat) (v : Value) (l : List Du) (m : Pf) (most r : Nat) (rv : Value) (L : List Du) : Prop where
  ds : Ds B w d h pb mb v l m most
  rf : Rf B w r rv most L
  so : SortOf L l
  ap : ∀ g, v.ownBlock = some g → rv.ownBlock ≠ some g
section
variable {B : Nat} {w w' : World} {d h pb mb : Nat} {v v' : Value} {l : List Du} {m : Pf} {most r : Nat} {rv rv' : Value} {L : List Du}
theorem Pr.below (P : Pr B w d h pb mb v l m most r rv L) (g : Below w.heap.size w w') : Pr B w' d h pb mb v l m most r rv L :=
  ⟨P.ds.chg (p := fun _ => False) (Chg.of_below g) (fun e => e) (fun e => e) (fun e => e) (fun _ _ e => e) (fun e => e), P.rf.below g, P.so, P.ap⟩
theorem Pr.gr (P : Pr B w d h pb mb v l m most r rv L) (g : Gr w w') : Pr B w' d h pb mb v l m most r rv L := P.below g.below
/-- A block of another kind is none of the Dues'. -/
theorem Ds.kind (D : Ds B w d h pb mb v l m most) {b t : Nat} {cs : List Value} (k : Bk w b t cs) (h1 : t ≠ 32) (h2 : t ≠ 62) : ¬ (b = h ∨ b = mb ∨ v.ownBlock = some b) := by
  rintro (e | e | e)
  · rw [e] at k; exact h2 (bk_ty k D.hv.heap)
  · rw [e] at k
    obtain ⟨es, c, hm⟩ := D.hv.map.isMap
    exact bk_map k hm
  · obtain ⟨_, _, cur, hr⟩ := row_lt D.hv.row e
    exact h1 (bk_ty k hr)
theorem DCh.kept (C : DCh h mb v v' w w') (D : Ds B w d h pb mb v l m most) {b t : Nat} {cs : List Value} (k : Bk w b t cs) (h1 : t ≠ 32) (h2 : t ≠ 62) : Bk w' b t cs := k.chg C.chg (D.kind k h1 h2)
/-- The reference stays while the Dues change. -/
theorem DCh.rf (C : DCh h mb v v' w w') (P : Pr B w d h pb mb v l m most r rv L) : Rf B w' r rv most L ∧ ∀ g, v'.ownBlock = some g → rv.ownBlock ≠ some g := by
  refine ⟨P.rf.keep (C.chg.block r P.rf.blk.lt (P.ds.kind P.rf.blk (by decide) (by decide))) (fun g e => C.chg.block g (row_lt P.rf.row e).1 ?_), fun g e e2 => ?_⟩
  · obtain ⟨_, _, cur, hr⟩ := row_lt P.rf.row e
    rintro (e2 | e2 | e2)
    · rw [e2] at hr; have := bk_ty hr P.ds.hv.heap; cases this
    · rw [e2] at hr
      obtain ⟨es, c, hm⟩ := P.ds.hv.map.isMap
      exact bk_map hr hm
    · exact P.ap g e2 e
  · rcases C.new g e with h | h
    · exact P.ap g h e2
    · have := (row_lt P.rf.row e2).1; omega
/-- The Dues stay while the reference changes. -/
theorem RCh.ds (C : RCh r rv' w w') (D : Ds B w d h pb mb v l m most) (R : Rf B w r rv most L) : Ds B w' d h pb mb v l m most ∧ ∀ g, v.ownBlock = some g → rv'.ownBlock ≠ some g := by
  have nr : ∀ {b t : Nat} {cs : List Value}, Bk w b t cs → t ≠ 38 → b ≠ r := fun k hn e => by rw [e] at k; exact hn (bk_ty k R.blk)
  refine ⟨D.chg C.chg (nr D.due (by decide)) (nr D.hv.heap (by decide)) (nr D.hv.cap (by decide)) (fun g e => ?_) (fun e => ?_), fun g e e2 => ?_⟩
  · obtain ⟨_, _, cur, hr⟩ := row_lt D.hv.row e
    exact nr hr (by decide)
  · obtain ⟨es, c, hm⟩ := D.hv.map.isMap
    rw [e] at hm
    exact bk_map R.blk hm
  · have := C.new g e2
    have := (row_lt D.hv.row e).1
    omega
theorem RCh.kept (C : RCh r rv' w w') (R : Rf B w r rv most L) {b t : Nat} {cs : List Value} (k : Bk w b t cs) (h1 : t ≠ 38) : Bk w' b t cs := k.chg C.chg (fun e => by rw [e] at k; exact h1 (bk_ty k R.blk))
theorem RCh.bel (C : RCh r rv' w w') (R : Rf B w r rv most L) (hB : B ≤ w.heap.size) : Below B w w' := C.chg.below hB (fun k e => by rw [e]; exact R.lo)
end
/-- What stands behind a call on both. -/
def After (B d h pb mb most r : Nat) (n : Nat) (w : World) : Prop := ∃ v l m rv L, Pr B w d h pb mb v l m most r rv L ∧ l.length ≤ n
/-- What a call on both keeps. -/
def Keeps (B : Nat) (w w' : World) : Prop := Below B w w' ∧ ∀ b t cs, Bk w b t cs → t ≠ 32 → t ≠ 62 → t ≠ 38 → Bk w' b t cs
theorem Keeps.refl (B : Nat) (w : World) : Keeps B w w := ⟨Below.refl _ _, fun _ _ _ k _ _ _ => k⟩
theorem Keeps.trans {B : Nat} {a b c : World} (h : Keeps B a b) (k : Keeps B b c) : Keeps B a c := ⟨h.1.trans k.1, fun b t cs x h1 h2 h3 => k.2 b t cs (h.2 b t cs x h1 h2 h3) h1 h2 h3⟩
theorem Keeps.gr {B : Nat} {a b : World} (g : Gr a b) (hB : B ≤ a.heap.size) : Keeps B a b := ⟨g.below.mono hB, fun _ _ _ k _ _ _ => k.gr g⟩
/-- Set of both: what the one answers, the other answers. -/
theorem sets_any {B : Nat} {w : World} {d h pb mb : Nat} {v : Value} {l : List Du} {m : Pf} {most r : Nat} {rv : Value} {L : List Du} (P : Pr B w d h pb mb v l m most r rv L) (x : Du) (hx : okD x) :
    Calls Try.prog 12 #[.pointer (some ⟨d, 0, none⟩), dV x] w fun e w1 => ∃ c, e = .returned (.int .i64 c) ∧ Keeps B w w1 ∧
      Calls Try.prog 13 #[.pointer (some ⟨r, 0, none⟩), dV x] w1 fun e w2 => e = .returned (.int .i64 c) ∧ Keeps B w1 w2 ∧ After B d h pb mb most r (l.length + 1) w2 := by
  have hLl := P.so.len P.ds.pd
  have hmo := P.ds.mo
  cases hm : m x.2 with
  | some j =>
    refine (set_there P.ds x hx hm).mono ?_
    rintro e w1 ⟨rfl, g1⟩
    have P1 := P.gr g1
    refine ⟨140, rfl, Keeps.gr g1 P.ds.size, ?_⟩
    obtain ⟨y, hy, e⟩ := (P.ds.pd.has x.2).1 ⟨j, hm⟩
    refine (rset_there P1.rf x ⟨y, (P.so.mem y).2 hy, e⟩ (by omega)).mono ?_
    rintro e w2 ⟨rfl, g2⟩
    exact ⟨rfl, Keeps.gr g2 P1.ds.size, v, l, m, rv, L, P1.gr g2, by omega⟩
  | none =>
    have hno : ∀ y ∈ l, y.2 ≠ x.2 := fun y hy e => by
      obtain ⟨j, hj⟩ := (P.ds.pd.has x.2).2 ⟨y, hy, e⟩
      rw [hm] at hj
      cases hj
    by_cases hf : l.length = most
    · refine (set_full P.ds x hx hm hf).mono ?_
      rintro e w1 ⟨rfl, g1⟩
      have P1 := P.gr g1
      refine ⟨5, rfl, Keeps.gr g1 P.ds.size, ?_⟩
      refine (rset_full P1.rf x (fun y hy => hno y ((P.so.mem y).1 hy)) (by omega) (by omega)).mono ?_
      rintro e w2 ⟨rfl, g2⟩
      exact ⟨rfl, Keeps.gr g2 P1.ds.size, v, l, m, rv, L, P1.gr g2, by omega⟩
    · refine (set_ok P.ds x hx hm (by omega)).mono ?_
      rintro e w1 ⟨rfl, v', l', m', D1, M1, L1, C1⟩
      obtain ⟨R1, A1⟩ := C1.rf P
      refine ⟨0, rfl, ⟨C1.bel P.ds P.ds.size, fun b t cs k h1 h2 h3 => C1.kept P.ds k h1 h2⟩, ?_⟩
      refine (rset_ok R1 x (fun y hy => hno y ((P.so.mem y).1 hy)) (by omega) (by omega)).mono ?_
      rintro e w2 ⟨rfl, rv', R2, C2⟩
      obtain ⟨D2, A2⟩ := C2.ds D1 R1
      refine ⟨rfl, ⟨C2.bel R1 D1.size, fun b t cs k h1 h2 h3 => C2.kept R1 k h3⟩, v', l', m', rv', insL x L, ⟨D2, R2, ⟨insL_asc x L P.so.asc (fun y hy e => ?_), fun y => ?_⟩, A2⟩, by omega⟩
      · exact hno y ((P.so.mem y).1 hy) (by rw [e])
      · rw [insL_mem, P.so.mem y, M1 y]
end Go.Proofs.Ytaapdkjmlplhgaa
