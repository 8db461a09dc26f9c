/- Dues in memory; what Len, First, Ready tell. -/
import Derived.Test.YtaapdkjmlplhgaaHc
set_option linter.unusedSimpArgs false
set_option linter.unusedVariables false
namespace Go.Proofs.Ytaapdkjmlplhgaa
open Go.RowKit Go.Sort Go.Shelf Go.Maps
attribute [local go_sem] Oper.semAt_some wide_fn
attribute [local simp] wide_fn

def ix (o : Option Nat) : Nat := o.getD 0
theorem look_map {w : World} {b s : Nat} {m : Pf} (H : MapF w b s m) {k : Int × Int} (hk : okK k) :
    (Instr.lookup 52 (.map (some b)) (kV k) true).run Try.prog w = .ok (.tuple #[.int .i64 (ix (m k)), .bool (m k).isSome]) w := by
  obtain ⟨D, hD, hs, hm⟩ := H
  obtain ⟨v, ps, hrun, hv⟩ := hD.look_ok m_law (t := 52) (e := 3) Try.underlying52 (z3 w) (zd := .lit (.int .i64 0)) (zp := []) (plainElem_int Try.underlying3 (by decide)) (key_of hk)
  obtain ⟨c, rfl, hc, _⟩ := plainElem_int_inv Try.underlying3 hv
  obtain ⟨h1, h2⟩ := hm k hk
  rw [hrun, h1]
  have hc1 : D.atKey (kl k) (.lit (.int .i64 0)) = .lit (.int .i64 c) := congrArg Prod.fst hc
  have : c = (ix (m k) : Nat) := by
    cases hq : m k with
    | none =>
      rw [hq] at h1
      rw [atKey_of_not_has (by simpa using h1)] at hc1
      simp only [DataW.lit.injEq, Lit.int.injEq, true_and] at hc1
      simp [ix, ← hc1]
    | some i =>
      rw [h2 i hq] at hc1
      simp only [DataW.lit.injEq, Lit.int.injEq, true_and] at hc1
      simp [ix, ← hc1]
  rw [this]
/-- What a heap of dues is, apart from memory. -/
structure PD (l : List Du) (m : Pf) : Prop where
  heap : HeapL l
  ok : ∀ y ∈ l, okD y
  tie : ∀ j, j < l.length → m (nth l j).2 = some j
  fr : ∀ k, (∀ y ∈ l, y.2 ≠ k) → m k = none
theorem PD.empty : PD [] (fun _ => none) := ⟨fun j _ h => by simp at h, fun y h => by simp at h, fun j h => by simp at h, fun _ _ => rfl⟩
/-- One stands for the key just if the map has it. -/
theorem PD.has {l : List Du} {m : Pf} (P : PD l m) (k : Int × Int) : (∃ j, m k = some j) ↔ ∃ y ∈ l, y.2 = k := by
  constructor
  · rintro ⟨j, h⟩
    refine Classical.byContradiction fun hn => ?_
    rw [P.fr k (fun y hy e => hn ⟨y, hy, e⟩)] at h
    cases h
  · rintro ⟨y, hy, e⟩
    obtain ⟨j, h1, h2⟩ := mem_nth.1 hy
    exact ⟨j, by rw [← e, ← h2]; exact P.tie j h1⟩
theorem PD.at {l : List Du} {m : Pf} (P : PD l m) {k : Int × Int} {j : Nat} (h : m k = some j) : j < l.length ∧ (nth l j).2 = k := by
  obtain ⟨y, hy, e⟩ := (P.has k).1 ⟨j, h⟩
  obtain ⟨i, h1, h2⟩ := mem_nth.1 hy
  have := P.tie i h1
  rw [h2, e, h] at this
  cases this
  exact ⟨h1, by rw [h2, e]⟩
theorem PD.put {l l' : List Du} {m m' : Pf} {x : Du} (P : PD l m) (hx : okD x) (S : Settled (l ++ [x]) m l.length x l' m') : PD l' m' ∧ (∀ y, y ∈ l' ↔ y = x ∨ y ∈ l) ∧ l'.length = l.length + 1 := by
  have hm : ∀ y, y ∈ l' ↔ y = x ∨ y ∈ l := fun y => (S.mem y).trans (or_congr Iff.rfl (oth_app l x y))
  refine ⟨⟨S.heap, fun y hy => ?_, S.tie, fun k hk => ?_⟩, hm, by rw [S.len]; simp⟩
  · rcases (hm y).1 hy with rfl | h
    · exact hx
    · exact P.ok y h
  · rw [S.keep k (fun e => hk x ((hm x).2 (.inl rfl)) e.symm) (fun y hy => hk y ((hm y).2 (.inr ((oth_app l x y).1 hy))))]
    exact P.fr k (fun y hy => hk y ((hm y).2 (.inr hy)))
theorem PD.cut {l l' : List Du} {m m' : Pf} {i : Nat} (P : PD l m) (hi : i < l.length) (C : CutIs l m i l' m') : PD l' (upd m' (nth l i).2 none) ∧ (∀ y, y ∈ l' ↔ y ∈ l ∧ y.2 ≠ (nth l i).2) ∧ l'.length + 1 = l.length := by
  have hm : ∀ y, y ∈ l' ↔ y ∈ l ∧ y.2 ≠ (nth l i).2 := fun y => by
    rw [C.mem y, mem_nth]
    constructor
    · rintro ⟨j, h1, h2, h3⟩
      refine ⟨⟨j, h1, h3⟩, fun e => h2 ?_⟩
      have a := P.tie j h1
      rw [h3, e, P.tie i hi] at a
      exact (Option.some.inj a).symm
    · rintro ⟨⟨j, h1, h3⟩, h4⟩
      exact ⟨j, h1, fun e => h4 (by rw [← h3, e]), h3⟩
  refine ⟨⟨C.heap, fun y hy => P.ok y ((hm y).1 hy).1, fun j hj => ?_, fun k hk => ?_⟩, hm, C.len⟩
  · have : (nth l' j).2 ≠ (nth l i).2 := ((hm _).1 (mem_nth.2 ⟨j, hj, rfl⟩)).2
    simp only [upd, this, if_false]
    exact C.tie j hj
  · by_cases e : k = (nth l i).2
    · simp [upd, e]
    · simp only [upd, e, if_false]
      rw [C.keep k (fun y hy => hk y ((C.mem y).2 hy))]
      refine P.fr k (fun y hy e2 => ?_)
      exact hk y ((hm y).2 ⟨hy, by rw [e2]; exact e⟩) e2
/-- Dues in memory. -/
structure Ds (B : Nat) (w : World) (d h pb mb : Nat) (v : Value) (l : List Du) (m : Pf) (most : Nat) : Prop where
  due : Bk w d 54 [.int .i64 most, .pointer (some ⟨h, 0, none⟩), .map (some mb)]
  hv : Hv B w h pb mb v l l.length m
  pd : PD l m
  lo : B ≤ d ∧ B ≤ h ∧ B ≤ pb ∧ B ≤ mb
  mo : l.length ≤ most ∧ most ≤ 4096
section
variable {B : Nat} {w w' : World} {d h pb mb : Nat} {v : Value} {l : List Du} {m : Pf} {most : Nat}
theorem Ds.gr (D : Ds B w d h pb mb v l m most) (g : Gr w w') : Ds B w' d h pb mb v l m most := ⟨D.due.gr g, D.hv.gr g, D.pd, D.lo, D.mo⟩
theorem Hv.chg {s : Nat} {p : Nat → Prop} (H : Hv B w h pb mb v l s m) (k : Chg p w w') (h1 : ¬ p h) (h2 : ¬ p pb) (h3 : ∀ g, v.ownBlock = some g → ¬ p g) (h4 : ¬ p mb) : Hv B w' h pb mb v l s m :=
  ⟨H.heap.chg k h1, H.cap.chg k h2, row_keep H.row (fun g e => k.block _ (row_lt H.row e).1 (h3 g e)), H.map.same (k.block _ H.map.lt h4)⟩
theorem Ds.chg {p : Nat → Prop} (D : Ds B w d h pb mb v l m most) (k : Chg p w w') (h0 : ¬ p d) (h1 : ¬ p h) (h2 : ¬ p pb) (h3 : ∀ g, v.ownBlock = some g → ¬ p g) (h4 : ¬ p mb) : Ds B w' d h pb mb v l m most :=
  ⟨D.due.chg k h0, D.hv.chg k h1 h2 h3 h4, D.pd, D.lo, D.mo⟩
theorem Ds.cells (D : Ds B w d h pb mb v l m most) : w.cell? ⟨d, 0, none⟩ = some (.int .i64 most) ∧ w.cell? ⟨d, 1, none⟩ = some (.pointer (some ⟨h, 0, none⟩)) ∧ w.cell? ⟨d, 2, none⟩ = some (.map (some mb)) ∧ w.cell? ⟨h, 0, none⟩ = some v :=
  ⟨D.due.at 0, D.due.at 1, D.due.at 2, D.hv.heap.at 0⟩
/-- The list's own value: none, or a row. -/
theorem Ds.shape (D : Ds B w d h pb mb v l m most) : (v = .slice none 0 0 ∧ l = []) ∨ ∃ g cp, v = .slice (some ⟨g, 0, none⟩) l.length cp ∧ B ≤ g ∧ RowG w g cp l ∧ l.length ≤ cp := row_of_own D.hv.row
end
theorem absent_yes {B : Nat} {w : World} {d h pb mb : Nat} {v : Value} {l : List Du} {m : Pf} {most : Nat} (D : Ds B w d h pb mb v l m most) :
    Calls Try.prog 31 #[.pointer (some ⟨d, 0, none⟩)] w fun e w' => e = .returned (.bool false) ∧ w' = w := by
  obtain ⟨c0, c1, c2, c3⟩ := D.cells
  clear D
  go_enter Try.func31, Try.ntmps31
  go_wp2
  go_ret
  exact ⟨rfl, rfl⟩
theorem len_yes {B : Nat} {w : World} {d h pb mb : Nat} {v : Value} {l : List Du} {m : Pf} {most : Nat} (D : Ds B w d h pb mb v l m most) :
    Calls Try.prog 10 #[.pointer (some ⟨d, 0, none⟩)] w fun e w' => e = .returned (.int .i64 l.length) ∧ w' = w := by
  obtain ⟨c0, c1, c2, c3⟩ := D.cells
  have I := hid0 (absent_yes D)
  have S := D.shape
  clear D
  rcases S with ⟨rfl, rfl⟩ | ⟨g, cp, rfl, _⟩
  · go_enter Try.func10, Try.ntmps10
    go_wp2_with (go_at_call 31; refine I.out.mono ?_; rintro e w1 ⟨rfl, rfl⟩)
    go_ret
    exact ⟨rfl, rfl⟩
  · go_enter Try.func10, Try.ntmps10
    go_wp2_with (go_at_call 31; refine I.out.mono ?_; rintro e w1 ⟨rfl, rfl⟩)
    go_ret
    exact ⟨rfl, rfl⟩
theorem first_yes {B : Nat} {w : World} {d h pb mb : Nat} {v : Value} {l : List Du} {m : Pf} {most : Nat} (D : Ds B w d h pb mb v l m most) :
    Calls Try.prog 26 #[.pointer (some ⟨d, 0, none⟩)] w fun e w' => e = .returned (.tuple #[dV (nth l 0), .bool (decide (0 < l.length))]) ∧ Gr w w' := by
  have g := (Gr.refl w).alloc (.cells #[.int .u32 0, .int .u32 0, .int .u32 0] 32)
  have I := hid0 (len_yes (D.gr g))
  obtain ⟨c0, c1, c2, c3⟩ := (D.gr g).cells
  have S := (D.gr g).shape
  clear D
  have g := hid0 g
  rcases S with ⟨rfl, rfl⟩ | ⟨g1, cp, rfl, _, R, _⟩
  · go_enter Try.func26, Try.ntmps26
    go_wp2_with (go_at_call 10; refine I.out.mono ?_; rintro e w1 ⟨rfl, rfl⟩)
    refine bodyPost_ret (v := .tuple #[dV (0, 0, 0), .bool false]) (by simp [results, Try.results26, go_sem]) rfl ⟨rfl, g.out⟩
  · by_cases h0 : l.length = 0
    · have := List.eq_nil_of_length_eq_zero h0
      subst this
      go_enter Try.func26, Try.ntmps26
      go_wp2_with (go_at_call 10; refine I.out.mono ?_; rintro e w1 ⟨rfl, rfl⟩)
      refine bodyPost_ret (v := .tuple #[dV (0, 0, 0), .bool false]) (by simp [results, Try.results26, go_sem]) rfl ⟨rfl, g.out⟩
    · obtain ⟨p0, p1, p2⟩ := R.at.cell (show 0 < l.length by omega)
      have hd : decide (0 < l.length) = true := decide_eq_true (by omega)
      rw [hd]
      have h0' : ¬ ((l.length : Int) = 0) := by omega
      have h0'' : (0 : Int) < (l.length : Int) := by omega
      have k3 := R.at
      dsimp only [nth]
      generalize l.getD 0 (0, 0, 0) = x at *
      obtain ⟨xa, xo, xf⟩ := x
      simp only [Nat.zero_mul, Nat.zero_add] at p0 p1 p2
      have gE : Hid (Gr w (w.alloc (.cells #[.int .u32 xa, .int .u32 xo, .int .u32 xf] 32))) := (Gr.refl w).alloc _
      clear hd k3
      go_enter Try.func26, Try.ntmps26
      go_wp2_with (go_at_call 10; refine I.out.mono ?_; rintro e w1 ⟨rfl, rfl⟩)
      refine bodyPost_ret (v := .tuple #[dV (xa, xo, xf), .bool true]) (by simp [results, Try.results26, go_sem]) rfl ⟨rfl, gE.out⟩
def rdy (l : List Du) (now : Int) : Bool := decide (0 < l.length) && decide ((nth l 0).1 ≤ now)
theorem ready_yes {B : Nat} {w : World} {d h pb mb : Nat} {v : Value} {l : List Du} {m : Pf} {most : Nat} (D : Ds B w d h pb mb v l m most) (now : Int) :
    Calls Try.prog 28 #[.pointer (some ⟨d, 0, none⟩), .int .u32 now] w fun e w' => e = .returned (.bool (rdy l now)) ∧ Gr w w' := by
  have I := hid0 (first_yes D)
  unfold rdy
  clear D
  generalize nth l 0 = x at *
  obtain ⟨xa, xo, xf⟩ := x
  cases hd : decide (0 < l.length) with
  | false =>
    rw [hd] at I
    simp only [Bool.false_and]
    go_enter Try.func28, Try.ntmps28
    go_wp2_with fail
    refine I.out.mono ?_
    rintro e w1 ⟨rfl, g⟩
    replace g := hid0 g
    clear I
    go_wp2
    go_ret
    exact ⟨rfl, g.out.alloc _⟩
  | true =>
    rw [hd] at I
    simp only [Bool.true_and]
    go_enter Try.func28, Try.ntmps28
    go_wp2_with fail
    refine I.out.mono ?_
    rintro e w1 ⟨rfl, g⟩
    replace g := hid0 g
    clear I
    go_wp2
    go_ret
    exact ⟨rfl, g.out.alloc _⟩
end Go.Proofs.Ytaapdkjmlplhgaa
