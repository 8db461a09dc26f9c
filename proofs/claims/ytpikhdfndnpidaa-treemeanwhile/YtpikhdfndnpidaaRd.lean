/- The reference's Put: its rows grown by one, moved up, set. -/
import Derived.Test.YtpikhdfndnpidaaRc
set_option linter.unusedSimpArgs false
set_option linter.unusedVariables false
namespace Go.Proofs.Ytpikhdfndnpidaa
open Go.RowKit Go.Sort Go.Shelf

def quadC : List Q4 → List Value
  | [] => []
  | q :: l => .int .i32 q.1 :: .int .i32 q.2.1 :: .int .i32 q.2.2.1 :: .int .i32 q.2.2.2 :: quadC l
theorem quadC_len (l : List Q4) : (quadC l).length = l.length * 4 := by
  induction l with
  | nil => rfl
  | cons x l ih => simp [quadC, ih]; omega
theorem quadC_append (l m : List Q4) : quadC (l ++ m) = quadC l ++ quadC m := by
  induction l with
  | nil => rfl
  | cons x l ih => simp [quadC, ih]
theorem boxC_quad (l : List E) : boxC l = quadC (l.map (fun x => x.2)) := by
  induction l with
  | nil => rfl
  | cons x l ih => simp [boxC, quadC, ih]
theorem quadC_at (l : List Q4) (k : Nat) (x : Q4) (h : l[k]? = some x) : (quadC l)[k * 4]? = some (.int .i32 x.1) ∧ (quadC l)[k * 4 + 1]? = some (.int .i32 x.2.1) ∧ (quadC l)[k * 4 + 2]? = some (.int .i32 x.2.2.1) ∧ (quadC l)[k * 4 + 3]? = some (.int .i32 x.2.2.2) := by
  induction l generalizing k with
  | nil => cases h
  | cons y l ih =>
    cases k with
    | zero => simp at h; subst h; simp [quadC]
    | succ k =>
      have := ih k (by simpa using h)
      rw [show (k + 1) * 4 = k * 4 + 4 by omega]
      simpa [quadC] using this
theorem quadC_set (l : List Q4) (k : Nat) (x : Q4) : ((((quadC l).set (k * 4) (.int .i32 x.1)).set (k * 4 + 1) (.int .i32 x.2.1)).set (k * 4 + 2) (.int .i32 x.2.2.1)).set (k * 4 + 3) (.int .i32 x.2.2.2) = quadC (l.set k x) := by
  induction l generalizing k with
  | nil => simp [quadC]
  | cons y l ih =>
    cases k with
    | zero => simp [quadC]
    | succ k =>
      rw [show (k + 1) * 4 = k * 4 + 4 by omega]
      simpa [quadC] using ih k
/-- The reference's rows as they lie: the blocks gi and gb. -/
structure Lie (w : World) (base R gi ci gb cb : Nat) (I : List Int) (Q : List Q4) : Prop where
  blk : Bk w R 29 [.slice (some ⟨gi, 0, none⟩) I.length ci, .slice (some ⟨gb, 0, none⟩) Q.length cb]
  ids : w.ownsRow base 32 1 (.slice (some ⟨gi, 0, none⟩) I.length ci) I.length (numC I)
  box : w.ownsRow base 36 4 (.slice (some ⟨gb, 0, none⟩) Q.length cb) Q.length (quadC Q)
theorem own_block {w : World} {base e s g n cap : Nat} {xs : List Value} (h : w.ownsRow base e s (.slice (some ⟨g, 0, none⟩) n cap) n xs) : ∃ cur, w.heap[g]? = some (.cells cur e (0, 0)) := by
  obtain ⟨_, _, cur, h⟩ := own_lt (g := g) h rfl
  exact ⟨cur, h⟩
theorem Lie.ne {w : World} {base R gi ci gb cb : Nat} {I : List Int} {Q : List Q4} (h : Lie w base R gi ci gb cb I Q) : gi ≠ gb ∧ R ≠ gi ∧ R ≠ gb := by
  obtain ⟨c1, h1⟩ := own_block h.ids
  obtain ⟨c2, h2⟩ := own_block h.box
  have h3 := h.blk
  unfold Bk at h3
  refine ⟨fun e => ?_, fun e => ?_, fun e => ?_⟩
  · rw [e, h2] at h1; cases h1
  · rw [e, h1] at h3; cases h3
  · rw [e, h2] at h3; cases h3
theorem numC_at (I : List Int) (k : Nat) (x : Int) (h : I[k]? = some x) : (numC I)[k]? = some (.int .u32 x) := by rw [List.getElem?_map, h]; rfl
theorem Lie.id {w : World} {base R gi ci gb cb : Nat} {I : List Int} {Q : List Q4} (h : Lie w base R gi ci gb cb I Q) {k : Nat} {x : Int} (hx : I[k]? = some x) : w.cell? ⟨gi, k, none⟩ = some (.int .u32 x) ∧ w.frozen? ⟨gi, k, none⟩ = false := by
  have c := h.ids.cells (g := gi) rfl k _ (numC_at I k x hx)
  rw [add_zero] at c
  exact ⟨c, h.ids.frozenAt k⟩
theorem Lie.bx {w : World} {base R gi ci gb cb : Nat} {I : List Int} {Q : List Q4} (h : Lie w base R gi ci gb cb I Q) {k : Nat} {x : Q4} (hx : Q[k]? = some x) : (w.cell? ⟨gb, k * 4, none⟩ = some (.int .i32 x.1) ∧ w.cell? ⟨gb, k * 4 + 1, none⟩ = some (.int .i32 x.2.1) ∧ w.cell? ⟨gb, k * 4 + 2, none⟩ = some (.int .i32 x.2.2.1) ∧ w.cell? ⟨gb, k * 4 + 3, none⟩ = some (.int .i32 x.2.2.2)) ∧ ∀ j, w.frozen? ⟨gb, j, none⟩ = false := by
  obtain ⟨b0, b1, b2, b3⟩ := quadC_at Q k x hx
  have c0 := h.box.cells (g := gb) rfl _ _ b0
  have c1 := h.box.cells (g := gb) rfl _ _ b1
  have c2 := h.box.cells (g := gb) rfl _ _ b2
  have c3 := h.box.cells (g := gb) rfl _ _ b3
  rw [add_zero] at c0 c1 c2 c3
  exact ⟨⟨c0, c1, c2, c3⟩, fun j => h.box.frozenAt j⟩
theorem Lie.setI {w : World} {base R gi ci gb cb : Nat} {I : List Int} {Q : List Q4} (h : Lie w base R gi ci gb cb I Q) (k : Nat) (x : Int) : Lie (w.setCell ⟨gi, k, none⟩ (.int .u32 x)) base R gi ci gb cb (I.set k x) Q := by
  obtain ⟨n1, n2, n3⟩ := h.ne
  refine ⟨?_, ?_, ?_⟩
  · rw [List.length_set]; exact h.blk.other (a := ⟨gi, k, none⟩) n2 _
  · have := (h.ids.stored k (.int .u32 x)).1
    have e : numC (I.set k x) = (numC I).set k (.int .u32 x) := List.map_set ..
    rw [List.length_set, e]
    exact this
  · refine own_keep h.box (ch_set w gi k _) (fun g e e' => ?_)
    simp [Value.ownBlock] at e
    cases e'
    exact n1 e.symm
theorem Lie.setB {w : World} {base R gi ci gb cb : Nat} {I : List Int} {Q : List Q4} (h : Lie w base R gi ci gb cb I Q) (k : Nat) (x : Q4) :
    Lie ((((w.setCell ⟨gb, k * 4, none⟩ (.int .i32 x.1)).setCell ⟨gb, k * 4 + 1, none⟩ (.int .i32 x.2.1)).setCell ⟨gb, k * 4 + 2, none⟩ (.int .i32 x.2.2.1)).setCell ⟨gb, k * 4 + 3, none⟩ (.int .i32 x.2.2.2)) base R gi ci gb cb I (Q.set k x) := by
  obtain ⟨n1, n2, n3⟩ := h.ne
  refine ⟨?_, ?_, ?_⟩
  · rw [List.length_set]; exact (((h.blk.other (a := ⟨gb, k * 4, none⟩) n3 _).other (a := ⟨gb, k * 4 + 1, none⟩) n3 _).other (a := ⟨gb, k * 4 + 2, none⟩) n3 _).other (a := ⟨gb, k * 4 + 3, none⟩) n3 _
  · have st : ∀ {w : World} (j : Nat) (u : Value), w.ownsRow base 32 1 (.slice (some ⟨gi, 0, none⟩) I.length ci) I.length (numC I) → (w.setCell ⟨gb, j, none⟩ u).ownsRow base 32 1 (.slice (some ⟨gi, 0, none⟩) I.length ci) I.length (numC I) := fun {w} j u h => own_keep h (ch_set w gb j u) (fun g e e' => by simp [Value.ownBlock] at e; cases e'; exact n1 e)
    exact st _ _ (st _ _ (st _ _ (st _ _ h.ids)))
  · have := ((((h.box.stored (k * 4) (.int .i32 x.1)).1.stored (k * 4 + 1) (.int .i32 x.2.1)).1.stored (k * 4 + 2) (.int .i32 x.2.2.1)).1.stored (k * 4 + 3) (.int .i32 x.2.2.2)).1
    rw [List.length_set, ← quadC_set]
    exact this
theorem Lie.gr {w w' : World} {base R gi ci gb cb : Nat} {I : List Int} {Q : List Q4} (h : Lie w base R gi ci gb cb I Q) (g : Gr w w') : Lie w' base R gi ci gb cb I Q :=
  ⟨h.blk.gr g, own_keep h.ids g.grownBy (fun _ _ e => by cases e), own_keep h.box g.grownBy (fun _ _ e => by cases e)⟩
/-- A list on its way up: below j as it was, above it moved by one. -/
structure Up {α : Type} (l : List α) (j : Nat) (I : List α) : Prop where
  len : I.length = l.length + 1
  lo : ∀ m, m < j → I[m]? = l[m]?
  hi : ∀ m, j < m → I[m]? = l[m - 1]?
theorem Up.start {α : Type} (l : List α) (z : α) : Up l l.length (l ++ [z]) :=
  ⟨by simp, fun m hm => List.getElem?_append_left hm, fun m hm => by rw [List.getElem?_eq_none (by simp; omega), List.getElem?_eq_none (by omega)]⟩
theorem Up.step {α : Type} {l I : List α} {j : Nat} (h : Up l (j + 1) I) {x : α} (hx : l[j]? = some x) : Up l j (I.set (j + 1) x) := by
  refine ⟨by rw [List.length_set]; exact h.len, fun m hm => ?_, fun m hm => ?_⟩
  · rw [List.getElem?_set_ne (by omega)]; exact h.lo m (by omega)
  · by_cases e : m = j + 1
    · subst e
      have : j < l.length := (List.getElem?_eq_some_iff.1 hx).1
      rw [List.getElem?_set_self (by rw [h.len]; omega), Nat.add_sub_cancel, hx]
    · rw [List.getElem?_set_ne (by omega)]; exact h.hi m (by omega)
theorem Up.done {α : Type} {l I : List α} {j : Nat} (h : Up l j I) (hj : j ≤ l.length) (z : α) : I.set j z = l.take j ++ z :: l.drop j := by
  apply List.ext_getElem?
  intro m
  rcases Nat.lt_trichotomy m j with c | c | c
  · rw [List.getElem?_set_ne (by omega), h.lo m c, List.getElem?_append_left (by rw [List.length_take]; omega), List.getElem?_take_of_lt c]
  · subst c
    rw [List.getElem?_set_self (by rw [h.len]; omega), List.getElem?_append_right (by rw [List.length_take]; omega)]
    simp [List.length_take, Nat.min_eq_left hj]
  · rw [List.getElem?_set_ne (by omega), h.hi m c, List.getElem?_append_right (by rw [List.length_take]; omega), List.length_take, Nat.min_eq_left hj]
    obtain ⟨d, rfl⟩ : ∃ d, m = j + 1 + d := ⟨m - j - 1, by omega⟩
    rw [show j + 1 + d - j = d + 1 by omega, List.getElem?_cons_succ, List.getElem?_drop]
    congr 1
    omega
theorem insL_pos (i : Int) (q : Q4) : ∀ (l : List E), PT.Srt l → (∀ x ∈ l, x.1 ≠ i) → insL i q l = l.take (posL i l) ++ (i, q) :: l.drop (posL i l)
  | [], _, _ => rfl
  | x :: l, s, hn => by
    have s' := List.pairwise_cons.1 s
    have hx := hn x (by simp)
    have ih := insL_pos i q l s'.2 (fun y hy => hn y (by simp [hy]))
    simp only [insL]
    by_cases c : i < x.1
    · have : posL i (x :: l) = 0 := by
        unfold posL
        rw [List.length_eq_zero_iff, List.filter_eq_nil_iff]
        intro y hy
        rcases List.mem_cons.1 hy with rfl | hy
        · simp; omega
        · have := s'.1 y hy; simp; omega
      rw [if_pos c, this]
      rfl
    · have : posL i (x :: l) = posL i l + 1 := by
        unfold posL
        rw [List.filter_cons, if_pos (by simp; omega)]
        rfl
      rw [if_neg c, this, ih]
      rfl
end Go.Proofs.Ytpikhdfndnpidaa
