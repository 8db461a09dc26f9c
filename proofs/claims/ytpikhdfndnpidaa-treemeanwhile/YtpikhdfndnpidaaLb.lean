/- A Tree and the reference that hold one list. -/
import Derived.Test.YtpikhdfndnpidaaRf
import Derived.Test.YtpikhdfndnpidaaRi
import Derived.Test.YtpikhdfndnpidaaRj
import Derived.Test.YtpikhdfndnpidaaRm
set_option linter.unusedSimpArgs false
set_option linter.unusedVariables false
namespace Go.Proofs.Ytpikhdfndnpidaa
open Go.RowKit Go.Sort Go.Shelf

theorem row_ne {w : World} {base e s n T : Nat} {v : Value} {xs l : List Value} {ty : TypeId} (o : w.ownsRow base e s v n xs) (k : Bk w T ty l) (he : e ≠ ty) : v.ownBlock ≠ some T := fun h => by
  obtain ⟨_, _, cur, hc⟩ := own_lt o h
  unfold Bk at k
  rw [k] at hc
  cases hc
  exact he rfl
theorem RefIs.ch {w w' : World} {base R T : Nat} {l : List E} {tl : List Value} {ty : TypeId} (h : RefIs w base R l) (k : Bk w T ty tl) (h1 : ty ≠ 29) (h2 : ty ≠ 32) (h3 : ty ≠ 36) (g : w.grownBy w' (some T)) : RefIs w' base R l := by
  obtain ⟨hb, iv, bw, kR, o1, o2⟩ := h
  refine ⟨hb, iv, bw, kR.same (g.block R kR.lt (fun e => kR.ne k (fun e => h1 e.symm) (by cases e; rfl))), own_keep o1 g (fun x e e' => ?_), own_keep o2 g (fun x e e' => ?_)⟩
  · cases e'
    exact row_ne o1 k (fun e => h2 e.symm) e
  · cases e'
    exact row_ne o2 k (fun e => h3 e.symm) e
theorem RefIs.notRow {w : World} {base R k : Nat} {l : List E} {ty : TypeId} {kl : List Value} (h : RefIs w base R l) (hk : Bk w k ty kl) (h2 : ty ≠ 32) (h3 : ty ≠ 36) : ¬ RefB w R k := by
  rintro ⟨iv', bw', k', hr⟩
  obtain ⟨hb, iv, bw, kR, o1, o2⟩ := h
  obtain ⟨rfl, rfl⟩ := bk_same kR k'
  rcases hr with hr | hr
  · exact row_ne o1 hk (fun e => h2 e.symm) hr
  · exact row_ne o2 hk (fun e => h3 e.symm) hr
theorem RefIs.keepB {w w' : World} {base R k : Nat} {l : List E} {ty : TypeId} {kl : List Value} (h : RefIs w base R l) (c : RCh w w' base R) (hk : Bk w k ty kl) (h1 : ty ≠ 29) (h2 : ty ≠ 32) (h3 : ty ≠ 36) : Bk w' k ty kl := by
  have h' := h
  obtain ⟨hb, iv, bw, kR, o1, o2⟩ := h'
  exact hk.same (c.keep k hk.lt (hk.ne kR h1) (h.notRow hk h2 h3))
theorem TreeIs.rch {w w' : World} {base R T : Nat} {t : At} {l : List E} (h : TreeIs w T t) (r : RefIs w base R l) (c : RCh w w' base R) : TreeIs w' T t :=
  ⟨r.keepB c h.blk (by decide) (by decide) (by decide), h.tr.nk (fun b m hb => r.keepB c hb (by decide) (by decide) (by decide)), h.srt, h.bal, h.rg, h.few⟩
/-- The Tree in T and the reference in R hold the list of t. -/
structure Pair (base : Nat) (W : World) (T R : Nat) (t : At) : Prop where
  one : TreeIs W T t
  ref : RefIs W base R t.er.toL
  lo : base ≤ T
  sz : base ≤ W.heap.size
theorem Pair.below {base : Nat} {W W' : World} {T R : Nat} {t : At} (h : Pair base W T R t) (g : Below W.heap.size W W') : Pair base W' T R t :=
  ⟨h.one.below g, h.ref.below g, h.lo, Nat.le_trans h.sz g.size⟩
theorem Pair.gr {base : Nat} {W W' : World} {T R : Nat} {t : At} (h : Pair base W T R t) (g : Gr W W') : Pair base W' T R t := h.below g.below
theorem Pair.len {base : Nat} {W : World} {T R : Nat} {t : At} (h : Pair base W T R t) : t.er.toL.length ≤ 1000000 := by have := h.one.few; omega
theorem below_ch {base : Nat} {W W' : World} {T : Nat} (g : W.grownBy W' (some T)) (hT : base ≤ T) (hs : base ≤ W.heap.size) : Below base W W' :=
  below_grown (Below.refl base W) g (fun r e => by cases e; exact hT) hs
theorem Pair.put {base : Nat} {W W1 W2 : World} {T R : Nat} {t t' : At} (h : Pair base W T R t) (g1 : W.grownBy W1 (some T)) (k : TreeIs W1 T t') (r : RefIs W2 base R t'.er.toL) (c : RCh W1 W2 base R) : Pair base W2 T R t' ∧ Below base W W2 :=
  ⟨⟨k.rch (h.ref.ch h.one.blk (by decide) (by decide) (by decide) g1) c, r, h.lo, Nat.le_trans h.sz (Nat.le_trans g1.size c.size)⟩, (below_ch g1 h.lo h.sz).trans c.below⟩
theorem rdel_any (base R : Nat) (l : List E) (k : Int) (w : World) (h : RefIs w base R l) (s : PT.Srt l) (hl : l.length ≤ 65536) (hbw : base ≤ w.heap.size) :
    Calls Try.prog 23 #[.pointer (some ⟨R, 0, none⟩), .int .u32 k] w fun e w' => e = .returned (.int .i64 (delE k l)) ∧ RefIs w' base R (PT.rmv k l) ∧ RCh w w' base R := by
  by_cases c : hasI k l = true
  · unfold delE
    rw [if_pos c]
    exact rdel_ok base R l k w h s c hl hbw
  · have c' : hasI k l = false := by simpa using c
    have e : PT.rmv k l = l := PT.rmv_none (fun x hx e => by have := hasI_iff.2 ⟨x.2, (show (k, x.2) ∈ l by rw [← e]; exact hx)⟩; rw [c'] at this; cases this)
    unfold delE
    rw [if_neg c, e]
    refine (rdel_no base R l k w h s (by omega) c').mono ?_
    rintro e w' ⟨rfl, g⟩
    have h' := h
    obtain ⟨hb, iv, bw, kR, o1, o2⟩ := h'
    exact ⟨rfl, h.gr g, RCh.gr kR g hbw⟩
/-- The box that a list has under a number. -/
def boxL (k : Int) (l : List E) : Q4 := match l[posL k l]? with
  | some x => if x.1 = k then x.2 else (0, 0, 0, 0)
  | none => (0, 0, 0, 0)
theorem pos_has {l : List E} (s : PT.Srt l) (k : Int) : hasI k l = true ↔ ∃ x, l[posL k l]? = some x ∧ x.1 = k := by
  have key : ∀ (l : List E), PT.Srt l → (∀ j x, l[j]? = some x → j < posL k l → x.1 < k) ∧ (∀ j x, l[j]? = some x → posL k l ≤ j → ¬ x.1 < k) := by
    intro l
    induction l with
    | nil => exact fun _ => ⟨fun j x h => by simp at h, fun j x h => by simp at h⟩
    | cons y l ih =>
      intro s
      have s' := List.pairwise_cons.1 s
      obtain ⟨i1, i2⟩ := ih s'.2
      by_cases c : y.1 < k
      · have e : posL k (y :: l) = posL k l + 1 := by unfold posL; rw [List.filter_cons, if_pos (by simpa using c), List.length_cons]
        rw [e]
        refine ⟨fun j x hx hj => ?_, fun j x hx hj => ?_⟩
        · cases j with
          | zero => simp at hx; subst hx; exact c
          | succ j => exact i1 j x (by simpa using hx) (by omega)
        · cases j with
          | zero => omega
          | succ j => exact i2 j x (by simpa using hx) (by omega)
      · have hall : ∀ x ∈ l, ¬ x.1 < k := fun x hx => by have := s'.1 x hx; omega
        have e0 : posL k l = 0 := by unfold posL; rw [List.length_eq_zero_iff, List.filter_eq_nil_iff]; exact fun x hx => by simpa using hall x hx
        have e : posL k (y :: l) = 0 := by unfold posL at *; rw [List.filter_cons, if_neg (by simpa using c)]; exact e0
        rw [e]
        refine ⟨fun j x hx hj => by omega, fun j x hx _ => ?_⟩
        cases j with
        | zero => simp at hx; subst hx; exact c
        | succ j => exact hall x (List.mem_of_getElem? (by simpa using hx))
  exact has_at s (key l s).1 (key l s).2
theorem pos_box {l : List E} (s : PT.Srt l) {k : Int} (h : hasI k l = true) : l[posL k l]? = some (k, boxL k l) := by
  obtain ⟨x, hx, e⟩ := (pos_has s k).1 h
  have : boxL k l = x.2 := by unfold boxL; rw [hx]; simp [e]
  rw [hx, this, ← e]
theorem no_box {l : List E} (s : PT.Srt l) {k : Int} (h : hasI k l = false) : boxL k l = (0, 0, 0, 0) := by
  unfold boxL
  split
  · rename_i x hx
    rw [if_neg]
    intro e
    rw [(pos_has s k).2 ⟨x, hx, e⟩] at h
    cases h
  · rfl
theorem rbox_any (base R : Nat) (l : List E) (k : Int) (w : World) (h : RefIs w base R l) (s : PT.Srt l) (hl : l.length ≤ 1000000) : Calls Try.prog 27 #[.pointer (some ⟨R, 0, none⟩), .int .u32 k] w fun e w' => e = .returned (.tuple #[bv (boxL k l), .bool (hasI k l)]) ∧ Gr w w' := by
  cases hz : hasI k l with
  | true => exact rbox_yes base R l k (boxL k l) w h s hl hz (pos_box s hz)
  | false => rw [no_box s hz]; exact rbox_no base R l k w h s hl hz
theorem tbox_any (T : Nat) (t : At) (k : Int) (w : World) (h : TreeIs w T t) : Calls Try.prog 16 #[.pointer (some ⟨T, 0, none⟩), .int .u32 k] w fun e w' => e = .returned (.tuple #[bv (boxL k t.er.toL), .bool (hasI k t.er.toL)]) ∧ Gr w w' := by
  have hb := box_any T t k w h
  have hF := find_has h.srt k
  cases hz : hasI k t.er.toL with
  | true =>
    rw [hz] at hF
    obtain ⟨q, ql, qh, hq, hm⟩ := PT.find_some h.srt hF
    have e : q = boxL k t.er.toL := srt_unique h.srt hm (List.mem_of_getElem? (pos_box h.srt hz))
    rw [hq] at hb
    rw [← e]
    exact hb
  | false =>
    rw [hz] at hF
    have hq : t.er.find k = .nil := PT.isNil_iff.1 (by rw [hF]; rfl)
    rw [hq] at hb
    rw [no_box h.srt hz]
    exact hb
end Go.Proofs.Ytpikhdfndnpidaa
