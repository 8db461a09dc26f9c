/- An In stays where a box of the law is written. -/
import Derived.Test.YtomklacjaadcaaaDoorOther
namespace Go.Proofs.YtomklacjaadcaaaDoor
open Go.RowKit Go.Sort

theorem By.box {a b : World} {ao : Option Addr} {l : List UInt8} {g : Nat} (h : By a ao l) (hb : Row a g 54 [.int .u64 0, .string ⟨#[]⟩]) (k : a.grownBy b (some g)) : By b ao l := fun i hi => by
  obtain ⟨bl, off, e, hc⟩ := h i hi
  refine ⟨bl, off, e, k.cell hc ?_⟩
  intro e2
  have hg : bl = g := by simpa using e2
  subst hg
  rw [hb.cell] at hc
  match off + i, hc with
  | 0, hc => simp at hc
  | 1, hc => simp at hc
  | n + 2, hc => simp at hc
theorem InIs.box {a b : World} {i g : Nat} {l : List UInt8} {at' f : Nat} (h : InIs a i l at' f) (hb : Row a g 54 [.int .u64 0, .string ⟨#[]⟩]) (hi : i ≠ g) (k : a.grownBy b (some g)) : InIs b i l at' f := by
  obtain ⟨ao, cap, h1, h2, h3, h4, h5, h6⟩ := h
  exact ⟨ao, cap, h1.grown k (by intro e; cases e; exact hi rfl), h2.box hb k, h3, h4, h5, h6⟩
theorem RefIs.box {a b : World} {i g : Nat} {l : List UInt8} {at' f : Nat} (h : RefIs a i l at' f) (hb : Row a g 54 [.int .u64 0, .string ⟨#[]⟩]) (hi : i ≠ g) (k : a.grownBy b (some g)) : RefIs b i l at' f := by
  obtain ⟨ao, cap, h1, h2, h3, h4, h5, h6⟩ := h
  exact ⟨ao, cap, h1.grown k (by intro e; cases e; exact hi rfl), h2.box hb k, h3, h4, h5, h6⟩
theorem RefIs.below {w w' : World} {i : Nat} {l : List UInt8} {at' f : Nat} (h : RefIs w i l at' f) (k : Below w.heap.size w w') : RefIs w' i l at' f := by
  obtain ⟨ao, cap, h1, h2, h3, h4, h5, h6⟩ := h
  exact ⟨ao, cap, h1.below k h1.lt, h2.mono k, h3, h4, h5, h6⟩
theorem InIs.lt {w : World} {i : Nat} {l : List UInt8} {at' f : Nat} (h : InIs w i l at' f) : i < w.heap.size := by
  obtain ⟨ao, cap, h1, _⟩ := h
  exact h1.lt
theorem RefIs.lt {w : World} {i : Nat} {l : List UInt8} {at' f : Nat} (h : RefIs w i l at' f) : i < w.heap.size := by
  obtain ⟨ao, cap, h1, _⟩ := h
  exact h1.lt
/-- Both sides answer alike: what a take of one kind gives. -/
def Alike (k most : Int) (l : List UInt8) (at' f : Nat) : Prop := ∃ (N : Int) (S : List UInt8) (a g : Nat),
  (∀ w i, InIs w i l at' f → Calls Tryd.prog 18 #[.pointer (some ⟨i, 0, none⟩), .agg #[.int .i64 k, .int .i64 most]] w fun e w' => e = .returned (gotV N S) ∧ InIs w' i l a g ∧ w.grownBy w' (some i)) ∧
  (∀ w r, RefIs w r l at' f → Calls Tryd.prog 19 #[.pointer (some ⟨r, 0, none⟩), .agg #[.int .i64 k, .int .i64 most]] w fun e w' => e = .returned (gotV N S) ∧ RefIs w' r l a g ∧ w.grownBy w' (some r))
theorem alike1 (most : Int) (l : List UInt8) (at' f : Nat) : Alike 1 most l at' f :=
  ⟨_, _, _, _,
    fun w i h => takes1 _ most _ w i h.lt (fun w' => InIs w' i l _ _) (fun _ _ q b k => q.box b (by have := h.lt; omega) k) (fun w1 b => take51_any i at' f l w1 (h.below b)),
    fun w r h => taken1 _ most _ w r h.lt (fun w' => RefIs w' r l _ _) (fun _ _ q b k => q.box b (by have := h.lt; omega) k) (fun w1 b => fixed_any r 1 at' f l (by decide) (by decide) w1 (h.below b))⟩
theorem alike3 (most : Int) (l : List UInt8) (at' f : Nat) : Alike 3 most l at' f :=
  ⟨_, _, _, _,
    fun w i h => takes3 _ most _ w i h.lt (fun w' => InIs w' i l _ _) (fun _ _ q b k => q.box b (by have := h.lt; omega) k) (fun w1 b => take53_any i at' f l w1 (h.below b)),
    fun w r h => taken3 _ most _ w r h.lt (fun w' => RefIs w' r l _ _) (fun _ _ q b k => q.box b (by have := h.lt; omega) k) (fun w1 b => fixed_any r 2 at' f l (by decide) (by decide) w1 (h.below b))⟩
theorem alike5 (most : Int) (l : List UInt8) (at' f : Nat) : Alike 5 most l at' f :=
  ⟨_, _, _, _,
    fun w i h => takes5 _ most _ w i h.lt (fun w' => InIs w' i l _ _) (fun _ _ q b k => q.box b (by have := h.lt; omega) k) (fun w1 b => take54_any i at' f l w1 (h.below b)),
    fun w r h => taken5 _ most _ w r h.lt (fun w' => RefIs w' r l _ _) (fun _ _ q b k => q.box b (by have := h.lt; omega) k) (fun w1 b => fixed_any r 4 at' f l (by decide) (by decide) w1 (h.below b))⟩
theorem fixV_lt (l : List UInt8) (n at' f : Nat) : fixV l n at' f < 256 ^ n := by
  unfold fixV
  split
  · rename_i h
    have := num_lt ((l.drop at').take n)
    rwa [show ((l.drop at').take n).length = n from by simp; omega] at this
  · exact Nat.pow_pos (by decide)
theorem alike2 (most : Int) (l : List UInt8) (at' f : Nat) : Alike 2 most l at' f := by
  have hv := fixV_lt l 1 at' f
  have e : IntKind.u64.wrap (IntKind.u8.wrap (fixV l 1 at' f : Nat)) = (fixV l 1 at' f : Nat) := by
    rw [IntKind.wrap_u64, IntKind.wrap_u8']
    omega
  refine ⟨(fixV l 1 at' f : Nat), [], _, _, fun w i h => ?_, fun w r h => taken2 _ most _ w r h.lt (fun w' => RefIs w' r l _ _) (fun _ _ q b k => q.box b (by have := h.lt; omega) k) (fun w1 b => fixed_any r 1 at' f l (by decide) (by decide) w1 (h.below b))⟩
  have := takes2 _ most _ w i h.lt (fun w' => InIs w' i l _ _) (fun _ _ q b k => q.box b (by have := h.lt; omega) k) (fun w1 b => take52_any i at' f l w1 (h.below b))
  rw [e] at this
  exact this
theorem alike4 (most : Int) (l : List UInt8) (at' f : Nat) : Alike 4 most l at' f := by
  have hv := fixV_lt l 2 at' f
  have e : IntKind.u64.wrap (IntKind.u16.wrap (fixV l 2 at' f : Nat)) = (fixV l 2 at' f : Nat) := by
    rw [IntKind.wrap_u64, IntKind.wrap_u16]
    omega
  refine ⟨(fixV l 2 at' f : Nat), [], _, _, fun w i h => ?_, fun w r h => taken4 _ most _ w r h.lt (fun w' => RefIs w' r l _ _) (fun _ _ q b k => q.box b (by have := h.lt; omega) k) (fun w1 b => fixed_any r 2 at' f l (by decide) (by decide) w1 (h.below b))⟩
  have := takes4 _ most _ w i h.lt (fun w' => InIs w' i l _ _) (fun _ _ q b k => q.box b (by have := h.lt; omega) k) (fun w1 b => take33_any i at' f l w1 (h.below b))
  rw [e] at this
  exact this
theorem alike6 (most : Int) (l : List UInt8) (at' f : Nat) : Alike 6 most l at' f := by
  have hv := fixV_lt l 4 at' f
  have e : IntKind.u64.wrap (IntKind.u32.wrap (fixV l 4 at' f : Nat)) = (fixV l 4 at' f : Nat) := by
    rw [IntKind.wrap_u64, IntKind.wrap_u32']
    omega
  refine ⟨(fixV l 4 at' f : Nat), [], _, _, fun w i h => ?_, fun w r h => taken6 _ most _ w r h.lt (fun w' => RefIs w' r l _ _) (fun _ _ q b k => q.box b (by have := h.lt; omega) k) (fun w1 b => fixed_any r 4 at' f l (by decide) (by decide) w1 (h.below b))⟩
  have := takes6 _ most _ w i h.lt (fun w' => InIs w' i l _ _) (fun _ _ q b k => q.box b (by have := h.lt; omega) k) (fun w1 b => take55_any i at' f l w1 (h.below b))
  rw [e] at this
  exact this
theorem alike7 (most : Int) (l : List UInt8) (at' f : Nat) : Alike 7 most l at' f := by
  have hv := fixV_lt l 8 at' f
  have e : IntKind.u64.wrap (wrap64 (fixV l 8 at' f : Nat)) = (fixV l 8 at' f : Nat) := by
    rw [IntKind.wrap_u64]
    unfold wrap64
    omega
  refine ⟨(fixV l 8 at' f : Nat), [], _, _, fun w i h => ?_, fun w r h => taken7 _ most _ w r h.lt (fun w' => RefIs w' r l _ _) (fun _ _ q b k => q.box b (by have := h.lt; omega) k) (fun w1 b => fixed_any r 8 at' f l (by decide) (by decide) w1 (h.below b))⟩
  have := takes7 _ most _ w i h.lt (fun w' => InIs w' i l _ _) (fun _ _ q b k => q.box b (by have := h.lt; omega) k) (fun w1 b => take56_any i at' f l w1 (h.below b))
  rw [e] at this
  exact this
theorem alike8 (most : Int) (l : List UInt8) (at' f : Nat) : Alike 8 most l at' f := by
  have hv := fixV_lt l 8 at' f
  have e : IntKind.u64.wrap (fixV l 8 at' f : Nat) = (fixV l 8 at' f : Nat) := by
    rw [IntKind.wrap_u64]
    omega
  refine ⟨(fixV l 8 at' f : Nat), [], _, _, fun w i h => ?_, fun w r h => taken8 _ most _ w r h.lt (fun w' => RefIs w' r l _ _) (fun _ _ q b k => q.box b (by have := h.lt; omega) k) (fun w1 b => fixed_any r 8 at' f l (by decide) (by decide) w1 (h.below b))⟩
  have := takes8 _ most _ w i h.lt (fun w' => InIs w' i l _ _) (fun _ _ q b k => q.box b (by have := h.lt; omega) k) (fun w1 b => take57_any i at' f l w1 (h.below b))
  rw [e] at this
  exact this
theorem alike12 (most : Int) (l : List UInt8) (at' f : Nat) : Alike 12 most l at' f := by
  have hv := fixV_lt l 1 at' f
  have e : IntKind.u64.wrap (IntKind.u8.wrap (fixV l 1 at' f : Nat)) = (fixV l 1 at' f : Nat) := by
    rw [IntKind.wrap_u64, IntKind.wrap_u8']
    omega
  refine ⟨(fixV l 1 at' f : Nat), [], _, _, fun w i h => ?_, fun w r h => taken12 _ most _ w r h.lt (fun w' => RefIs w' r l _ _) (fun _ _ q b k => q.box b (by have := h.lt; omega) k) (fun w1 b => fixed_any r 1 at' f l (by decide) (by decide) w1 (h.below b))⟩
  have := takes12 _ most _ w i h.lt (fun w' => InIs w' i l _ _) (fun _ _ q b k => q.box b (by have := h.lt; omega) k) (fun w1 b => take62_any i at' f l w1 (h.below b))
  rw [e] at this
  exact this
theorem alike11 (most : Int) (l : List UInt8) (at' f : Nat) : Alike 11 most l at' f :=
  ⟨_, _, _, _,
    fun w i h => takes11 _ most _ w i h.lt (fun w' => InIs w' i l _ _) (fun _ _ q b k => q.box b (by have := h.lt; omega) k) (fun w1 b => count_any i at' f most l w1 (h.below b)),
    fun w r h => taken11 _ most _ w r h.lt (fun w' => RefIs w' r l _ _) (fun _ _ q b k => q.box b (by have := h.lt; omega) k) (fun w1 b => rcount_any r at' f most l w1 (h.below b))⟩
theorem alike10 (most : Int) (l : List UInt8) (at' f : Nat) : Alike 10 most l at' f := by
  by_cases ht : txtOK l most at' f
  · obtain rfl : f = 0 := ht.1
    exact ⟨_, _, _, _,
      fun w i h => takes10 _ most _ w i h.lt (fun w' => InIs w' i l _ _) (fun _ _ q b k => q.box b (by have := h.lt; omega) k) (fun w1 b => text_yes i at' most l w1 (h.below b) ht),
      fun w r h => taken10 _ most _ w r h.lt (fun w' => RefIs w' r l _ _) (fun _ _ q b k => q.box b (by have := h.lt; omega) k) (fun w1 b => rtext_ok r at' most l w1 (h.below b) ht)⟩
  · exact ⟨_, [], _, _,
      fun w i h => takes10 _ most [] w i h.lt (fun w' => InIs w' i l _ _) (fun _ _ q b k => q.box b (by have := h.lt; omega) k) (fun w1 b => text_not i at' f most l w1 (h.below b) ht),
      fun w r h => taken10 _ most [] w r h.lt (fun w' => RefIs w' r l _ _) (fun _ _ q b k => q.box b (by have := h.lt; omega) k) (fun w1 b => rtext_not r at' f most l w1 (h.below b) ht)⟩
theorem alike_other (k most : Int) (hk : k < 1 ∨ 12 < k) (l : List UInt8) (at' f : Nat) : Alike k most l at' f :=
  ⟨0, [], at', f,
    fun w _ h => (takes_other _ k most hk w).mono fun _ _ ⟨h1, h2⟩ => ⟨h1, h.below h2, below_grown h2 _⟩,
    fun w _ h => (taken_other _ k most hk w).mono fun _ _ ⟨h1, h2⟩ => ⟨h1, h.below h2, below_grown h2 _⟩⟩
theorem alike9 (most : Int) (l : List UInt8) (at' f : Nat) : Alike 9 most l at' f := by
  by_cases ht : fltOK l at' f
  · obtain rfl : f = 0 := ht.1
    have hx : num8 l at' < 18446744073709551616 := by
      have := num_lt ((l.drop at').take 8)
      rwa [show ((l.drop at').take 8).length = 8 from by have := ht.2.1; simp; omega] at this
    by_cases hn : isN (num8 l at')
    · have hN : num8 l at' = 9221120237041090561 := by
        rcases ht.2.2 with h | h
        · exact absurd hn h
        · exact h
      refine ⟨0, [110, 111, 110, 101], at' + 8, 0,
        fun w i h => takes9_nan _ most (num8 l at') (self_nan hn) w i h.lt (fun w' => InIs w' i l (at' + 8) 0) (fun _ _ q b k => q.box b (by have := h.lt; omega) k) (fun w1 b => float_yes i at' l w1 (h.below b) ht),
        fun w r h => taken9_nan _ most w r h.lt (fun w' => RefIs w' r l (at' + 8) 0) (fun _ _ q b k => q.box b (by have := h.lt; omega) k) (fun w1 b => ?_)⟩
      have := rfloat_yes r at' l w1 (h.below b) ht
      rw [hN] at this
      exact this
    · have hne : num8 l at' ≠ 9221120237041090561 := fun e => hn (by rw [e]; decide)
      exact ⟨(num8 l at' : Nat), [], at' + 8, 0,
        fun w i h => takes9_num _ most (num8 l at') (self_num hx hn) w i h.lt (fun w' => InIs w' i l (at' + 8) 0) (fun _ _ q b k => q.box b (by have := h.lt; omega) k) (fun w1 b => float_yes i at' l w1 (h.below b) ht),
        fun w r h => taken9_num _ most (num8 l at' : Nat) (by simp; omega) w r h.lt (fun w' => RefIs w' r l (at' + 8) 0) (fun _ _ q b k => q.box b (by have := h.lt; omega) k) (fun w1 b => rfloat_yes r at' l w1 (h.below b) ht)⟩
  · exact ⟨0, [], at', fltF l at' f,
      fun w i h => takes9_num _ most 0 (self_num (by decide) (by decide)) w i h.lt (fun w' => InIs w' i l at' (fltF l at' f)) (fun _ _ q b k => q.box b (by have := h.lt; omega) k) (fun w1 b => float_not i at' f l w1 (h.below b) ht),
      fun w r h => taken9_no _ most 0 w r h.lt (fun w' => RefIs w' r l at' (fltF l at' f)) (fun _ _ q b k => q.box b (by have := h.lt; omega) k) (fun w1 b => rfloat_not r at' f l w1 (h.below b) ht)⟩
/-- Whatever is taken, both sides answer alike. -/
theorem alike (k most : Int) (l : List UInt8) (at' f : Nat) : Alike k most l at' f := by
  by_cases hk : k < 1 ∨ 12 < k
  · exact alike_other k most hk l at' f
  · rcases (show k = 1 ∨ k = 2 ∨ k = 3 ∨ k = 4 ∨ k = 5 ∨ k = 6 ∨ k = 7 ∨ k = 8 ∨ k = 9 ∨ k = 10 ∨ k = 11 ∨ k = 12 from by omega) with rfl | rfl | rfl | rfl | rfl | rfl | rfl | rfl | rfl | rfl | rfl | rfl
    · exact alike1 most l at' f
    · exact alike2 most l at' f
    · exact alike3 most l at' f
    · exact alike4 most l at' f
    · exact alike5 most l at' f
    · exact alike6 most l at' f
    · exact alike7 most l at' f
    · exact alike8 most l at' f
    · exact alike9 most l at' f
    · exact alike10 most l at' f
    · exact alike11 most l at' f
    · exact alike12 most l at' f
end Go.Proofs.YtomklacjaadcaaaDoor
