/- Float on both sides, in every state. -/
import Derived.Test.YtomklacjaadcaaaDoorTaken9
namespace Go.Proofs.YtomklacjaadcaaaDoor
open Go.RowKit Go.Sort

def num8 (l : List UInt8) (at' : Nat) : Nat := num ((l.drop at').take 8)
def fltOK (l : List UInt8) (at' f : Nat) : Prop := f = 0 ∧ at' + 8 ≤ l.length ∧ (¬ isN (num8 l at') ∨ num8 l at' = 9221120237041090561)
def fltF (l : List UInt8) (at' f : Nat) : Nat := if f = 0 then (if at' + 8 ≤ l.length then 35 else 30) else f
theorem float_nil (w : World) : Calls Tryd.prog 58 #[.pointer none] w fun e w' => e = .returned (.float .f64 0) ∧ w' = w :=
  float_none _ w (fun w' => w' = w) (ahead_nil 8 w)
theorem float_yes (i at' : Nat) (l : List UInt8) (w : World) (h : InIs w i l at' 0) (ht : fltOK l at' 0) :
    Calls Tryd.prog 58 #[.pointer (some ⟨i, 0, none⟩)] w fun e w' => e = .returned (.float .f64 (num8 l at')) ∧ InIs w' i l (at' + 8) 0 ∧ w.grownBy w' (some i) := by
  obtain ⟨ao, cap, h1, h2, h3, h4, h5, h6⟩ := h
  obtain ⟨_, t1, t2⟩ := ht
  obtain ⟨b, off, rfl, _⟩ := h2 0 (by omega)
  refine (float_ok i b off cap at' l t1 h3 h6 t2 w h1 h2).mono ?_
  rintro e w' ⟨rfl, r, g⟩
  exact ⟨rfl, ⟨_, cap, r, h2.grown g (by intro a e; cases e; simpa using h4 _ rfl), h3, h4, t1, h6⟩, g⟩
theorem float_not (i at' f : Nat) (l : List UInt8) (w : World) (h : InIs w i l at' f) (ht : ¬ fltOK l at' f) :
    Calls Tryd.prog 58 #[.pointer (some ⟨i, 0, none⟩)] w fun e w' => e = .returned (.float .f64 0) ∧ InIs w' i l at' (fltF l at' f) ∧ w.grownBy w' (some i) := by
  obtain ⟨ao, cap, h1, h2, h3, h4, h5, h6⟩ := h
  unfold fltF
  by_cases hf : f = 0
  · subst hf
    rw [if_pos rfl]
    by_cases he : at' + 8 ≤ l.length
    · rw [if_pos he]
      obtain ⟨b, off, rfl, _⟩ := h2 0 (by omega)
      have hn : isN (num8 l at') := Classical.byContradiction fun x => ht ⟨rfl, he, .inl x⟩
      have hno : num8 l at' ≠ 9221120237041090561 := fun x => ht ⟨rfl, he, .inr x⟩
      refine (float_bad i b off cap at' l he h3 h6 hn hno w h1 h2).mono ?_
      rintro e w' ⟨rfl, r, g⟩
      exact ⟨rfl, ⟨_, cap, r, h2.grown g (by intro a e; cases e; simpa using h4 _ rfl), h3, h4, h5, h6⟩, g⟩
    · rw [if_neg he]
      refine (float_none _ w (fun w' => Row w' i 51 (inL (.slice ao l.length cap) at' 30) ∧ w.grownBy w' (some i)) (ahead_ends i l.length cap at' 8 ao he h5 h6 w h1)).mono ?_
      rintro e w' ⟨rfl, r, g⟩
      exact ⟨rfl, ⟨ao, cap, r, h2.grown g (fun a e => by simpa using h4 a e), h3, h4, h5, h6⟩, g⟩
  · rw [if_neg hf]
    refine (float_none _ w (fun w' => w' = w) (ahead_wrong i 8 f at' hf _ w h1)).mono ?_
    rintro e w' ⟨rfl, rfl⟩
    exact ⟨rfl, ⟨ao, cap, h1, h2, h3, h4, h5, h6⟩, World.grownBy.refl _ _⟩
theorem rfloat_yes (r at' : Nat) (l : List UInt8) (w : World) (h : RefIs w r l at' 0) (ht : fltOK l at' 0) :
    Calls Tryd.prog 64 #[.pointer (some ⟨r, 0, none⟩)] w fun e w' => e = .returned (.tuple #[.int .u64 (num8 l at' : Nat), .bool true]) ∧ RefIs w' r l (at' + 8) 0 ∧ w.grownBy w' (some r) :=
  rfloat_ok r at' l w h ht.2.1 ht.2.2
theorem rfloat_not (r at' f : Nat) (l : List UInt8) (w : World) (h : RefIs w r l at' f) (ht : ¬ fltOK l at' f) :
    Calls Tryd.prog 64 #[.pointer (some ⟨r, 0, none⟩)] w fun e w' => e = .returned (.tuple #[.int .u64 0, .bool false]) ∧ RefIs w' r l at' (fltF l at' f) ∧ w.grownBy w' (some r) := by
  unfold fltF
  by_cases hf : f = 0
  · subst hf
    rw [if_pos rfl]
    by_cases he : at' + 8 ≤ l.length
    · rw [if_pos he]
      exact rfloat_bad r at' l w h he (Classical.byContradiction fun x => ht ⟨rfl, he, .inl x⟩) (fun x => ht ⟨rfl, he, .inr x⟩)
    · rw [if_neg he]
      obtain ⟨e1, e2, e3⟩ := fix_ends he
      have := rfloat_none r at' 0 l w h (by rw [e3]; decide) e1
      rw [e2, e3] at this
      exact this
  · rw [if_neg hf]
    obtain ⟨e1, e2, e3⟩ := fix_no (l := l) (n := 8) (at' := at') hf
    have := rfloat_none r at' f l w h (by rw [e3]; exact hf) e1
    rw [e2, e3] at this
    exact this
end Go.Proofs.YtomklacjaadcaaaDoor
