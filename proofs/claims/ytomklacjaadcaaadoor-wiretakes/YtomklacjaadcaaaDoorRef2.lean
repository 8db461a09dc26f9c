/- Contracts of the reference's Fixed, Count and End in every state. -/
import Derived.Test.YtomklacjaadcaaaDoorRef1
namespace Go.Proofs.YtomklacjaadcaaaDoor
open Go.RowKit Go.Sort

theorem fixed_any (r n at' f : Nat) (l : List UInt8) (hn : n ≤ 8) (hn0 : 0 < n) (w : World) (h : RefIs w r l at' f) :
    Calls Tryd.prog 63 #[.pointer (some ⟨r, 0, none⟩), .int .i64 (n : Nat)] w fun e w' => e = .returned (.int .u64 (fixV l n at' f : Nat)) ∧ RefIs w' r l (fixA l n at' f) (fixF l n at' f) ∧ w.grownBy w' (some r) := by
  obtain ⟨ao, cap, h1, h2, h3, h4, h5, h6⟩ := h
  by_cases hf : f = 0
  · subst hf
    by_cases he : at' + n ≤ l.length
    · obtain ⟨e1, e2, e3⟩ := fix_yes he
      obtain ⟨b, off, rfl, _⟩ := h2 0 (by omega)
      rw [e1, e2, e3]
      refine (fixed_ok r b off cap at' _ n l hn hn0 he h6 w h1 h2).mono ?_
      rintro e w' ⟨rfl, q, g⟩
      exact ⟨rfl, ⟨_, cap, q, h2.grown g (by intro a e; cases e; simpa using h4 _ rfl), h3, h4, he, h6⟩, g⟩
    · obtain ⟨e1, e2, e3⟩ := fix_ends he
      rw [e1, e2, e3]
      refine (fixed_ends r n at' l.length cap _ ao he h5 h6 w h1).mono ?_
      rintro e w' ⟨rfl, q, g⟩
      exact ⟨rfl, ⟨ao, cap, q, h2.grown g (fun a e => by simpa using h4 a e), h3, h4, h5, h6⟩, g⟩
  · obtain ⟨e1, e2, e3⟩ := fix_no (l := l) (n := n) (at' := at') hf
    rw [e1, e2, e3]
    refine (fixed_wrong r n at' f _ hf _ w h1).mono ?_
    rintro e w' ⟨rfl, rfl⟩
    exact ⟨rfl, ⟨ao, cap, h1, h2, h3, h4, h5, h6⟩, World.grownBy.refl _ _⟩
theorem ref_fail (r at' f : Nat) (hf : f ≠ 0) (l : List UInt8) (p c wh cap : Nat) (ao : Option Addr) (w : World) (h1 : Row w r 49 (refL (.slice ao l.length cap) p c wh)) (h2 : By w ao l) (h3 : l.length ≤ cap) (h4 : ∀ a, ao = some a → a.block ≠ r) (h5 : at' ≤ l.length) (h6 : l.length ≤ 140737488351232) :
    Calls Tryd.prog 88 #[.pointer (some ⟨r, 0, none⟩), .int .i64 (at' : Nat), .int .i64 (f : Nat)] w fun e w' => e = .returned (.tuple #[]) ∧ RefIs w' r l at' f ∧ w.grownBy w' (some r) := by
  refine (fail_any r p c wh at' f _ w h1).mono ?_
  rintro e w' ⟨rfl, q, g⟩
  refine ⟨rfl, ⟨ao, cap, ?_, h2.grown g (fun a e => by simpa using h4 a e), h3, h4, h5, h6⟩, g⟩
  unfold whereV
  rw [if_neg hf]
  exact q
set_option maxRecDepth 20000 in
set_option maxHeartbeats 3200000 in
theorem rcount_plain (r at' f : Nat) (most : Int) (l : List UInt8) (w : World) (h : RefIs w r l at' f) (hc : ¬ (fixF l 2 at' f = 0 ∧ max most 0 < (fixV l 2 at' f : Int))) (hv : fixV l 2 at' f < 65536) :
    Calls Tryd.prog 66 #[.pointer (some ⟨r, 0, none⟩), .int .i64 most] w fun e w' => e = .returned (.int .i64 (fixV l 2 at' f : Nat)) ∧ RefIs w' r l (fixA l 2 at' f) (fixF l 2 at' f) ∧ w.grownBy w' (some r) := by
  have HX := hid' (fixed_any r 2 at' f l (by decide) (by decide) w h)
  obtain ⟨ao, cap, h1, h2, h3, h4, h5, h6⟩ := h
  have c1 : w.cell? ⟨r, 1, none⟩ = some (.int .i64 (at' : Nat)) := h1.cell 1
  clear h1 h2 h3 h4
  generalize fixV l 2 at' f = V at *
  generalize fixA l 2 at' f = A at *
  generalize fixF l 2 at' f = F at *
  go_enter Tryd.func66, Tryd.ntmps66
  go_upto_region 3 with (go_at_call 63; refine HX.out.mono ?_; rintro e w2 ⟨rfl, r2, g2⟩)
  have R2 := hid' r2
  obtain ⟨ao2, cap2, q1, _⟩ := r2
  have d2 : w2.cell? ⟨r, 2, none⟩ = some (.int .i64 (F : Nat)) := q1.cell 2
  clear q1 c1 HX
  by_cases hF : F = 0
  · subst hF
    have hm : ¬ max most 0 < (V : Int) := fun x => hc ⟨rfl, x⟩
    go_wp2
    all_goals go_ret
    all_goals exact ⟨rfl, R2.out, g2⟩
  · have hF1 : ((F : Int) == 0) = false := by simp; omega
    clear hc
    go_wp2
    all_goals go_ret
    all_goals exact ⟨rfl, R2.out, g2⟩
set_option maxRecDepth 20000 in
set_option maxHeartbeats 3200000 in
theorem rcount_over (r at' : Nat) (most : Int) (l : List UInt8) (w : World) (h : RefIs w r l at' 0) (he : at' + 2 ≤ l.length) (hm : max most 0 < (num2 l at' : Int)) :
    Calls Tryd.prog 66 #[.pointer (some ⟨r, 0, none⟩), .int .i64 most] w fun e w' => e = .returned (.int .i64 0) ∧ RefIs w' r l at' 31 ∧ w.grownBy w' (some r) := by
  have HX := hid' (fixed_any r 2 at' 0 l (by decide) (by decide) w h)
  obtain ⟨e1, e2, e3⟩ := fix_yes he
  rw [e1, e2, e3] at HX
  have hv := num2_lt he
  change Hid (Calls Tryd.prog 63 #[.pointer (some ⟨r, 0, none⟩), .int .i64 2] w fun e w' => e = .returned (.int .u64 (num2 l at' : Nat)) ∧ RefIs w' r l (at' + 2) 0 ∧ w.grownBy w' (some r)) at HX
  obtain ⟨ao, cap, h1, h2, h3, h4, h5, h6⟩ := h
  have c1 : w.cell? ⟨r, 1, none⟩ = some (.int .i64 (at' : Nat)) := h1.cell 1
  clear h1 h2 h3 h4 e1 e2 e3
  generalize num2 l at' = V at *
  go_enter Tryd.func66, Tryd.ntmps66
  go_upto_region 3 with (go_at_call 63; refine HX.out.mono ?_; rintro e w2 ⟨rfl, r2, g2⟩)
  obtain ⟨ao2, cap2, q1, q2, q3, q4, q5, q6⟩ := r2
  have d2 : w2.cell? ⟨r, 2, none⟩ = some (.int .i64 0) := q1.cell 2
  have HF : Hid (Calls Tryd.prog 88 #[.pointer (some ⟨r, 0, none⟩), .int .i64 (at' : Nat), .int .i64 31] w2 fun e w' => e = .returned (.tuple #[]) ∧ RefIs w' r l at' 31 ∧ w2.grownBy w' (some r)) := ref_fail r at' 31 (by decide) l _ _ _ cap2 ao2 w2 q1 q2 q3 q4 h5 h6
  clear q1 q2 q3 q4 q5 q6 c1 HX
  go_wp2_with (go_at_call 88; refine HF.out.mono ?_; rintro e w3 ⟨rfl, r3, g3⟩)
  all_goals go_ret
  all_goals exact ⟨rfl, r3, grown_trans g2 g3⟩
theorem rcount_any (r at' f : Nat) (most : Int) (l : List UInt8) (w : World) (h : RefIs w r l at' f) :
    Calls Tryd.prog 66 #[.pointer (some ⟨r, 0, none⟩), .int .i64 most] w fun e w' => e = .returned (.int .i64 (cntV l most at' f : Nat)) ∧ RefIs w' r l (cntA l most at' f) (cntF l most at' f) ∧ w.grownBy w' (some r) := by
  by_cases hf : f = 0
  · subst hf
    by_cases he : at' + 2 ≤ l.length
    · by_cases hm : (num2 l at' : Int) ≤ max most 0
      · obtain ⟨e1, e2, e3⟩ := cnt_yes he hm
        obtain ⟨g1, g2, g3⟩ := fix_yes he
        have := rcount_plain r at' 0 most l w h (by rw [g1]; intro x; have : max most 0 < (num2 l at' : Int) := x.2; omega) (by rw [g1]; exact num2_lt he)
        rw [g1, g2, g3] at this
        rw [e1, e2, e3]
        exact this
      · obtain ⟨e1, e2, e3⟩ := cnt_over he hm
        rw [e1, e2, e3]
        exact rcount_over r at' most l w h he (by omega)
    · obtain ⟨e1, e2, e3⟩ := cnt_ends (most := most) he
      obtain ⟨g1, g2, g3⟩ := fix_ends he
      have := rcount_plain r at' 0 most l w h (by rw [g3]; intro x; have := x.1; omega) (by rw [g1]; decide)
      rw [g1, g2, g3] at this
      rw [e1, e2, e3]
      exact this
  · obtain ⟨e1, e2, e3⟩ := cnt_no (l := l) (most := most) (at' := at') hf
    obtain ⟨g1, g2, g3⟩ := fix_no (l := l) (n := 2) (at' := at') hf
    have := rcount_plain r at' f most l w h (by rw [g3]; intro x; exact hf x.1) (by rw [g1]; decide)
    rw [g1, g2, g3] at this
    rw [e1, e2, e3]
    exact this
set_option maxRecDepth 20000 in
set_option maxHeartbeats 3200000 in
theorem rend_any (r at' f : Nat) (l : List UInt8) (w : World) (h : RefIs w r l at' f) : Calls Tryd.prog 50 #[.pointer (some ⟨r, 0, none⟩)] w fun e w' => e = .returned (.int .i64 (endV l at' f : Nat)) ∧ Gr w w' := by
  obtain ⟨ao, cap, h1, h2, h3, h4, h5, h6⟩ := h
  have c0 : w.cell? ⟨r, 0, none⟩ = some (.slice ao l.length cap) := h1.cell 0
  have c1 : w.cell? ⟨r, 1, none⟩ = some (.int .i64 (at' : Nat)) := h1.cell 1
  have c2 : w.cell? ⟨r, 2, none⟩ = some (.int .i64 (f : Nat)) := h1.cell 2
  clear h1 h2 h3 h4
  unfold endV
  by_cases hf : f = 0
  · subst hf
    replace c2 : w.cell? ⟨r, 2, none⟩ = some (.int .i64 0) := c2
    by_cases hl : at' < l.length
    · rw [if_pos ⟨rfl, hl⟩]
      have hd : decide ((at' : Int) < (l.length : Int)) = true := by simp; omega
      go_enter Tryd.func50, Tryd.ntmps50
      go_upto_region 1 with fail
      go_region
      all_goals go_wp2
      all_goals go_ret
      all_goals exact ⟨rfl, (Gr.refl _).drew⟩
    · rw [if_neg (fun x => hl x.2)]
      have hd : decide ((at' : Int) < (l.length : Int)) = false := by simp; omega
      go_enter Tryd.func50, Tryd.ntmps50
      go_upto_region 1 with fail
      go_region
      all_goals go_wp2
      all_goals go_ret
      all_goals exact ⟨rfl, (Gr.refl _).drew⟩
  · rw [if_neg (fun x => hf x.1)]
    have hF1 : ((f : Int) == 0) = false := by simp; omega
    go_enter Tryd.func50, Tryd.ntmps50
    go_upto_region 1 with fail
    go_region
    all_goals go_wp2
    all_goals go_ret
    all_goals exact ⟨rfl, (Gr.refl _).drew⟩
end Go.Proofs.YtomklacjaadcaaaDoor
