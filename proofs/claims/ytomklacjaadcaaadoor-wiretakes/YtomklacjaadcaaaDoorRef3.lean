/- Contract of the reference's Text. -/
import Derived.Test.YtomklacjaadcaaaDoorRef2
namespace Go.Proofs.YtomklacjaadcaaaDoor
open Go.RowKit Go.Sort

set_option maxRecDepth 20000 in
set_option maxHeartbeats 3200000 in
theorem rtext_none (r at' f F : Nat) (most : Int) (l : List UInt8) (w : World) (h : RefIs w r l at' f) (hF : F ≠ 0) (hV : cntV l most at' f = 0) (hA : cntA l most at' f = at') (hFF : cntF l most at' f = F) :
    Calls Tryd.prog 65 #[.pointer (some ⟨r, 0, none⟩), .int .i64 most] w fun e w' => e = .returned (.string ⟨#[]⟩) ∧ RefIs w' r l at' F ∧ w.grownBy w' (some r) := by
  have HX : Hid (Calls Tryd.prog 66 #[.pointer (some ⟨r, 0, none⟩), .int .i64 most] w fun e w' => e = .returned (.int .i64 0) ∧ RefIs w' r l at' F ∧ w.grownBy w' (some r)) := by
    have := rcount_any r at' f most l w h
    rw [hV, hA, hFF] at this
    exact this
  obtain ⟨ao, cap, h1, _⟩ := h
  have c1 : w.cell? ⟨r, 1, none⟩ = some (.int .i64 (at' : Nat)) := h1.cell 1
  have hF1 : ((F : Int) == 0) = false := by simp; omega
  have hF2 : ((F : Int) != 0) = true := by simp; omega
  clear h1 hV hA hFF
  go_enter Tryd.func65, Tryd.ntmps65
  go_upto_region 3 with (go_at_call 66; refine HX.out.mono ?_; rintro e w2 ⟨rfl, r2, g2⟩)
  have R2 := hid' r2
  obtain ⟨ao2, cap2, q1, _⟩ := r2
  have d2 : w2.cell? ⟨r, 2, none⟩ = some (.int .i64 (F : Nat)) := q1.cell 2
  clear q1 c1 HX
  go_wp2
  go_ret
  exact ⟨rfl, R2.out, g2⟩
set_option maxRecDepth 20000 in
set_option maxHeartbeats 3200000 in
theorem rtext_ends (r at' X : Nat) (most : Int) (l : List UInt8) (w : World) (h : RefIs w r l at' 0) (hX : X < 65536) (he : at' + 2 ≤ l.length) (hno : ¬ at' + 2 + X ≤ l.length) (HX : Hid (Calls Tryd.prog 66 #[.pointer (some ⟨r, 0, none⟩), .int .i64 most] w fun e w' => e = .returned (.int .i64 (X : Nat)) ∧ RefIs w' r l (at' + 2) 0 ∧ w.grownBy w' (some r))) :
    Calls Tryd.prog 65 #[.pointer (some ⟨r, 0, none⟩), .int .i64 most] w fun e w' => e = .returned (.string ⟨#[]⟩) ∧ RefIs w' r l at' 30 ∧ w.grownBy w' (some r) := by
  obtain ⟨ao, cap, h1, _, _, _, _, h6⟩ := h
  have c1 : w.cell? ⟨r, 1, none⟩ = some (.int .i64 (at' : Nat)) := h1.cell 1
  have hd : decide ((l.length : Int) - ((at' : Int) + 2) < (X : Int)) = true := by simp; omega
  clear h1
  go_enter Tryd.func65, Tryd.ntmps65
  go_upto_region 3 with (go_at_call 66; refine HX.out.mono ?_; rintro e w2 ⟨rfl, r2, g2⟩)
  obtain ⟨ao2, cap2, q1, q2, q3, q4, q5, q6⟩ := r2
  have d0 : w2.cell? ⟨r, 0, none⟩ = some (.slice ao2 l.length cap2) := q1.cell 0
  have d1 : w2.cell? ⟨r, 1, none⟩ = some (.int .i64 ((at' : Int) + 2)) := q1.cell 1
  have d2 : w2.cell? ⟨r, 2, none⟩ = some (.int .i64 0) := q1.cell 2
  have HF : Hid (Calls Tryd.prog 88 #[.pointer (some ⟨r, 0, none⟩), .int .i64 (at' : Nat), .int .i64 30] w2.drew fun e w' => e = .returned (.tuple #[]) ∧ RefIs w' r l at' 30 ∧ w2.drew.grownBy w' (some r)) := ref_fail r at' 30 (by decide) l _ _ _ cap2 ao2 w2.drew q1 q2 q3 q4 (by omega) h6
  clear q1 q2 q3 q4 q5 c1 HX
  go_upto_region 5 with fail
  go_region
  go_wp2_with (go_at_call 88; refine HF.out.mono ?_; rintro e w3 ⟨rfl, r3, g3⟩)
  go_ret
  exact ⟨rfl, r3, grown_trans g2 ⟨g3.os, g3.tape, g3.output, g3.size, g3.block⟩⟩
set_option maxRecDepth 20000 in
set_option maxHeartbeats 3200000 in
theorem rtext_yes (r at' X : Nat) (most : Int) (l : List UInt8) (w : World) (h : RefIs w r l at' 0) (hX : X < 65536) (hok : at' + 2 + X ≤ l.length) (HX : Hid (Calls Tryd.prog 66 #[.pointer (some ⟨r, 0, none⟩), .int .i64 most] w fun e w' => e = .returned (.int .i64 (X : Nat)) ∧ RefIs w' r l (at' + 2) 0 ∧ w.grownBy w' (some r))) :
    Calls Tryd.prog 65 #[.pointer (some ⟨r, 0, none⟩), .int .i64 most] w fun e w' => e = .returned (.string ⟨((l.drop (at' + 2)).take X).toArray⟩) ∧ RefIs w' r l (at' + 2 + X) 0 ∧ w.grownBy w' (some r) := by
  obtain ⟨ao, cap, h1, _, _, _, _, h6⟩ := h
  have c1 : w.cell? ⟨r, 1, none⟩ = some (.int .i64 (at' : Nat)) := h1.cell 1
  have hd : decide ((l.length : Int) - ((at' : Int) + 2) < (X : Int)) = false := by simp; omega
  clear h1
  go_enter Tryd.func65, Tryd.ntmps65
  go_upto_region 3 with (go_at_call 66; refine HX.out.mono ?_; rintro e w2 ⟨rfl, r2, g2⟩)
  obtain ⟨ao2, cap2, q1, q2, q3, q4, q5, q6⟩ := r2
  obtain ⟨b, off, rfl, _⟩ := q2 0 (by omega)
  have d0 : w2.cell? ⟨r, 0, none⟩ = some (.slice (some ⟨b, off, none⟩) l.length cap2) := q1.cell 0
  have d1 : w2.cell? ⟨r, 1, none⟩ = some (.int .i64 ((at' : Int) + 2)) := q1.cell 1
  have d2 : w2.cell? ⟨r, 2, none⟩ = some (.int .i64 0) := q1.cell 2
  have Q1 := hid' q1
  have Q2 := hid' q2
  have hyl : ((l.drop (at' + 2)).take X).length = at' + 2 + X - (at' + 2) := by simp; omega
  have sC : (convert 31 9 (.slice (if cap2 = at' + 2 then some ⟨b, off, none⟩ else some ⟨b, off + (at' + 2), none⟩) (at' + 2 + X - (at' + 2)) (cap2 - (at' + 2)))).run Tryd.prog w2.drew.drew = .ok (.string ⟨((l.drop (at' + 2)).take X).toArray⟩) w2.drew.drew := by
    refine run_str hyl (fun h => by split at h <;> cases h) ?_
    split
    · intro i hi
      rw [hyl] at hi
      omega
    · exact q2.piece (at' + 2) X
  have sX := sC
  rw [Nat.add_sub_cancel_left] at sX
  have f1 := q1.frozen 1
  have R3 : Hid (Row (w2.drew.drew.setCell ⟨r, 1, none⟩ (.int .i64 ((at' : Int) + 2 + (X : Int)))) r 49 (refL (.slice (some ⟨b, off, none⟩) l.length cap2) (at' + 2 + X) 0 0)) := by
    have := Row.set (w := w2.drew.drew) q1 1 (.int .i64 ((at' + 2 + X : Nat)))
    rw [show ((at' + 2 + X : Nat) : Int) = (at' : Int) + 2 + (X : Int) from by omega] at this
    exact (show (refL (.slice (some ⟨b, off, none⟩) l.length cap2) (at' + 2) 0 (whereV (at' + 2) 0)).set 1 (.int .i64 ((at' : Int) + 2 + (X : Int))) = refL (.slice (some ⟨b, off, none⟩) l.length cap2) (at' + 2 + X) 0 0 from by unfold refL whereV; simp) ▸ this
  have G3 : Hid (w2.grownBy (w2.drew.drew.setCell ⟨r, 1, none⟩ (.int .i64 ((at' : Int) + 2 + (X : Int)))) (some r)) := by
    have g := setCells_grown (g := r) [.int .i64 ((at' : Int) + 2 + (X : Int))] 1 w2.drew.drew
    exact ⟨g.os, g.tape, g.output, g.size, g.block⟩
  clear q1 q5 c1 HX
  generalize hs : (l.drop (at' + 2)).take X = s at *
  have HS := hid' hs
  clear hs
  go_upto_region 5 with fail
  go_region
  go_upto_region 8 with fail
  by_cases hc : cap2 = at' + 2
  · rw [if_pos hc] at sC sX
    have hX0 : X = 0 := by omega
    have sZ : (convert 31 9 (.slice (some ⟨b, off, none⟩) 0 0)).run Tryd.prog w2.drew.drew = .ok (.string ⟨s.toArray⟩) w2.drew.drew := by
      rw [hX0, show cap2 - (at' + 2) = 0 from by omega] at sX
      exact sX
    clear sX sC
    rw [show (at' : Int) + 2 + (X : Int) = (at' : Int) + 2 from by omega] at R3 G3
    go_region
    go_wp2
    go_ret
    exact ⟨by rw [HS.out]; rfl, ⟨_, cap2, R3.out, q2.grown G3.out (by intro a e; cases e; simpa using q4 _ rfl), q3, q4, hok, h6⟩, grown_trans g2 G3.out⟩
  · rw [if_neg hc] at sC sX
    go_region
    go_wp2
    go_ret
    exact ⟨by rw [HS.out]; rfl, ⟨_, cap2, R3.out, q2.grown G3.out (by intro a e; cases e; simpa using q4 _ rfl), q3, q4, hok, h6⟩, grown_trans g2 G3.out⟩
theorem rtext_ok (r at' : Nat) (most : Int) (l : List UInt8) (w : World) (h : RefIs w r l at' 0) (ht : txtOK l most at' 0) :
    Calls Tryd.prog 65 #[.pointer (some ⟨r, 0, none⟩), .int .i64 most] w fun e w' => e = .returned (.string ⟨((l.drop (at' + 2)).take (num2 l at')).toArray⟩) ∧ RefIs w' r l (at' + 2 + num2 l at') 0 ∧ w.grownBy w' (some r) := by
  obtain ⟨_, t1, t2, t3⟩ := ht
  obtain ⟨e1, e2, e3⟩ := cnt_yes t1 t2
  have hc := rcount_any r at' 0 most l w h
  rw [e1, e2, e3] at hc
  exact rtext_yes r at' (num2 l at') most l w h (num2_lt t1) t3 hc
theorem rtext_not (r at' f : Nat) (most : Int) (l : List UInt8) (w : World) (h : RefIs w r l at' f) (ht : ¬ txtOK l most at' f) :
    Calls Tryd.prog 65 #[.pointer (some ⟨r, 0, none⟩), .int .i64 most] w fun e w' => e = .returned (.string ⟨#[]⟩) ∧ RefIs w' r l at' (txtF l most at' f) ∧ w.grownBy w' (some r) := by
  unfold txtF
  by_cases hf : f = 0
  · subst hf
    rw [if_pos rfl]
    by_cases he : at' + 2 ≤ l.length
    · rw [if_pos he]
      by_cases hm : (num2 l at' : Int) ≤ max most 0
      · rw [if_pos hm]
        obtain ⟨e1, e2, e3⟩ := cnt_yes he hm
        have hc := rcount_any r at' 0 most l w h
        rw [e1, e2, e3] at hc
        exact rtext_ends r at' (num2 l at') most l w h (num2_lt he) he (fun hx => ht ⟨rfl, he, hm, hx⟩) hc
      · rw [if_neg hm]
        obtain ⟨e1, e2, e3⟩ := cnt_over he hm
        exact rtext_none r at' 0 31 most l w h (by decide) e1 e2 e3
    · rw [if_neg he]
      obtain ⟨e1, e2, e3⟩ := cnt_ends (most := most) he
      exact rtext_none r at' 0 30 most l w h (by decide) e1 e2 e3
  · rw [if_neg hf]
    obtain ⟨e1, e2, e3⟩ := cnt_no (l := l) (most := most) (at' := at') hf
    exact rtext_none r at' f f most l w h hf e1 e2 e3
end Go.Proofs.YtomklacjaadcaaaDoor
