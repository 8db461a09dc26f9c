/- Contracts of Count in every state, and of Text, At, Fault, End. -/
import Derived.Test.YtomklacjaadcaaaDoorIn2
namespace Go.Proofs.YtomklacjaadcaaaDoor
open Go.RowKit Go.Sort

theorem count_nil (most : Int) (w : World) : Calls Tryd.prog 61 #[.pointer none, .int .i64 most] w fun e w' => e = .returned (.int .i64 0) ∧ w' = w :=
  count_none _ most w (fun w' => w' = w) (atmost_none _ most w (fun w' => w' = w) (ahead_nil 2 w))
theorem cnt_yes {l : List UInt8} {most : Int} {at' : Nat} (h : at' + 2 ≤ l.length) (hm : (num2 l at' : Int) ≤ max most 0) : cntV l most at' 0 = num2 l at' ∧ cntA l most at' 0 = at' + 2 ∧ cntF l most at' 0 = 0 := by
  unfold cntV cntA cntF
  rw [if_pos ⟨rfl, h, hm⟩, if_pos ⟨rfl, h, hm⟩, if_pos rfl, if_pos h, if_pos hm]
  exact ⟨rfl, rfl, rfl⟩
theorem cnt_over {l : List UInt8} {most : Int} {at' : Nat} (h : at' + 2 ≤ l.length) (hm : ¬ (num2 l at' : Int) ≤ max most 0) : cntV l most at' 0 = 0 ∧ cntA l most at' 0 = at' ∧ cntF l most at' 0 = 31 := by
  unfold cntV cntA cntF
  rw [if_neg (fun x => hm x.2.2), if_neg (fun x => hm x.2.2), if_pos rfl, if_pos h, if_neg hm]
  exact ⟨rfl, rfl, rfl⟩
theorem cnt_ends {l : List UInt8} {most : Int} {at' : Nat} (h : ¬ at' + 2 ≤ l.length) : cntV l most at' 0 = 0 ∧ cntA l most at' 0 = at' ∧ cntF l most at' 0 = 30 := by
  unfold cntV cntA cntF
  rw [if_neg (fun x => h x.2.1), if_neg (fun x => h x.2.1), if_pos rfl, if_neg h]
  exact ⟨rfl, rfl, rfl⟩
theorem cnt_no {l : List UInt8} {most : Int} {at' f : Nat} (h : f ≠ 0) : cntV l most at' f = 0 ∧ cntA l most at' f = at' ∧ cntF l most at' f = f := by
  unfold cntV cntA cntF
  rw [if_neg (fun x => h x.1), if_neg (fun x => h x.1), if_neg h]
  exact ⟨rfl, rfl, rfl⟩
theorem count_any (i at' f : Nat) (most : Int) (l : List UInt8) (w : World) (h : InIs w i l at' f) :
    Calls Tryd.prog 61 #[.pointer (some ⟨i, 0, none⟩), .int .i64 most] w fun e w' => e = .returned (.int .i64 (cntV l most at' f : Nat)) ∧ InIs w' i l (cntA l most at' f) (cntF l most at' f) ∧ w.grownBy w' (some i) := by
  obtain ⟨ao, cap, h1, h2, h3, h4, h5, h6⟩ := h
  by_cases hf : f = 0
  · subst hf
    by_cases he : at' + 2 ≤ l.length
    · obtain ⟨b, off, rfl, _⟩ := h2 0 (by omega)
      by_cases hm : (num2 l at' : Int) ≤ max most 0
      · obtain ⟨e1, e2, e3⟩ := cnt_yes he hm
        rw [e1, e2, e3]
        refine (count_ok i at' _ most _ w (by omega) h1 (atmost_ok i b off cap at' most l he h3 h6 hm w h1 h2)).mono ?_
        rintro e w' ⟨rfl, r, g⟩
        exact ⟨rfl, ⟨_, cap, r, h2.grown g (by intro a e; cases e; simpa using h4 _ rfl), h3, h4, he, h6⟩, g⟩
      · obtain ⟨e1, e2, e3⟩ := cnt_over he hm
        rw [e1, e2, e3]
        refine (count_none _ most w (fun w' => Row w' i 51 (inL (.slice (some ⟨b, off, none⟩) l.length cap) at' 31) ∧ w.grownBy w' (some i)) (atmost_over i b off cap at' most l he h3 h6 (by omega) w h1 h2)).mono ?_
        rintro e w' ⟨rfl, r, g⟩
        exact ⟨rfl, ⟨_, cap, r, h2.grown g (by intro a e; cases e; simpa using h4 _ rfl), h3, h4, h5, h6⟩, g⟩
    · obtain ⟨e1, e2, e3⟩ := cnt_ends (most := most) he
      rw [e1, e2, e3]
      refine (count_none _ most w (fun w' => Row w' i 51 (inL (.slice ao l.length cap) at' 30) ∧ w.grownBy w' (some i)) (atmost_none _ most w _ (ahead_ends i l.length cap at' 2 ao he h5 h6 w h1))).mono ?_
      rintro e w' ⟨rfl, r, g⟩
      exact ⟨rfl, ⟨ao, cap, r, h2.grown g (fun a e => by simpa using h4 a e), h3, h4, h5, h6⟩, g⟩
  · obtain ⟨e1, e2, e3⟩ := cnt_no (l := l) (most := most) (at' := at') hf
    rw [e1, e2, e3]
    refine (count_none _ most w (fun w' => w' = w) (atmost_none _ most w _ (ahead_wrong i 2 f at' hf _ w h1))).mono ?_
    rintro e w' ⟨rfl, rfl⟩
    exact ⟨rfl, ⟨ao, cap, h1, h2, h3, h4, h5, h6⟩, World.grownBy.refl _ _⟩
set_option maxRecDepth 20000 in
set_option maxHeartbeats 3200000 in
theorem at_any (i at' f : Nat) (v : Value) (w : World) (hR : Row w i 51 (inL v at' f)) : Calls Tryd.prog 21 #[.pointer (some ⟨i, 0, none⟩)] w fun e w' => e = .returned (.int .i64 (at' : Nat)) ∧ w' = w := by
  have c1 : w.cell? ⟨i, 1, none⟩ = some (.int .i64 (at' : Nat)) := hR.cell 1
  clear hR
  go_enter Tryd.func21, Tryd.ntmps21
  go_wp2
  go_ret
  exact ⟨rfl, rfl⟩
set_option maxRecDepth 20000 in
set_option maxHeartbeats 3200000 in
theorem at_nil (w : World) : Calls Tryd.prog 21 #[.pointer none] w fun e w' => e = .returned (.int .i64 0) ∧ w' = w := by
  go_enter Tryd.func21, Tryd.ntmps21
  go_wp2
  go_ret
  exact ⟨rfl, rfl⟩
set_option maxRecDepth 20000 in
set_option maxHeartbeats 3200000 in
theorem fault_nil (w : World) : Calls Tryd.prog 20 #[.pointer none] w fun e w' => e = .returned (.tuple #[.int .i64 0, .int .i64 1]) ∧ w' = w := by
  go_enter Tryd.func20, Tryd.ntmps20
  go_wp2
  go_ret2
  exact ⟨rfl, rfl⟩
set_option maxRecDepth 20000 in
set_option maxHeartbeats 3200000 in
theorem fault_right (i at' : Nat) (v : Value) (w : World) (hR : Row w i 51 (inL v at' 0)) : Calls Tryd.prog 20 #[.pointer (some ⟨i, 0, none⟩)] w fun e w' => e = .returned (.tuple #[.int .i64 0, .int .i64 0]) ∧ w' = w := by
  have c2 : w.cell? ⟨i, 2, none⟩ = some (.int .i64 0) := hR.cell 2
  clear hR
  go_enter Tryd.func20, Tryd.ntmps20
  go_wp2
  go_ret2
  exact ⟨rfl, rfl⟩
set_option maxRecDepth 20000 in
set_option maxHeartbeats 3200000 in
theorem fault_wrong (i at' f : Nat) (hf : f ≠ 0) (v : Value) (w : World) (hR : Row w i 51 (inL v at' f)) : Calls Tryd.prog 20 #[.pointer (some ⟨i, 0, none⟩)] w fun e w' => e = .returned (.tuple #[.int .i64 (at' : Nat), .int .i64 (f : Nat)]) ∧ w' = w.drew := by
  have c1 : w.cell? ⟨i, 1, none⟩ = some (.int .i64 (at' : Nat)) := hR.cell 1
  have c2 : w.cell? ⟨i, 2, none⟩ = some (.int .i64 (f : Nat)) := hR.cell 2
  have h1 : ((f : Int) == 0) = false := by simp; omega
  clear hR
  go_enter Tryd.func20, Tryd.ntmps20
  go_upto_region 5 with fail
  go_region
  go_wp2
  go_ret2
  exact ⟨rfl, rfl⟩
end Go.Proofs.YtomklacjaadcaaaDoor
