/- The ring of texts: Most, Free, Pressed, Mark, Drop. -/
import Derived.Test.YtodlhclaboofiaaDoorSl
set_option linter.unusedSimpArgs false
set_option linter.unusedVariables false
namespace Go.Proofs.YtodlhclaboofiaaDoor
open Go.RowKit Go.Sort

theorem s_most (T B : Nat) (s : RS) (w : World) (h : sIs w T B s) (hn : 1 ≤ s.n) : Calls Tryd.prog 8 #[.pointer (some ⟨T, 0, none⟩)] w fun e w' => e = .returned (.int .i64 (s.n : Int)) ∧ w' = w := by
  have I := hid0 (s_absent T B s w h hn)
  have c2 := h.c0
  clear h
  go_enter Tryd.func8, Tryd.ntmps8
  go_wp2_with (go_at_call 17; refine I.out.mono ?_; rintro e w1 ⟨rfl, rfl⟩)
  go_ret
  exact ⟨rfl, rfl⟩
theorem s_free (T B : Nat) (s : RS) (w : World) (h : sIs w T B s) (hn : 1 ≤ s.n) (hn2 : s.n ≤ 65536) (hc : s.c ≤ s.n) : Calls Tryd.prog 42 #[.pointer (some ⟨T, 0, none⟩)] w fun e w' => e = .returned (.int .i64 ((s.n : Int) - (s.c : Int))) ∧ w' = w := by
  have I := hid0 (s_most T B s w h hn)
  have I2 := hid0 (s_len T B s w h hn)
  have b1 : (s.c : Int) ≤ (s.n : Int) := by omega
  have b2 : (s.n : Int) ≤ 65536 := by omega
  have b3 : (0 : Int) ≤ (s.c : Int) := by omega
  have hw : wrap64 ((s.n : Int) - (s.c : Int)) = (s.n : Int) - (s.c : Int) := by unfold wrap64; omega
  clear h
  generalize (s.n : Int) = nn at *
  generalize (s.c : Int) = cc at *
  go_enter Tryd.func42, Tryd.ntmps42
  go_wp2_with fail
  refine I.out.mono ?_
  rintro e w1 ⟨rfl, hw⟩
  cases hw
  go_wp2_with fail
  refine I2.out.mono ?_
  rintro e w1 ⟨rfl, hw⟩
  cases hw
  go_wp2
  go_ret
  exact ⟨rfl, rfl⟩
theorem s_pressed (T B : Nat) (s : RS) (w : World) (h : sIs w T B s) (hn : 1 ≤ s.n) : Calls Tryd.prog 43 #[.pointer (some ⟨T, 0, none⟩)] w fun e w' => e = .returned (.bool s.pr) ∧ w' = w := by
  have I := hid0 (s_absent T B s w h hn)
  have c2 := h.c5
  clear h
  generalize s.pr = pr at *
  go_enter Tryd.func43, Tryd.ntmps43
  go_wp2_with (go_at_call 17; refine I.out.mono ?_; rintro e w1 ⟨rfl, rfl⟩)
  go_ret
  exact ⟨rfl, rfl⟩


theorem s_mark_no (T B : Nat) (s : RS) (low high : Int) (w : World) (h : sIs w T B s) (hn : 1 ≤ s.n) (hm : low < 0 ∨ high ≤ low ∨ (s.n : Int) < high) : Calls Tryd.prog 40 #[.pointer (some ⟨T, 0, none⟩), .int .i64 low, .int .i64 high] w fun e w' => e = .returned (.int .i64 2) ∧ w' = w := by
  have I := hid0 (s_absent T B s w h hn)
  have c0 := h.c0
  clear h
  by_cases c1 : low < 0
  · clear hm
    go_enter Tryd.func40, Tryd.ntmps40
    go_wp2_with (go_at_call 17; refine I.out.mono ?_; rintro e w1 ⟨rfl, rfl⟩)
    go_ret
    exact ⟨rfl, rfl⟩
  · have d1 : decide (low < 0) = false := by simpa using c1
    by_cases c2 : high ≤ low
    · have d2 : decide (high ≤ low) = true := by simpa using c2
      clear hm c1 c2
      go_enter Tryd.func40, Tryd.ntmps40
      go_wp2_with (go_at_call 17; refine I.out.mono ?_; rintro e w1 ⟨rfl, rfl⟩)
      go_ret
      exact ⟨rfl, rfl⟩
    · have d2 : decide (high ≤ low) = false := by simpa using c2
      have d3 : decide ((s.n : Int) < high) = true := by simp; omega
      clear hm c1 c2
      go_enter Tryd.func40, Tryd.ntmps40
      go_wp2_with (go_at_call 17; refine I.out.mono ?_; rintro e w1 ⟨rfl, rfl⟩)
      go_ret
      exact ⟨rfl, rfl⟩
theorem s_mark_yes (T B : Nat) (s : RS) (L : List Int) (low high : Int) (w : World) (h : sIs w T B s) (ok : s.Ok L) (m1 : 0 ≤ low) (m2 : low < high) (m3 : high ≤ (s.n : Int)) : Calls Tryd.prog 40 #[.pointer (some ⟨T, 0, none⟩), .int .i64 low, .int .i64 high] w fun e w' => e = .returned (.int .i64 0) ∧
    sIs w' T B { s with low := low, high := high, pr := decide (high ≤ (s.c : Int)) } ∧ Chg (fun k => k = T) w w' := by
  have I := hid0 (s_absent T B s w h ok.n1)
  have c0 := h.c0
  have c2 := h.c2
  have c3 := h.c3
  have c4 := h.c4
  have c5 := h.c5
  have f3 := h.fz 3
  have f4 := h.fz 4
  have f5 := h.fz 5
  have K := hid0 (((h.setlow low).sethigh high).setpr (decide (high ≤ (s.c : Int))))
  have G : Hid (Chg (fun k => k = T) w (((w.setCell ⟨T, 3, none⟩ (.int .i64 low)).setCell ⟨T, 4, none⟩ (.int .i64 high)).setCell ⟨T, 5, none⟩ (.bool (decide (high ≤ (s.c : Int)))))) :=
    ((Chg.set (p := fun k => k = T) (a := ⟨T, 3, none⟩) _ rfl _).trans (Chg.set (p := fun k => k = T) (a := ⟨T, 4, none⟩) _ rfl _)).trans (Chg.set (p := fun k => k = T) (a := ⟨T, 5, none⟩) _ rfl _)
  have d1 : decide (low < 0) = false := by simp; omega
  have d2 : decide (high ≤ low) = false := by simp; omega
  have d3 : decide ((s.n : Int) < high) = false := by simp; omega
  dsimp only at K
  clear h m1 m2 m3 ok
  generalize hD : decide (high ≤ (s.c : Int)) = D at *
  go_enter Tryd.func40, Tryd.ntmps40
  go_wp2_with (go_at_call 17; refine I.out.mono ?_; rintro e w1 ⟨rfl, hw⟩; cases hw)
  go_ret
  exact ⟨rfl, K.out, G.out⟩
end Go.Proofs.YtodlhclaboofiaaDoor
