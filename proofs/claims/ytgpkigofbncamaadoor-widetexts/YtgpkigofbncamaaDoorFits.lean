/- Contract of the reference's test whether 128 bits hold a number. -/
import Derived.Test.YtgpkigofbncamaaDoorLaw
namespace Go.Proofs.YtgpkigofbncamaaDoor
open Go.RowKit Go.Sort

theorem p2_127 : p2 127 = 170141183460469231731687303715884105728 := by
  rw [show 127 = 63 + 64 from rfl, p2_add, p63, p2_64]; rfl
/-- Whether 128 bits hold a number. -/
def inB (m : Int) : Bool := decide (-170141183460469231731687303715884105728 ≤ m ∧ m < 170141183460469231731687303715884105728)
set_option maxHeartbeats 2000000 in
theorem fits_num (y : Value) (m : Int) (w : World) (hy : Nm w y m) :
    Calls Tryd.prog 27 #[y] w fun e w' => e = .returned (.bool (inB m)) ∧ Below w.heap.size w w' := by
  obtain ⟨s, ao, la, ca, rfl, hx'⟩ := hy.shape
  have k0 := Bk.new w (.bool s) (.slice ao la ca)
  have hb0 : Below w.heap.size w (w.alloc (.cells #[.bool s, .slice ao la ca] 31)) := ((Gr.refl _).alloc _).below
  have hX : Hid (Nm (w.alloc (.cells #[.bool s, .slice ao la ca] 31)) (.agg #[.bool s, .slice ao la ca]) m) := hx'.out.mono hb0
  clear hy hx'
  by_cases h1 : -170141183460469231731687303715884105728 ≤ m
  · have hc1 : decide (0 ≤ cmpI m (-p2 127)) = true := by rw [p2_127]; unfold cmpI; rw [if_neg (by omega)]; split <;> decide
    have HE : Hid (decide (cmpI m (p2 127) < 0) = inB m) := by
      unfold Hid inB; rw [p2_127]
      by_cases c : m < 170141183460469231731687303715884105728
      · rw [decide_eq_true (show -170141183460469231731687303715884105728 ≤ m ∧ m < 170141183460469231731687303715884105728 from ⟨h1, c⟩)]
        unfold cmpI; rw [if_pos c]; decide
      · rw [decide_eq_false (show ¬ (-170141183460469231731687303715884105728 ≤ m ∧ m < 170141183460469231731687303715884105728) from fun h => c h.2)]
        unfold cmpI; rw [if_neg c]; split <;> decide
    clear h1
    go_enter Tryd.func27, Tryd.ntmps27
    go_wp2
    generalize w.alloc (.cells #[.bool s, .slice ao la ca] 31) = W at *
    have c0 := k0.c0
    have c1 := k0.c1
    have hS0 : Hid (S2 ⟨w.heap.size, 0, none⟩ ⟨w.heap.size, 1, none⟩ (.bool s) (.slice ao la ca) W W.drew) := ⟨c0, c1, (Below.refl _ _).drew⟩
    go_region_held3 (S2 ⟨w.heap.size, 0, none⟩ ⟨w.heap.size, 1, none⟩ (.bool s) (.slice ao la ca) W)
      (first | with_reducible exact hS0.out | exact S2.call (by assumption) (by assumption))
      (first
        | (go_at_call 44; refine (power_num 127 _ (by omega)).mono ?_; rintro e w2 ⟨z, rfl, hz2, hb2⟩; obtain ⟨r2, o2, l2, c2, rfl, hz2'⟩ := hz2.shape; clear hz2)
        | (go_at_call 50; refine (neg_num _ (p2 127) _ hz2'.out).mono ?_; rintro e w3 ⟨z, rfl, hz3, hb3⟩; obtain ⟨r3, o3, l3, c3, rfl, hz3'⟩ := hz3.shape; clear hz3)
        | (go_at_call_of 49 (Value.slice o2 l2 c2); refine (cmp_num _ _ m (p2 127) _ (hX.out.mono (by assumption : S2 ⟨w.heap.size, 0, none⟩ ⟨w.heap.size, 1, none⟩ (.bool s) (.slice ao la ca) W _).2.2) hz2'.out).mono ?_; rintro e w4 ⟨rfl, hg4⟩; have hb4 := hg4.below)
        | (go_at_call_of 49 (Value.slice o3 l3 c3); refine (cmp_num _ _ m (-p2 127) _ (hX.out.mono (by assumption : S2 ⟨w.heap.size, 0, none⟩ ⟨w.heap.size, 1, none⟩ (.bool s) (.slice ao la ca) W _).2.2) hz3'.out).mono ?_; rintro e w4 ⟨rfl, hg4⟩; have hb4 := hg4.below))
    have hbW : Below W.heap.size W _ := (by assumption : S2 ⟨w.heap.size, 0, none⟩ ⟨w.heap.size, 1, none⟩ (.bool s) (.slice ao la ca) W w4).2.2
    go_wp2
    go_ret
    exact ⟨by rw [← HE.out]; rfl, hb0.trans (hbW.mono hb0.size)⟩
  · have hc1 : decide (0 ≤ cmpI m (-p2 127)) = false := by rw [p2_127]; unfold cmpI; rw [if_pos (by omega)]; decide
    have HE : Hid (inB m = false) := by unfold Hid inB; rw [decide_eq_false (by omega)]
    clear h1
    go_enter Tryd.func27, Tryd.ntmps27
    go_wp2
    generalize w.alloc (.cells #[.bool s, .slice ao la ca] 31) = W at *
    have c0 := k0.c0
    have c1 := k0.c1
    go_region_with (first
      | (go_at_call 44; refine (power_num 127 _ (by omega)).mono ?_; rintro e w2 ⟨z, rfl, hz2, hb2⟩; replace hb2 := drewB hb2; obtain ⟨r2, o2, l2, c2, rfl, hz2'⟩ := hz2.shape; clear hz2; have k2 := k0.mono hb2 k0.lt; have d0 := k2.c0; have d1 := k2.c1)
      | (go_at_call 50; refine (neg_num _ (p2 127) _ hz2'.out).mono ?_; rintro e w3 ⟨z, rfl, hz3, hb3⟩; obtain ⟨r3, o3, l3, c3, rfl, hz3'⟩ := hz3.shape; clear hz3; have k3 := k2.mono hb3 k2.lt; have e0 := k3.c0; have e1 := k3.c1; have hb4 : Below W.heap.size W w3 := hb2.trans (hb3.mono hb2.size))
      | (go_at_call 49; refine (cmp_num _ _ m (-p2 127) _ (hX.out.mono hb4) hz3'.out).mono ?_; rintro e w4 ⟨rfl, hg4⟩; have hbW : Below W.heap.size W w4 := hb4.trans (hg4.below.mono hb4.size)))
    all_goals
      clear hX c0 c1
      go_wp2
      go_ret
      exact ⟨by rw [HE.out]; rfl, hb0.trans (hbW.mono hb0.size)⟩
end Go.Proofs.YtgpkigofbncamaaDoor
