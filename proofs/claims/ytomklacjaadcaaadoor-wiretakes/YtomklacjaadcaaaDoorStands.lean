/- Contract of the law's stands. -/
import Derived.Test.YtomklacjaadcaaaDoorNil
namespace Go.Proofs.YtomklacjaadcaaaDoor
open Go.RowKit Go.Sort

set_option maxRecDepth 20000 in
set_option maxHeartbeats 3200000 in
theorem stands_any (i r at' f : Nat) (l : List UInt8) (w : World) (h : InIs w i l at' f) (k : RefIs w r l at' f) :
    Calls Tryd.prog 17 #[.pointer (some ⟨i, 0, none⟩), .pointer (some ⟨r, 0, none⟩)] w fun e w' => e = .returned (.bool true) ∧ Gr w w' := by
  have HI := hid' h
  have HK := hid' k
  obtain ⟨ao, cap, h1, _⟩ := h
  obtain ⟨ao2, cap2, k1, _⟩ := k
  have HF := hid' (fault_any i at' f _ w h1)
  have HA := hid' (fun w' (g : Gr w w') => gr0 (at_any i at' f _ w' (h1.below g.below h1.lt)))
  have HE := hid' (fun w' (g : Gr w w') => end_any i at' f l w' (HI.out.below g.below))
  have HE2 := hid' (fun w' (g : Gr w w') => rend_any r at' f l w' (HK.out.below g.below))
  have HC := hid' (fun w' (g : Gr w w') => (k1.below g.below k1.lt))
  clear h1 k1
  generalize endV l at' f = E at *
  generalize hWh : whereV at' f = Wh at *
  clear hWh
  go_enter Tryd.func17, Tryd.ntmps17
  go_upto_region 2 with (go_at_call 20; refine HF.out.mono ?_; rintro e w1 ⟨rfl, g1⟩)
  have K1 := HC.out w1 g1
  have d1 := cell_grown K1.lt (show w1.cell? ⟨r, 1, none⟩ = some (.int .i64 (at' : Nat)) from K1.cell 1)
  have d2 := cell_grown K1.lt (show w1.cell? ⟨r, 2, none⟩ = some (.int .i64 (f : Nat)) from K1.cell 2)
  have d3 := cell_grown K1.lt (show w1.cell? ⟨r, 3, none⟩ = some (.int .i64 (Wh : Nat)) from K1.cell 3)
  have G1 := hid' g1
  clear K1 g1
  refine wp_region_quiet_grown (by kernel_rfl) (by kernel_rfl) ?_
  repeat (go_big_quiet_step ((go_at_call 21; refine Calls.grown_of (HA.out _ (G1.out.trans ⟨_, _, rfl⟩)))))
  refine wpQuiet_nil ?_
  intro _ hw'
  obtain ⟨⟨nq, osq⟩, hw''⟩ := hw'
  subst hw''
  have G2 : Hid (Gr w (grow (w1.drewN nq) osq)) := G1.out.trans ⟨nq, osq, rfl⟩
  generalize grow (w1.drewN nq) osq = w2 at *
  clear d1 d2 d3 G1
  go_wp2_with (first
    | (go_at_call 22; refine (HE.out _ G2.out).mono ?_; rintro e w3 ⟨rfl, g3⟩; have G3 := hid' (G2.out.trans g3))
    | (go_at_call 50; refine (HE2.out _ G3.out).mono ?_; rintro e w4 ⟨rfl, g4⟩))
  go_ret
  exact ⟨rfl, G3.out.trans g4⟩
end Go.Proofs.YtomklacjaadcaaaDoor
