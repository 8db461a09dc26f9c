/- The closed call that each law makes: it answers true. -/
import Derived.Test.YtomklacjaadcaaaDoorTake
import Derived.Test.YtomklacjaadcaaaDoorOpen
namespace Go.Proofs.YtomklacjaadcaaaDoor
open Go.RowKit Go.Sort

abbrev zed : List UInt8 := List.replicate 128 0
theorem zeq : Tryd.zeroCells29 = (outL (.pointer none) 0 zed 0).toArray := by kernel_rfl
theorem zed_row (w : World) : Row (w.alloc (.cells Tryd.zeroCells29 29)) w.heap.size 29 (outL (.pointer none) 0 zed 0) := by
  unfold Row
  rw [zeq]
  exact Row.new w 29 (outL (.pointer none) 0 zed 0)
set_option maxRecDepth 20000 in
set_option maxHeartbeats 6400000 in
theorem works_any (w : World) (hR : RemIs w) : Calls Tryd.prog 10 #[] w fun e w' => e = .returned (.bool true) ∧ Below w.heap.size w w' := by
  have HR := hid' hR
  have h1 := hR.lt
  clear hR
  go_enter Tryd.func10, Tryd.ntmps10
  go_upto_region 2 with fail
  have rz := zed_row w
  have g1 : Below w.heap.size w (w.alloc (.cells Tryd.zeroCells29 29)) := (Below.refl _ w).alloc (Nat.le_refl _) _
  generalize w.alloc (.cells Tryd.zeroCells29 29) = W at *
  have HP : Hid (Calls Tryd.prog 32 #[.pointer (some ⟨w.heap.size, 0, none⟩), .int .u16 258] W fun e w' => e = .returned (.tuple #[]) ∧ Row w' w.heap.size 29 (outL (.pointer none) 0 (spl zed 0 (lows 258 2)) 2) ∧ W.grownBy w' (some w.heap.size)) :=
    put16_fit w.heap.size (.pointer none) 0 0 zed rfl 258 (by decide) (by decide) W rz
  clear rz
  go_upto_region 3 with (go_at_call 32; refine HP.out.mono ?_; rintro e w2 ⟨rfl, r2, g2⟩)
  have B2 : Below w.heap.size w w2 := g1.grown g2 g1.size (fun k hk => by cases hk; exact Nat.le_refl _)
  have HBy := hid' (bytes_few w.heap.size 2 (spl zed 0 (lows 258 2)) rfl (by decide) (by decide) w2 r2)
  clear HP g2 g1 r2
  go_upto_region 4 with (go_at_call 14; refine HBy.out.mono ?_; rintro e w3 ⟨g, rfl, hg, r3, b3⟩)
  have B3 := B2.trans (b3.mono B2.size)
  clear HBy b3 B2
  rw [show (spl zed 0 (lows 258 2)).take 2 = [2, 1] from by decide] at r3
  have c0 : w3.cell? ⟨g, 0, none⟩ = some (.int .u8 2) := r3.cell 0
  have HRd : Hid (Calls Tryd.prog 16 #[.slice (some ⟨g, 0, none⟩) 2 2] w3 fun e w' => ∃ i : Nat, e = .returned (.pointer (some ⟨i, 0, none⟩)) ∧ Below w3.heap.size w3 w' ∧ w3.heap.size ≤ i ∧ Calls Tryd.prog 33 #[.pointer (some ⟨i, 0, none⟩)] w' fun e w2 => e = .returned (.int .u16 258) ∧ w'.grownBy w2 (some i)) := by
    refine (read_any (some ⟨g, 0, none⟩) 2 2 [2, 1] rfl (fun h => by cases h) (by decide) w3 (r3.by 0 [2, 1] (fun i hi => ?_))).mono ?_
    · rw [Nat.zero_add]
      exact bc_at hi
    · rintro e w' ⟨i, v, rfl, hi, ri, ow, hne, bb⟩
      obtain ⟨ao, cap, rfl, hby, hcap, _, _, hg⟩ := ow.shape
      obtain ⟨b, L, rfl, _⟩ := hg (by decide)
      refine ⟨i, rfl, bb, hi, ?_⟩
      refine (take16_ok i b 0 cap 0 [2, 1] (by decide) hcap (by decide) w' ri hby (hne b rfl)).mono ?_
      rintro e w2 ⟨rfl, _, g3⟩
      exact ⟨rfl, g3⟩
  clear r3
  go_upto_region 6 with (first
    | (go_at_call 16; refine HRd.out.mono ?_; rintro e w4 ⟨i, rfl, b4, hi, H33⟩; replace H33 := hid' H33)
    | (go_at_call 33; refine H33.out.mono ?_; rintro e w5 ⟨rfl, g5⟩))
  have B5 : Below w.heap.size w w5 := (B3.trans (b4.mono B3.size)).grown g5 (Nat.le_trans B3.size b4.size) (fun k hk => by cases hk; exact Nat.le_trans B3.size hi)
  clear H33 HRd b4 g5 B3 c0
  have HF : Hid (Calls Tryd.prog 24 #[.slice (some ⟨w5.heap.size, 0, none⟩) 1 1] (w5.alloc (.cells #[.int .u8 7] 5)) fun e w' => ∃ g, e = .returned (.tuple #[.slice (some ⟨g, 0, none⟩) 9 9, .int .i64 0]) ∧ Row w' g 5 (bc (frameP [7])) ∧ w5.heap.size ≤ g ∧ Below w5.heap.size w5 w' ∧ RemIs w') := by
    have hr := Row.new w5 5 [.int .u8 7]
    have ba := (Below.refl w5.heap.size w5).alloc (Nat.le_refl _) (.cells #[.int .u8 7] 5)
    refine (frame_some ⟨w5.heap.size, 0, none⟩ 1 [7] (by decide) _ (hr.by 0 [7] (fun i hi => ?_)) ((HR.out.mono B5).mono ba)).mono ?_
    · rw [Nat.zero_add]
      exact bc_at hi
    · rintro e w' ⟨g, rfl, r, hg, bb⟩
      have bt := ba.trans (bb.mono ba.size)
      exact ⟨g, rfl, r, Nat.le_trans ba.size hg, bt, (HR.out.mono B5).mono bt⟩
  go_upto_region 7 with (go_at_call 24; refine HF.out.mono ?_; rintro e w6 ⟨g6, rfl, r6, hg6, b6, hr6⟩)
  have HO : Hid (Calls Tryd.prog 28 #[.slice (some ⟨g6, 0, none⟩) 9 9] w6 fun e w' => ∃ b cap, e = .returned (.tuple #[.slice (some ⟨b, 0, none⟩) 1 cap, .int .i64 0]) ∧ w'.cell? ⟨b, 0, none⟩ = some (.int .u8 7) ∧ Below w6.heap.size w6 w') := by
    refine (open_any (some ⟨g6, 0, none⟩) 9 (frameP [7]) (by decide) (by decide) w6 (r6.by 0 _ (fun i hi => ?_)) hr6).mono ?_
    · rw [Nat.zero_add]
      exact bc_at hi
    · rintro e w' ⟨v, rfl, ow, bb⟩
      have e0 : openE (frameP [7]) = 0 := by decide +kernel
      rw [e0] at ow ⊢
      rw [if_pos rfl] at ow
      have e1 : (frameP [7]).drop 8 = [7] := by decide +kernel
      rw [e1] at ow
      obtain ⟨ao, cap, rfl, hby, hcap, _, _, hg⟩ := ow.shape
      obtain ⟨b, L, rfl, _⟩ := hg (by decide)
      obtain ⟨b', off', e, hc⟩ := hby 0 (by decide)
      cases e
      exact ⟨b, cap, rfl, hc, bb⟩
  have B6 := B5.trans (b6.mono B5.size)
  clear HF r6 hr6 b6
  go_wp2_with (go_at_call 28; refine HO.out.mono ?_; rintro e w7 ⟨b7, cap7, rfl, c7, bb7⟩)
  go_ret
  exact ⟨rfl, B6.trans (bb7.mono B6.size)⟩
end Go.Proofs.YtomklacjaadcaaaDoor
