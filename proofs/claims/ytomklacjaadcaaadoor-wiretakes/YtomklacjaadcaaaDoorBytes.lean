/- Contracts of Len and, where nothing is put away, of Bytes. -/
import Derived.Test.YtomklacjaadcaaaDoorPut
import Derived.Test.YtomklacjaadcaaaDoorFrame
namespace Go.Proofs.YtomklacjaadcaaaDoor
open Go.RowKit Go.Sort

set_option maxRecDepth 20000 in
set_option maxHeartbeats 3200000 in
theorem len_any (o : Nat) (away : Value) (pc used : Nat) (last : List UInt8) (hl : last.length = 128) (hp : pc * 128 + used ≤ 281474976710656) (w : World) (hR : Row w o 29 (outL away pc last used)) :
    Calls Tryd.prog 15 #[.pointer (some ⟨o, 0, none⟩)] w fun e w' => e = .returned (.int .i64 (pc * 128 + used : Nat)) ∧ w' = w.drew := by
  have c1 := hR.cell 1
  rw [outL_1] at c1
  have c2 := hR.cell 130
  rw [outL_130 hl] at c2
  clear hR
  go_enter Tryd.func15, Tryd.ntmps15
  go_upto_region 3 with fail
  go_region
  go_wp2
  go_ret
  refine ⟨?_, rfl⟩
  show Ending.returned (Value.int .i64 ((pc : Int) * 128 + (used : Int))) = _
  congr 2
theorem sl_upto (o off used : Nat) (h : used ≤ 128) (w : World) : (Instr.sliceAt 27 (.pointer (some ⟨o, off, none⟩)) none (some (.int .i64 (used : Nat))) none).run Tryd.prog w = .ok (.slice (some ⟨o, off, none⟩) used 128) w := by
  have := run_sliceAt_array_h (P := Tryd.prog) w 27 ⟨o, off, none⟩ un27 .i64 (used : Nat) (by omega) (by rw [al27]; omega)
  rw [this, el27, sz5, al27]
  simp [slicedAt, Addr.add_lit, Result.andThen]
theorem full_row {w : World} {B g n : Nat} {xs : List Value} (h : w.ownsRow B 5 1 (.slice (some ⟨g, 0, none⟩) n n) n xs) : ∃ L, Row w g 5 L ∧ L.length = n := by
  rcases h.2 with ⟨h2, _⟩ | ⟨g', cap', cur, h3, h4, h5, h6, h7, h8, h9⟩
  · cases h2
  · cases h3
    exact ⟨cur.toList, by unfold Row; simpa using h5, by simpa using h8⟩
theorem last_src {w : World} {o : Nat} {away : Value} {pc u : Nat} {last : List UInt8} (h : Row w o 29 (outL away pc last u)) (n : Nat) (hn : n ≤ last.length) : By w (some ⟨o, 2, none⟩) (last.take n) :=
  h.by 2 _ fun i hi => by
    simp at hi
    rw [outL_at (by omega), getD_take (by omega)]
set_option maxRecDepth 20000 in
set_option maxHeartbeats 3200000 in
theorem bytes_few (o : Nat) (used : Nat) (last : List UInt8) (hl : last.length = 128) (hu : used ≤ 128) (h0 : 0 < used) (w : World) (hR : Row w o 29 (outL (.pointer none) 0 last used)) :
    Calls Tryd.prog 14 #[.pointer (some ⟨o, 0, none⟩)] w fun e w' => ∃ g, e = .returned (.slice (some ⟨g, 0, none⟩) used used) ∧ w.heap.size ≤ g ∧ Row w' g 5 (bc (last.take used)) ∧ Below w.heap.size w w' := by
  obtain ⟨i0, hi', hz0, hz1, hz2⟩ := info_parts info5
  have HLen : Hid (Calls Tryd.prog 15 #[.pointer (some ⟨o, 0, none⟩)] w fun e w' => e = .returned (.int .i64 (used : Nat)) ∧ w' = w.drew) := by
    have := len_any o (.pointer none) 0 used last hl (by omega) w hR
    rw [Nat.zero_mul, Nat.zero_add] at this
    exact this
  have HR := hid' hR
  have ho := hR.lt
  clear hR
  go_enter Tryd.func14, Tryd.ntmps14
  go_upto_region 4 with (first
    | (go_at_call 15; refine HLen.out.mono ?_; rintro e w1 ⟨rfl, rfl⟩)
    | (at_make; refine wpList_make_full _ rfl _ _ 31 rfl w.heap.size 5 i0 (.int .u8 0) 1 Tryd.underlying31 hi' hz0 hz1 .i64 .i64 _ _ used rfl rfl rfl rfl (by rw [hz2]; omega) (by unfold maxLen; omega) (Nat.le_refl _) ?_; intro w2 o2 g2))
  obtain ⟨L, r2, hL⟩ := full_row o2
  have G2 : Hid (w.grownBy w2 none) := ⟨g2.os, g2.tape, g2.output, g2.size, g2.block⟩
  have R2 := hid' (HR.out.grown G2.out (by simp))
  clear o2 g2 HLen
  have c1 := R2.out.cell 1
  rw [outL_1] at c1
  have c2 := R2.out.cell 130
  rw [outL_130 hl] at c2
  have hsl := sl_upto o 2 used hu
  have RL := hid' r2
  clear r2
  go_upto_region 5 with fail
  go_region_law (refine step_copy rfl (.tmp 18) (.tmp 26) rfl _ _ used used used 128 rfl rfl w.heap.size 0 _ 5 RL.out (bc (last.take used)) used (by rw [bc_len, List.length_take]; omega) (Nat.min_self used).symm (fun _ => ⟨rfl, _, rfl, By.src (last_src R2.out used (by omega))⟩) (by rw [hL, bc_len, List.length_take]; omega) bc_one ?_; intro w3 r3 g3)
  all_goals
    rw [splice_all L _ (by rw [hL, bc_len, List.length_take]; omega)] at r3
    have G3 : Hid (w2.grownBy w3 (some w.heap.size)) := ⟨g3.os, g3.tape, g3.output, g3.size, g3.block⟩
    have R3 := hid' (R2.out.grown G3.out (by intro e; cases e; omega))
    have c0 := R3.out.cell 0
    rw [outL_0] at c0
    clear c1 c2 hsl R2 RL g3
    go_wp2
    refine wp_loop_rounds 1 ?_
    rw [rounds_succ]
    go_wp2
    go_ret
    exact ⟨w.heap.size, rfl, Nat.le_refl _, r3, grown_below (grown_new G2.out G3.out (Nat.le_refl _))⟩
end Go.Proofs.YtomklacjaadcaaaDoor
