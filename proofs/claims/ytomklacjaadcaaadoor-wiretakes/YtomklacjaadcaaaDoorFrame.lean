/- Contract of Frame. -/
import Derived.Test.YtomklacjaadcaaaDoorClone
namespace Go.Proofs.YtomklacjaadcaaaDoor
open Go.RowKit Go.Sort

/-- The four bytes ahead of the sum. -/
def headP (n : Nat) : List UInt8 := lows 25680 2 ++ lows n 2
/-- The frame around a body. -/
def frameP (l : List UInt8) : List UInt8 := headP l.length ++ lows (sumP (headP l.length) l) 4 ++ l
theorem headP_len (n : Nat) : (headP n).length = 4 := by simp [headP, lows_len]
theorem frameP_len (l : List UInt8) : (frameP l).length = l.length + 8 := by simp [frameP, headP_len, lows_len]; omega
set_option maxRecDepth 20000 in
set_option maxHeartbeats 1600000 in
theorem frame_over (ao : Option Addr) (cap n : Nat) (h : 8184 < n) (w : World) :
    Calls Tryd.prog 24 #[.slice ao n cap] w fun e w' => e = .returned (.tuple #[.slice none 0 0, .int .i64 31]) ∧ w' = w := by
  go_enter Tryd.func24, Tryd.ntmps24
  go_wp2
  go_ret2
  exact ⟨rfl, rfl⟩
theorem made_row {w : World} {g cap : Nat} (h : w.ownsRow g 5 1 (.slice (some ⟨g, 0, none⟩) 0 cap) 0 []) : ∃ L, Row w g 5 L ∧ L.length = cap := by
  rcases h.2 with ⟨h2, _⟩ | ⟨g', cap', cur, h3, h4, h5, h6, h7, h8, h9⟩
  · cases h2
  · cases h3
    exact ⟨cur.toList, by unfold Row; simpa using h5, by simpa using h8⟩
theorem splice_all (L : List Value) (a : List Value) (h : a.length = L.length) : splice L 0 a = a := by
  unfold splice
  simp [h]
set_option maxRecDepth 20000 in
set_option maxHeartbeats 1600000 in
theorem frame_some (a : Addr) (cap : Nat) (l : List UInt8) (hl : l.length ≤ 8184) (w : World) (hb : By w (some a) l) (hR : RemIs w) :
    Calls Tryd.prog 24 #[.slice (some a) l.length cap] w fun e w' => ∃ g, e = .returned (.tuple #[.slice (some ⟨g, 0, none⟩) (l.length + 8) (l.length + 8), .int .i64 0]) ∧ Row w' g 5 (bc (frameP l)) ∧ w.heap.size ≤ g ∧ Below w.heap.size w w' := by
  obtain ⟨i0, hi', hz0, hz1, hz2⟩ := info_parts info5
  have HB := hid' hb
  have HR := hid' hR
  clear hb hR
  go_enter Tryd.func24, Tryd.ntmps24
  go_upto_region 4 with (refine wpList_make_own _ rfl _ _ 31 rfl w.heap.size 5 i0 (.int .u8 0) 1 Tryd.underlying31 hi' hz0 hz1 .i64 .i64 _ (l.length + 8) rfl rfl (by omega) (by rw [hz2]; omega) (by unfold maxLen; omega) (Nat.le_refl _) ?_; intro w1 o1 g1)
  obtain ⟨L, r1, hL⟩ := made_row o1
  have B1 : Below w.heap.size w w1 := (Below.refl _ w).grown g1 (Nat.le_refl _) (fun k hk => by cases hk)
  have e1 : splice L 0 (bc (lows 25680 2)) = splice L 0 (bc (lows 25680 2)) := rfl
  have H1 : Hid (Calls Tryd.prog 67 #[.slice (some ⟨w.heap.size, 0, none⟩) 0 (l.length + 8), .int .u64 25680, .int .i64 2] w1 fun e w' => e = .returned (.slice (some ⟨w.heap.size, 0, none⟩) 2 (l.length + 8)) ∧ Row w' w.heap.size 5 (splice L 0 (bc (lows 25680 2))) ∧ w1.grownBy w' (some w.heap.size)) :=
    lowest_any w.heap.size 0 0 (l.length + 8) 5 L 25680 2 (by decide) (by decide) (by omega) (by omega) (by omega) w1 r1
  clear e1 o1 g1 r1
  go_upto_region 5 with (go_at_call 67; refine H1.out.mono ?_; rintro e w2 ⟨rfl, r2, g2⟩)
  have hs2 := length_splice' L 0 (bc (lows 25680 2)) (by rw [bc_len, lows_len]; omega)
  have H2 : Hid (Calls Tryd.prog 67 #[.slice (some ⟨w.heap.size, 0, none⟩) 2 (l.length + 8), .int .u64 (l.length : Nat), .int .i64 2] w2 fun e w' => e = .returned (.slice (some ⟨w.heap.size, 0, none⟩) 4 (l.length + 8)) ∧ Row w' w.heap.size 5 (splice L 0 (bc (headP l.length))) ∧ w2.grownBy w' (some w.heap.size)) := by
    have := lowest_any w.heap.size 0 2 (l.length + 8) 5 (splice L 0 (bc (lows 25680 2))) l.length 2 (by omega) (by decide) (by omega) (by omega) (by omega) w2 r2
    have e := splice_app L 0 (bc (lows 25680 2)) (bc (lows l.length 2)) (by rw [bc_len, bc_len, lows_len, lows_len]; omega)
    rw [bc_len, lows_len, ← bc_app] at e
    rw [e] at this
    exact this
  replace B1 := B1.grown g2 B1.size (fun k hk => by cases hk; exact Nat.le_refl _)
  clear H1 r2 g2
  go_upto_region 6 with (go_at_call 67; refine H2.out.mono ?_; rintro e w3 ⟨rfl, r3, g3⟩)
  replace B1 := B1.grown g3 B1.size (fun k hk => by cases hk; exact Nat.le_refl _)
  have hs3 := length_splice' L 0 (bc (headP l.length)) (by rw [bc_len, headP_len]; omega)
  have hby : By w3 (some ⟨w.heap.size, 0, none⟩) (headP l.length) := r3.by 0 _ fun i hi => by
    rw [splice_at_in L 0 _ (by rw [bc_len, headP_len]; omega) i (by rw [bc_len]; exact hi)]
    exact bc_at hi
  have HS := hid' (sum_at (cap := l.length + 8) (cap2 := cap) (headP_len l.length) rfl (by omega) hby (by omega) (HB.out.mono B1) (HR.out.mono B1))
  have hSl := sumP_lt (headP l.length) l
  have H3 : Hid (Calls Tryd.prog 67 #[.slice (some ⟨w.heap.size, 0, none⟩) 4 (l.length + 8), .int .u64 (sumP (headP l.length) l : Nat), .int .i64 4] w3 fun e w' => e = .returned (.slice (some ⟨w.heap.size, 0, none⟩) 8 (l.length + 8)) ∧ Row w' w.heap.size 5 (splice L 0 (bc (headP l.length ++ lows (sumP (headP l.length) l) 4))) ∧ w3.grownBy w' (some w.heap.size)) := by
    have := lowest_any w.heap.size 0 4 (l.length + 8) 5 (splice L 0 (bc (headP l.length))) (sumP (headP l.length) l) 4 (by omega) (by decide) (by omega) (by omega) (by omega) w3 r3
    have e := splice_app L 0 (bc (headP l.length)) (bc (lows (sumP (headP l.length) l) 4)) (by rw [bc_len, bc_len, lows_len, headP_len]; omega)
    rw [bc_len, headP_len, ← bc_app] at e
    rw [e] at this
    exact this
  have HF : Hid (splice (splice L 0 (bc (headP l.length ++ lows (sumP (headP l.length) l) 4))) (0 + 8) (bc l) = bc (frameP l)) := by
    show _ = _
    have e := splice_app L 0 (bc (headP l.length ++ lows (sumP (headP l.length) l) 4)) (bc l) (by rw [bc_len, bc_len, List.length_append, lows_len, headP_len]; omega)
    rw [bc_len, List.length_append, lows_len, headP_len, ← bc_app] at e
    exact e.trans (splice_all L (bc (frameP l)) (by rw [bc_len, frameP_len, hL]))
  have hs4 := length_splice' L 0 (bc (headP l.length ++ lows (sumP (headP l.length) l) 4)) (by rw [bc_len, List.length_append, lows_len, headP_len]; omega)
  generalize splice L 0 (bc (headP l.length ++ lows (sumP (headP l.length) l) 4)) = M at *
  generalize sumP (headP l.length) l = S at *
  clear H2 r3 g3 hby
  go_upto_region 7 with (first
    | (go_at_call 68; refine HS.out.mono ?_; rintro e w4 ⟨rfl, rfl⟩)
    | (go_at_call 67; refine H3.out.mono ?_; rintro e w5 ⟨rfl, r5, g5⟩))
  replace B1 := B1.grown g5 B1.size (fun k hk => by cases hk; exact Nat.le_refl _)
  go_wp2_with (at_builtin; refine wpList_app_room rfl _ _ rfl w.heap.size 0 8 (l.length + 8) 5 M r5 rfl a l.length cap (bc l) rfl (bc_len l) (By.src (HB.out.mono B1)) bc_one (by omega) (by omega) ?_; intro w6 r6 g6)
  go_ret2
  replace B1 := B1.grown g6 B1.size (fun k hk => by cases hk; exact Nat.le_refl _)
  rw [HF.out] at r6
  refine ⟨w.heap.size, ?_, r6, Nat.le_refl _, B1⟩
  show Ending.returned (Value.tuple #[Value.slice _ (8 + l.length) _, _]) = _
  rw [Nat.add_comm 8]
  rfl
set_option maxRecDepth 20000 in
set_option maxHeartbeats 1600000 in
theorem frame_none (w : World) (hR : RemIs w) :
    Calls Tryd.prog 24 #[.slice none 0 0] w fun e w' => ∃ g, e = .returned (.tuple #[.slice (some ⟨g, 0, none⟩) (0 + 8) (0 + 8), .int .i64 0]) ∧ Row w' g 5 (bc (frameP [])) ∧ w.heap.size ≤ g ∧ Below w.heap.size w w' := by
  obtain ⟨i0, hi', hz0, hz1, hz2⟩ := info_parts info5
  have HB : Hid (By w none []) := fun i hi => by simp at hi
  have HR := hid' hR
  clear hR
  go_enter Tryd.func24, Tryd.ntmps24
  go_upto_region 4 with (refine wpList_make_own _ rfl _ _ 31 rfl w.heap.size 5 i0 (.int .u8 0) 1 Tryd.underlying31 hi' hz0 hz1 .i64 .i64 _ (0 + 8) rfl rfl (by omega) (by rw [hz2]; omega) (by unfold maxLen; omega) (Nat.le_refl _) ?_; intro w1 o1 g1)
  obtain ⟨L, r1, hL⟩ := made_row o1
  have B1 : Below w.heap.size w w1 := (Below.refl _ w).grown g1 (Nat.le_refl _) (fun k hk => by cases hk)
  have e1 : splice L 0 (bc (lows 25680 2)) = splice L 0 (bc (lows 25680 2)) := rfl
  have H1 : Hid (Calls Tryd.prog 67 #[.slice (some ⟨w.heap.size, 0, none⟩) 0 (0 + 8), .int .u64 25680, .int .i64 2] w1 fun e w' => e = .returned (.slice (some ⟨w.heap.size, 0, none⟩) 2 (0 + 8)) ∧ Row w' w.heap.size 5 (splice L 0 (bc (lows 25680 2))) ∧ w1.grownBy w' (some w.heap.size)) :=
    lowest_any w.heap.size 0 0 (0 + 8) 5 L 25680 2 (by decide) (by decide) (by omega) (by omega) (by omega) w1 r1
  clear e1 o1 g1 r1
  go_upto_region 5 with (go_at_call 67; refine H1.out.mono ?_; rintro e w2 ⟨rfl, r2, g2⟩)
  have hs2 := length_splice' L 0 (bc (lows 25680 2)) (by rw [bc_len, lows_len]; omega)
  have H2 : Hid (Calls Tryd.prog 67 #[.slice (some ⟨w.heap.size, 0, none⟩) 2 (0 + 8), .int .u64 (0 : Nat), .int .i64 2] w2 fun e w' => e = .returned (.slice (some ⟨w.heap.size, 0, none⟩) 4 (0 + 8)) ∧ Row w' w.heap.size 5 (splice L 0 (bc (headP 0))) ∧ w2.grownBy w' (some w.heap.size)) := by
    have := lowest_any w.heap.size 0 2 (0 + 8) 5 (splice L 0 (bc (lows 25680 2))) 0 2 (by omega) (by decide) (by omega) (by omega) (by omega) w2 r2
    have e := splice_app L 0 (bc (lows 25680 2)) (bc (lows 0 2)) (by rw [bc_len, bc_len, lows_len, lows_len]; omega)
    rw [bc_len, lows_len, ← bc_app] at e
    rw [e] at this
    exact this
  replace B1 := B1.grown g2 B1.size (fun k hk => by cases hk; exact Nat.le_refl _)
  clear H1 r2 g2
  go_upto_region 6 with (go_at_call 67; refine H2.out.mono ?_; rintro e w3 ⟨rfl, r3, g3⟩)
  replace B1 := B1.grown g3 B1.size (fun k hk => by cases hk; exact Nat.le_refl _)
  have hs3 := length_splice' L 0 (bc (headP 0)) (by rw [bc_len, headP_len]; omega)
  have hby : By w3 (some ⟨w.heap.size, 0, none⟩) (headP 0) := r3.by 0 _ fun i hi => by
    rw [splice_at_in L 0 _ (by rw [bc_len, headP_len]; omega) i (by rw [bc_len]; exact hi)]
    exact bc_at hi
  have HS := hid' (sum_at (cap := 0 + 8) (cap2 := 0) (n2 := 0) (headP_len 0) rfl (by omega) hby (by omega) (HB.out.mono B1) (HR.out.mono B1))
  have hSl := sumP_lt (headP 0) []
  have H3 : Hid (Calls Tryd.prog 67 #[.slice (some ⟨w.heap.size, 0, none⟩) 4 (0 + 8), .int .u64 (sumP (headP 0) [] : Nat), .int .i64 4] w3 fun e w' => e = .returned (.slice (some ⟨w.heap.size, 0, none⟩) 8 (0 + 8)) ∧ Row w' w.heap.size 5 (splice L 0 (bc (headP 0 ++ lows (sumP (headP 0) []) 4))) ∧ w3.grownBy w' (some w.heap.size)) := by
    have := lowest_any w.heap.size 0 4 (0 + 8) 5 (splice L 0 (bc (headP 0))) (sumP (headP 0) []) 4 (by omega) (by decide) (by omega) (by omega) (by omega) w3 r3
    have e := splice_app L 0 (bc (headP 0)) (bc (lows (sumP (headP 0) []) 4)) (by rw [bc_len, bc_len, lows_len, headP_len]; omega)
    rw [bc_len, headP_len, ← bc_app] at e
    rw [e] at this
    exact this
  have HF : Hid (splice (splice L 0 (bc (headP 0 ++ lows (sumP (headP 0) []) 4))) (0 + 8) (bc []) = bc (frameP [])) := by
    show _ = _
    have e := splice_app L 0 (bc (headP 0 ++ lows (sumP (headP 0) []) 4)) (bc []) (by rw [bc_len, bc_len, List.length_append, lows_len, headP_len]; show 0 + (4 + 4) + 0 ≤ L.length; omega)
    rw [bc_len, List.length_append, lows_len, headP_len, ← bc_app] at e
    exact e.trans (splice_all L (bc (frameP [])) (by rw [bc_len, frameP_len, hL]; rfl))
  have hs4 := length_splice' L 0 (bc (headP 0 ++ lows (sumP (headP 0) []) 4)) (by rw [bc_len, List.length_append, lows_len, headP_len]; omega)
  generalize splice L 0 (bc (headP 0 ++ lows (sumP (headP 0) []) 4)) = M at *
  generalize sumP (headP 0) [] = S at *
  clear H2 r3 g3 hby
  go_upto_region 7 with (first
    | (go_at_call 68; refine HS.out.mono ?_; rintro e w4 ⟨rfl, rfl⟩)
    | (go_at_call 67; refine H3.out.mono ?_; rintro e w5 ⟨rfl, r5, g5⟩))
  replace B1 := B1.grown g5 B1.size (fun k hk => by cases hk; exact Nat.le_refl _)
  rw [show splice M (0 + 8) (bc []) = M from splice_nil M _] at HF
  have ow : w5.ownsRow w.heap.size 5 1 (.slice (some ⟨w.heap.size, 0, none⟩) 8 8) 8 M := ⟨by omega, .inr ⟨w.heap.size, 8, M.toArray, rfl, Nat.le_refl _, r5, by omega, by unfold maxLen; omega, by simp; omega, List.take_of_length_le (by simp; omega)⟩⟩
  go_wp2_with (at_builtin; refine wpList_append_own_none rfl _ _ 31 rfl w.heap.size 5 i0 1 Tryd.underlying31 hi' _ 8 M rfl ow rfl ?_)
  go_ret2
  rw [HF.out] at r5
  exact ⟨w.heap.size, rfl, r5, Nat.le_refl _, B1⟩
theorem frame_any (ao : Option Addr) (cap : Nat) (l : List UInt8) (h0 : ao = none → l = [] ∧ cap = 0) (hl : l.length ≤ 8184) (w : World) (hb : By w ao l) (hR : RemIs w) :
    Calls Tryd.prog 24 #[.slice ao l.length cap] w fun e w' => ∃ g, e = .returned (.tuple #[.slice (some ⟨g, 0, none⟩) (l.length + 8) (l.length + 8), .int .i64 0]) ∧ Row w' g 5 (bc (frameP l)) ∧ w.heap.size ≤ g ∧ Below w.heap.size w w' := by
  cases ao with
  | some a => exact frame_some a cap l hl w hb hR
  | none =>
    obtain ⟨rfl, rfl⟩ := h0 rfl
    exact frame_none w hR
end Go.Proofs.YtomklacjaadcaaaDoor
