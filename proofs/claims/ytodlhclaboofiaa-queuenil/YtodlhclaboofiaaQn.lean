/- Texts that stand for numbers (here: none but the empty one is asked), the ring of texts that is none. -/
import Derived.Test.YtodlhclaboofiaaQa
import Derived.Test.YtodlhclaboofiaaQj
set_option linter.unusedSimpArgs false
set_option linter.unusedVariables false
namespace Go.Proofs.Ytodlhclaboofiaa
open Go.RowKit Go.Sort
/-- A value of a ring of texts: none but the empty one stands in a ring here. -/
abbrev sV (v : Int) : Value := .string ByteArray.empty
def senc (v : Int) : List Value := [sV v]
theorem senc_len (v : Int) : (senc v).length = 1 := rfl
/-- A pointer to no Ring, or to a zero one. -/
def NoRing (w : World) (v : Value) : Prop := v = .pointer none ∨ ∃ b, v = .pointer (some ⟨b, 0, none⟩) ∧ w.cell? ⟨b, 0, none⟩ = some (.slice none 0 0)
theorem NoRing.below {w w' : World} {v : Value} (h : NoRing w v) (g : Below w.heap.size w w') : NoRing w' v := by
  rcases h with h | ⟨b, h1, h2⟩
  · exact .inl h
  · exact .inr ⟨b, h1, below_cell h2 g⟩
theorem NoRing.gr {w w' : World} {v : Value} (h : NoRing w v) (g : Gr w w') : NoRing w' v := h.below g.below
theorem absent_no (v : Value) (w : World) (h : NoRing w v) : Calls Try.prog 37 #[v] w fun e w' => e = .returned (.bool true) ∧ w' = w := by
  rcases h with rfl | ⟨b, rfl, h⟩
  · go_enter Try.func37, Try.ntmps37
    go_wp2
    go_ret
    exact ⟨rfl, rfl⟩
  · go_enter Try.func37, Try.ntmps37
    go_wp2
    go_ret
    exact ⟨rfl, rfl⟩
theorem len_no (v : Value) (w : World) (h : NoRing w v) : Calls Try.prog 24 #[v] w fun e w' => e = .returned (.int .i64 0) ∧ w' = w := by
  have I := hid0 (absent_no v w h)
  clear h
  go_enter Try.func24, Try.ntmps24
  go_wp2_with (go_at_call 37; refine I.out.mono ?_; rintro e w1 ⟨rfl, rfl⟩)
  go_ret
  exact ⟨rfl, rfl⟩
theorem peak_no (v : Value) (w : World) (h : NoRing w v) : Calls Try.prog 27 #[v] w fun e w' => e = .returned (.int .i64 0) ∧ w' = w := by
  have I := hid0 (absent_no v w h)
  clear h
  go_enter Try.func27, Try.ntmps27
  go_wp2_with (go_at_call 37; refine I.out.mono ?_; rintro e w1 ⟨rfl, rfl⟩)
  go_ret
  exact ⟨rfl, rfl⟩
theorem refused_no (v : Value) (w : World) (h : NoRing w v) : Calls Try.prog 28 #[v] w fun e w' => e = .returned (.int .i64 0) ∧ w' = w := by
  have I := hid0 (absent_no v w h)
  clear h
  go_enter Try.func28, Try.ntmps28
  go_wp2_with (go_at_call 37; refine I.out.mono ?_; rintro e w1 ⟨rfl, rfl⟩)
  go_ret
  exact ⟨rfl, rfl⟩
theorem most_no (v : Value) (w : World) (h : NoRing w v) : Calls Try.prog 26 #[v] w fun e w' => e = .returned (.int .i64 0) ∧ w' = w := by
  have I := hid0 (absent_no v w h)
  clear h
  go_enter Try.func26, Try.ntmps26
  go_wp2_with (go_at_call 37; refine I.out.mono ?_; rintro e w1 ⟨rfl, rfl⟩)
  go_ret
  exact ⟨rfl, rfl⟩
theorem pressed_no (v : Value) (w : World) (h : NoRing w v) : Calls Try.prog 29 #[v] w fun e w' => e = .returned (.bool false) ∧ w' = w := by
  have I := hid0 (absent_no v w h)
  clear h
  go_enter Try.func29, Try.ntmps29
  go_wp2_with (go_at_call 37; refine I.out.mono ?_; rintro e w1 ⟨rfl, rfl⟩)
  go_ret
  exact ⟨rfl, rfl⟩
theorem free_no (v : Value) (w : World) (h : NoRing w v) : Calls Try.prog 25 #[v] w fun e w' => e = .returned (.int .i64 0) ∧ w' = w := by
  have I := hid0 (most_no v w h)
  have I2 := hid0 (len_no v w h)
  clear h
  go_enter Try.func25, Try.ntmps25
  go_wp2_with fail
  refine I.out.mono ?_
  rintro e w1 ⟨rfl, hw⟩
  cases hw
  go_wp2_with fail
  refine I2.out.mono ?_
  rintro e w1 ⟨rfl, hw⟩
  cases hw
  go_wp2
  go_ret
  exact ⟨rfl, rfl⟩
theorem has_no (v : Value) (i : Int) (w : World) (h : NoRing w v) : Calls Try.prog 32 #[v, .int .i64 i] w fun e w' => e = .returned (.bool false) ∧ w' = w := by
  have I := hid0 (absent_no v w h)
  clear h
  go_enter Try.func32, Try.ntmps32
  go_wp2_with (go_at_call 37; refine I.out.mono ?_; rintro e w1 ⟨rfl, rfl⟩)
  go_ret
  exact ⟨rfl, rfl⟩
theorem at_no (v : Value) (i : Int) (w : World) (h : NoRing w v) : Calls Try.prog 17 #[v, .int .i64 i] w fun e w' => e = .returned (.tuple #[.string ByteArray.empty, .bool false]) ∧ w' = w := by
  have I := hid0 (has_no v i w h)
  clear h
  go_enter Try.func17, Try.ntmps17
  go_wp2_with (go_at_call 32; refine I.out.mono ?_; rintro e w1 ⟨rfl, rfl⟩)
  go_ret2
  exact ⟨rfl, rfl⟩
theorem cut_no (v : Value) (i : Int) (w : World) (h : NoRing w v) : Calls Try.prog 18 #[v, .int .i64 i] w fun e w' => e = .returned (.tuple #[.string ByteArray.empty, .bool false]) ∧ w' = w := by
  have I := hid0 (at_no v i w h)
  clear h
  go_enter Try.func18, Try.ntmps18
  go_wp2_with (go_at_call 17; refine I.out.mono ?_; rintro e w1 ⟨rfl, rfl⟩)
  go_ret2
  exact ⟨rfl, rfl⟩
theorem pop_no (v : Value) (w : World) (h : NoRing w v) : Calls Try.prog 16 #[v] w fun e w' => e = .returned (.tuple #[.string ByteArray.empty, .bool false]) ∧ w' = w := by
  have I := hid0 (cut_no v 0 w h)
  clear h
  go_enter Try.func16, Try.ntmps16
  go_wp2_with (go_at_call 18; refine I.out.mono ?_; rintro e w1 ⟨rfl, rfl⟩)
  go_ret2
  exact ⟨rfl, rfl⟩
theorem push_no (v : Value) (t : ByteArray) (w : World) (h : NoRing w v) : Calls Try.prog 20 #[v, .string t] w fun e w' => e = .returned (.int .i64 1) ∧ w' = w := by
  have I := hid0 (absent_no v w h)
  clear h
  go_enter Try.func20, Try.ntmps20
  go_wp2_with (go_at_call 37; refine I.out.mono ?_; rintro e w1 ⟨rfl, rfl⟩)
  go_ret
  exact ⟨rfl, rfl⟩
theorem mark_no (v : Value) (i j : Int) (w : World) (h : NoRing w v) : Calls Try.prog 21 #[v, .int .i64 i, .int .i64 j] w fun e w' => e = .returned (.int .i64 1) ∧ w' = w := by
  have I := hid0 (absent_no v w h)
  clear h
  go_enter Try.func21, Try.ntmps21
  go_wp2_with (go_at_call 37; refine I.out.mono ?_; rintro e w1 ⟨rfl, rfl⟩)
  go_ret
  exact ⟨rfl, rfl⟩
theorem set_no (v : Value) (i : Int) (t : ByteArray) (w : World) (h : NoRing w v) : Calls Try.prog 22 #[v, .int .i64 i, .string t] w fun e w' => e = .returned (.bool false) ∧ w' = w := by
  have I := hid0 (has_no v i w h)
  clear h
  go_enter Try.func22, Try.ntmps22
  go_wp2_with (go_at_call 32; refine I.out.mono ?_; rintro e w1 ⟨rfl, rfl⟩)
  go_ret
  exact ⟨rfl, rfl⟩
theorem drop_no (v : Value) (i : Int) (w : World) (h : NoRing w v) : Calls Try.prog 23 #[v, .int .i64 i] w fun e w' => e = .returned (.int .i64 0) ∧ w' = w := by
  have I := hid0 (absent_no v w h)
  clear h
  go_enter Try.func23, Try.ntmps23
  go_wp2_with (go_at_call 37; refine I.out.mono ?_; rintro e w1 ⟨rfl, rfl⟩)
  go_ret
  exact ⟨rfl, rfl⟩
theorem s_info : (Try.prog.info? 9).map (fun i => (i.zero, i.size, i.bytes)) = some (some (.string ByteArray.empty), 1, 16) := by kernel_rfl
theorem s_make0 (w : World) : (Instr.makeSlice 37 (.int .i64 0) (.int .i64 0)).run Try.prog w = .ok (.slice (some ⟨w.heap.size, 0, none⟩) 0 0) (w.alloc (.cells #[] 9)) := by
  obtain ⟨i, hi, hz0, hz1, hz2⟩ := info_parts s_info
  have := run_make (P := Try.prog) w 37 9 i (.string ByteArray.empty) Try.underlying37 hi hz0 .i64 .i64 0 0 (by omega) (by omega) (by rw [hz2]; omega) (by omega)
  rw [show (0 : Int).toNat * i.size = 0 by simp, show madeCells (Value.string ByteArray.empty).cells 0 = #[] from Array.size_eq_zero_iff.1 (size_madeCells _ _)] at this
  exact this
theorem all_no (v : Value) (w : World) (h : NoRing w v) : Calls Try.prog 19 #[v] w fun e w' => ∃ b N, e = .returned (.func (.func 36) #[] #[.pointer (some ⟨b, 0, none⟩)]) ∧ Bk w' b 37 [.slice (some ⟨N, 0, none⟩) 0 0] ∧ Bk w' N 9 [] ∧ Gr w w' := by
  have I := hid0 (len_no v w h)
  have MK := s_make0 w
  have k1 := (Bk.new w 9 []).alloc (.cells #[.slice (some ⟨w.heap.size, 0, none⟩) 0 0] 37)
  have k2 := Bk.new (w.alloc (.cells #[] 9)) 37 [.slice (some ⟨w.heap.size, 0, none⟩) 0 0]
  have g := ((Gr.refl w).alloc (.cells #[] 9)).alloc (.cells #[.slice (some ⟨w.heap.size, 0, none⟩) 0 0] 37)
  rw [World.size_alloc] at k2
  have k3 := k2.one
  clear h
  go_enter Try.func19, Try.ntmps19
  go_wp2_with (go_at_call 24; refine I.out.mono ?_; rintro e w1 ⟨rfl, hw⟩; cases hw)
  have K1 := hid0 k1
  have K2 := hid0 k2
  have G := hid0 g
  clear k1 k2 g MK I
  generalize w.heap.size = N at *
  generalize (w.alloc (.cells #[] 9)).alloc (.cells #[.slice (some ⟨N, 0, none⟩) 0 0] 37) = W at *
  go_loopw [10] (fun v wr => v = .int .i64 0 ∧ wr = W) (fun _ _ => 0)
  case atStart => exact ⟨rfl, rfl⟩
  case round =>
    obtain ⟨rfl, rfl⟩ := hrel
    go_wp2
    go_ret
    exact ⟨_, _, rfl, K2.out, K1.out, G.out⟩
end Go.Proofs.Ytodlhclaboofiaa
