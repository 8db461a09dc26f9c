/- A book that is none: every call. -/
import Derived.Test.YtgdmbcfjjdngdaaDoorLv
set_option linter.unusedSimpArgs false
set_option linter.unusedVariables false
namespace Go.Proofs.YtgdmbcfjjdngdaaDoor
open Go.RowKit Go.Sort Go.Shelf

theorem mover_nb (v : Value) (id : Int) (w : World) (h : NoBook w v) : Calls Tryd.prog 46 #[v, .int .u32 id] w fun e w' => e = .returned (.tuple #[.pointer none, .bool false]) ∧ w' = w := by
  have A := hid0 (absent_nobook v w h)
  clear h
  go_enter Tryd.func46, Tryd.ntmps46
  go_wp2_with (go_at_call 45; refine A.out.mono ?_; rintro e w1 ⟨rfl, hw⟩; cases hw)
  go_ret2
  exact ⟨rfl, rfl⟩
theorem place_nb (v : Value) (id : Int) (w : World) (h : NoBook w v) : Calls Tryd.prog 48 #[v, .int .u32 id] w fun e w' => e = .returned (.tuple #[.int .i64 0, .bool false]) ∧ w' = w := by
  have A := hid0 (absent_nobook v w h)
  clear h
  go_enter Tryd.func48, Tryd.ntmps48
  go_wp2_with (go_at_call 45; refine A.out.mono ?_; rintro e w1 ⟨rfl, hw⟩; cases hw)
  go_ret2
  exact ⟨rfl, rfl⟩
theorem both_nb (v : Value) (id fe : Int) (w : World) (h : NoBook w v) : Calls Tryd.prog 52 #[v, .int .u32 id, .int .u32 fe] w fun e w' => e = .returned (.tuple #[.pointer none, .int .i64 0, .int .i64 1]) ∧ w' = w := by
  have A := hid0 (absent_nobook v w h)
  clear h
  go_enter Tryd.func52, Tryd.ntmps52
  go_wp2_with (go_at_call 45; refine A.out.mono ?_; rintro e w1 ⟨rfl, hw⟩; cases hw)
  exact bodyPost_ret (v := .tuple #[.pointer none, .int .i64 0, .int .i64 1]) (by simp [results, Tryd.results52, go_sem]) rfl ⟨rfl, rfl⟩
theorem enter_nb (v : Value) (id fe : Int) (w : World) (h : NoBook w v) : Calls Tryd.prog 28 #[v, .int .u32 id, .int .u32 fe] w fun e w' => e = .returned (.tuple #[.bool false, .int .i64 1]) ∧ w' = w := by
  have A := hid0 (both_nb v id fe w h)
  clear h
  go_enter Tryd.func28, Tryd.ntmps28
  go_wp2_with (go_at_call 52; refine A.out.mono ?_; rintro e w1 ⟨rfl, hw⟩; cases hw)
  go_ret2
  exact ⟨rfl, rfl⟩
theorem leave_nb (v : Value) (id fe : Int) (w : World) (h : NoBook w v) : Calls Tryd.prog 33 #[v, .int .u32 id, .int .u32 fe] w fun e w' => e = .returned (.tuple #[.bool false, .int .i64 1]) ∧ w' = w := by
  have A := hid0 (both_nb v id fe w h)
  clear h
  go_enter Tryd.func33, Tryd.ntmps33
  go_wp2_with (go_at_call 52; refine A.out.mono ?_; rintro e w1 ⟨rfl, hw⟩; cases hw)
  go_ret2
  exact ⟨rfl, rfl⟩
theorem in_nb (v : Value) (id fe : Int) (w : World) (h : NoBook w v) : Calls Tryd.prog 29 #[v, .int .u32 id, .int .u32 fe] w fun e w' => e = .returned (.bool false) ∧ w' = w := by
  have A := hid0 (both_nb v id fe w h)
  clear h
  go_enter Tryd.func29, Tryd.ntmps29
  go_wp2_with (go_at_call 52; refine A.out.mono ?_; rintro e w1 ⟨rfl, hw⟩; cases hw)
  go_ret
  exact ⟨rfl, rfl⟩
theorem add_nb (v : Value) (fe : Int) (w : World) (h : NoBook w v) : Calls Tryd.prog 27 #[v, .int .u32 fe] w fun e w' => e = .returned (.int .i64 1) ∧ w' = w := by
  have A := hid0 (absent_nobook v w h)
  clear h
  go_enter Tryd.func27, Tryd.ntmps27
  go_wp2_with (go_at_call 45; refine A.out.mono ?_; rintro e w1 ⟨rfl, hw⟩; cases hw)
  go_ret
  exact ⟨rfl, rfl⟩
theorem len_nb (v : Value) (w : World) (h : NoBook w v) : Calls Tryd.prog 30 #[v] w fun e w' => e = .returned (.int .i64 0) ∧ w' = w := by
  have A := hid0 (absent_nobook v w h)
  clear h
  go_enter Tryd.func30, Tryd.ntmps30
  go_wp2_with (go_at_call 45; refine A.out.mono ?_; rintro e w1 ⟨rfl, hw⟩; cases hw)
  go_ret
  exact ⟨rfl, rfl⟩
theorem forget_nb (v : Value) (id : Int) (w : World) (h : NoBook w v) : Calls Tryd.prog 37 #[v, .int .u32 id] w fun e w' => e = .returned (.bool false) ∧ w' = w := by
  have A := hid0 (mover_nb v id w h)
  clear h
  go_enter Tryd.func37, Tryd.ntmps37
  go_wp2_with (go_at_call 46; refine A.out.mono ?_; rintro e w1 ⟨rfl, hw⟩; cases hw)
  go_ret
  exact ⟨rfl, rfl⟩
theorem drop_nb (v : Value) (id : Int) (w : World) (h : NoBook w v) : Calls Tryd.prog 38 #[v, .int .u32 id] w fun e w' => e = .returned (.bool false) ∧ Gr w w' := by
  have A := hid0 (place_nb v id w h)
  have g := hid0 ((Gr.refl w).alloc (.cells #[.int .i64 0] 3))
  clear h
  go_enter Tryd.func38, Tryd.ntmps38
  go_wp2_with (go_at_call 48; refine A.out.mono ?_; rintro e w1 ⟨rfl, hw⟩; cases hw)
  go_ret
  exact ⟨rfl, g.out⟩
theorem inside_nb (v : Value) (id : Int) (w : World) (h : NoBook w v) : Calls Tryd.prog 39 #[v, .int .u32 id] w fun e w' => e = .returned (.slice none 0 0) ∧ Gr w w' := by
  have A := hid0 (place_nb v id w h)
  have g := hid0 ((Gr.refl w).alloc (.cells #[.int .i64 0] 3))
  clear h
  go_enter Tryd.func39, Tryd.ntmps39
  go_wp2_with (go_at_call 48; refine A.out.mono ?_; rintro e w1 ⟨rfl, hw⟩; cases hw)
  go_ret
  exact ⟨rfl, g.out⟩
theorem lay_nb (v : Value) (id num tim x y : Int) (sp : Nat) (a : Option Addr) (n c : Nat) (w : World) (h : NoBook w v) : Calls Tryd.prog 36 #[v, oV id num tim x y sp (.slice a n c)] w fun e w' => e = .returned (.int .i64 1) ∧ Gr w w' := by
  have g0 := (Gr.refl w).alloc (.cells #[.int .u32 id, .int .u32 num, .int .u32 tim, .int .i32 x, .int .i32 y, .float .f64 sp, .slice a n c] 41)
  have A := hid0 (absent_nobook v _ (h.gr g0))
  have g := hid0 g0
  clear h g0
  go_enter Tryd.func36, Tryd.ntmps36
  go_wp2_with (go_at_call 45; refine A.out.mono ?_; rintro e w1 ⟨rfl, hw⟩; cases hw)
  go_ret
  exact ⟨rfl, g.out⟩
theorem run_store_fl {P : Program} {w : World} {a : Addr} {m : Mode} (x : Nat) : (store a (.float .f64 x) m).run P w = stored P w a (.float .f64 x) m := run_store P w a _ m rfl
attribute [local go_sem] run_store_fl
abbrev zO : Value := .agg #[.int .u32 0, .int .u32 0, .int .u32 0, .int .i32 0, .int .i32 0, .float .f64 0, .slice none 0 0]
abbrev zL : List Value := [.int .u32 0, .int .u32 0, .int .u32 0, .int .i32 0, .int .i32 0, .float .f64 0, .slice none 0 0]
set_option maxHeartbeats 2000000 in
theorem get_nb (v : Value) (id : Int) (w : World) (h : NoBook w v) : Calls Tryd.prog 34 #[v, .int .u32 id] w fun e w' => e = .returned (.tuple #[zO, .bool false]) ∧ Gr w w' := by
  have g0 := (Gr.refl w).alloc (.cells zL.toArray 41)
  have k := Bk.new w 41 zL
  have A := hid0 (mover_nb v id _ (h.gr g0))
  have g := hid0 g0
  have f0 := k.frozen 0
  have f1 := k.frozen 1
  have f2 := k.frozen 2
  have f3 := k.frozen 3
  have f4 := k.frozen 4
  have f5 := k.frozen 5
  have f6 := k.frozen 6
  have q0 := k.at 0
  have q1 := k.at 1
  have q2 := k.at 2
  have q3 := k.at 3
  have q4 := k.at 4
  have q5 := k.at 5
  have q6 := k.at 6
  simp only [List.getElem?_cons_zero, List.getElem?_cons_succ] at q0 q1 q2 q3 q4 q5 q6
  clear h g0 k
  go_enter Tryd.func34, Tryd.ntmps34
  go_upto_region 3 with (go_at_call 46; refine A.out.mono ?_; rintro e w1 ⟨rfl, hw⟩; cases hw)
  go_wp2
  exact bodyPost_ret (v := .tuple #[zO, .bool false]) (by simp [results, Tryd.results34, go_sem, q0, q1, q2, q3, q4, q5, q6]) rfl ⟨rfl, g.out⟩
theorem move_nb (v : Value) (id num tim x y : Int) (w : World) (h : NoBook w v) : Calls Tryd.prog 26 #[v, .int .u32 id, .int .u32 num, .int .u32 tim, pt x y] w fun e w' => e = .returned (.tuple #[pt 0 0, .bool false, .int .i64 1]) ∧ Gr w w' := by
  obtain ⟨g0, k1, k2⟩ := two_pts x y 0 0 w
  have A := hid0 (absent_nobook v _ (h.gr g0))
  have g := hid0 g0
  obtain ⟨z0, z1⟩ := k2.two
  have f0 := k2.frozen 0
  have f1 := k2.frozen 1
  clear h g0 k1 k2
  go_enter Tryd.func26, Tryd.ntmps26
  go_upto_region 2 with (go_at_call 45; refine A.out.mono ?_; rintro e w1 ⟨rfl, hw⟩; cases hw)
  go_wp2
  exact bodyPost_ret (v := .tuple #[pt 0 0, .bool false, .int .i64 1]) (by simp [results, Tryd.results26, go_sem, z0, z1]) rfl ⟨rfl, g.out⟩
end Go.Proofs.YtgdmbcfjjdngdaaDoor
