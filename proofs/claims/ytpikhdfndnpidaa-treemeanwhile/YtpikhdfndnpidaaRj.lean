/- The reference's Box. -/
import Derived.Test.YtpikhdfndnpidaaRb
set_option linter.unusedSimpArgs false
set_option linter.unusedVariables false
namespace Go.Proofs.Ytpikhdfndnpidaa
open Go.RowKit Go.Sort Go.Shelf
set_option maxHeartbeats 1000000 in
theorem rbox_no (base R : Nat) (l : List E) (k : Int) (w : World) (h : RefIs w base R l) (s : PT.Srt l) (hl : l.length ≤ 1000000) (hz : hasI k l = false) : Calls Try.prog 27 #[.pointer (some ⟨R, 0, none⟩), .int .u32 k] w fun e w' => e = .returned (.tuple #[bx 0 0 0 0, .bool false]) ∧ Gr w w' := by
  have g0 := (Gr.refl w).alloc (.cells #[.int .i32 0, .int .i32 0, .int .i32 0, .int .i32 0] 36)
  have k0 := Bk.new w 36 [.int .i32 0, .int .i32 0, .int .i32 0, .int .i32 0]
  have PL := hid0 (place_any base R l k _ (h.gr g0) s hl)
  rw [hz] at PL
  clear h s hl hz
  generalize posL k l = P at *
  go_enter Try.func27, Try.ntmps27
  go_upto_region 1 with fail
  generalize w.alloc (.cells #[.int .i32 0, .int .i32 0, .int .i32 0, .int .i32 0] 36) = W at *
  obtain ⟨B, hB⟩ : ∃ B, B = w.heap.size := ⟨_, rfl⟩
  rw [← hB] at k0 ⊢
  have HB := hid0 hB
  clear hB
  go_wp2_with fail
  refine PL.out.mono ?_
  rintro e V ⟨rfl, gA⟩
  have gV : Gr w V := g0.trans gA
  have kV := k0.gr gA
  have gF := (((gV.setCell (p := ⟨B, 0, none⟩) (by show _ ≤ B; have := HB.out; omega) (.int .i32 0)).setCell (p := ⟨B, 1, none⟩) (by show _ ≤ B; have := HB.out; omega) (.int .i32 0)).setCell (p := ⟨B, 2, none⟩) (by show _ ≤ B; have := HB.out; omega) (.int .i32 0)).setCell (p := ⟨B, 3, none⟩) (by show _ ≤ B; have := HB.out; omega) (.int .i32 0)
  have kF := (((kV.set 0 (.int .i32 0)).set 1 (.int .i32 0)).set 2 (.int .i32 0)).set 3 (.int .i32 0)
  simp only [List.set_cons_zero, List.set_cons_succ] at kF
  obtain ⟨y0, y1, y2, y3⟩ := kV.four
  have f0 := kV.frozen 0
  have f1 := kV.frozen 1
  have f2 := kV.frozen 2
  have f3 := kV.frozen 3
  clear PL
  go_wp2
  obtain ⟨c0, c1, c2, c3⟩ := kF.four
  refine bodyPost_ret (v := .tuple #[bx 0 0 0 0, .bool false]) (by simp [results, Try.results27, go_sem, c0, c1, c2, c3]) rfl ⟨rfl, gF⟩
set_option maxHeartbeats 1000000 in
theorem rbox_yes (base R : Nat) (l : List E) (k : Int) (q : Q4) (w : World) (h : RefIs w base R l) (s : PT.Srt l) (hl : l.length ≤ 1000000) (hz : hasI k l = true) (hq : l[posL k l]? = some (k, q)) : Calls Try.prog 27 #[.pointer (some ⟨R, 0, none⟩), .int .u32 k] w fun e w' => e = .returned (.tuple #[bv q, .bool true]) ∧ Gr w w' := by
  have g0 := (Gr.refl w).alloc (.cells #[.int .i32 0, .int .i32 0, .int .i32 0, .int .i32 0] 36)
  have k0 := Bk.new w 36 [.int .i32 0, .int .i32 0, .int .i32 0, .int .i32 0]
  have H0 := h.gr g0
  have PL := hid0 (place_any base R l k _ H0 s hl)
  rw [hz] at PL
  have HP := hid0 (List.getElem?_eq_some_iff.1 hq).1
  obtain ⟨ao, cap, c1, hc⟩ := H0.box
  obtain ⟨g, rfl, x0, x1, x2, x3⟩ := hc _ _ hq
  dsimp only at x0 x1 x2 x3
  clear h s hz hq hc H0
  generalize posL k l = P at *
  obtain ⟨N, hN⟩ : ∃ N, N = l.length := ⟨_, rfl⟩
  rw [← hN] at c1 HP hl
  clear hN
  have hPN : (P : Int) < (N : Int) := by have := HP.out; omega
  have hPN' : P < N := HP.out
  obtain ⟨q0, q1, q2, q3⟩ := q
  dsimp only at x0 x1 x2 x3
  show Calls Try.prog 27 #[.pointer (some ⟨R, 0, none⟩), .int .u32 k] w fun e w' => e = .returned (.tuple #[bx q0 q1 q2 q3, .bool true]) ∧ Gr w w'
  go_enter Try.func27, Try.ntmps27
  go_upto_region 1 with fail
  generalize w.alloc (.cells #[.int .i32 0, .int .i32 0, .int .i32 0, .int .i32 0] 36) = W at *
  obtain ⟨B, hB⟩ : ∃ B, B = w.heap.size := ⟨_, rfl⟩
  rw [← hB] at k0 ⊢
  have HB := hid0 hB
  clear hB
  go_wp2_with fail
  refine PL.out.mono ?_
  rintro e V ⟨rfl, gA⟩
  have gV : Gr w V := g0.trans gA
  have kV := k0.gr gA
  have c1' := below_cell c1 gA.below
  have z0 := below_cell x0 gA.below
  have z1 := below_cell x1 gA.below
  have z2 := below_cell x2 gA.below
  have z3 := below_cell x3 gA.below
  have gF := (((gV.setCell (p := ⟨B, 0, none⟩) (by show _ ≤ B; have := HB.out; omega) (.int .i32 q0)).setCell (p := ⟨B, 1, none⟩) (by show _ ≤ B; have := HB.out; omega) (.int .i32 q1)).setCell (p := ⟨B, 2, none⟩) (by show _ ≤ B; have := HB.out; omega) (.int .i32 q2)).setCell (p := ⟨B, 3, none⟩) (by show _ ≤ B; have := HB.out; omega) (.int .i32 q3)
  have kF := (((kV.set 0 (.int .i32 q0)).set 1 (.int .i32 q1)).set 2 (.int .i32 q2)).set 3 (.int .i32 q3)
  simp only [List.set_cons_zero, List.set_cons_succ] at kF
  obtain ⟨y0, y1, y2, y3⟩ := kV.four
  have f0 := kV.frozen 0
  have f1 := kV.frozen 1
  have f2 := kV.frozen 2
  have f3 := kV.frozen 3
  clear PL c1 x0 x1 x2 x3
  go_wp2
  obtain ⟨c0, c1, c2, c3⟩ := kF.four
  refine bodyPost_ret (v := .tuple #[bx q0 q1 q2 q3, .bool true]) (by simp [results, Try.results27, go_sem, c0, c1, c2, c3]) rfl ⟨rfl, gF⟩
end Go.Proofs.Ytpikhdfndnpidaa
