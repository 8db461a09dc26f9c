/- The law's lives. -/
import Derived.Test.YtmoddfikhipagaaSm
import Derived.Test.YtmoddfikhipagaaCr
set_option linter.unusedSimpArgs false
set_option linter.unusedVariables false
namespace Go.Proofs.Ytmoddfikhipagaa
open Go.RowKit Go.Sort

theorem line_small : lineL (0, 0) (4, 4) 2 = [(0, 0), (1, 1), (2, 2)] := by kernel_rfl
theorem code_zero : inA 32 (0 + 2147483648 : Int).toNat (0 + 2147483648 : Int).toNat = 13835058055282163712 := by kernel_rfl
theorem code_small : (inA 32 (1 + 2147483648 : Int).toNat (0 + 2147483648 : Int).toNat) = (inA 32 (0 + 2147483648 : Int).toNat (0 + 2147483648 : Int).toNat) + 1 := by kernel_rfl
set_option maxHeartbeats 1000000 in
theorem at_any (x y : Int) (w : World) : Calls Try.prog 27 #[.int .i32 x, .int .i32 y] w fun e w' => e = .returned (pt x y) ∧ Gr w w' := by
  have k0 := Bk.new w 23 [.int .i32 x, .int .i32 y]
  have g0 : Gr w (w.alloc (.cells #[.int .i32 x, .int .i32 y] 23)) := (Gr.refl _).alloc _
  go_enter Try.func27, Try.ntmps27
  go_wp2
  generalize w.alloc (.cells #[.int .i32 x, .int .i32 y] 23) = W at *
  obtain ⟨a0, a1⟩ := k0.two
  exact bodyPost_ret (v := pt x y) (by simp [results, Try.results27, go_sem, a0, a1]) rfl ⟨rfl, g0⟩
set_option maxRecDepth 20000 in
set_option maxHeartbeats 4000000 in
theorem lives_any (w : World) : Calls Try.prog 17 #[] w fun e w' => e = .returned (.bool true) ∧ Below w.heap.size w w' := by
  have A1 := hid0 (at_any 0 0)
  have A2 := hid0 (at_any 4 4)
  have L1 := hid0 (line_any (0, 0) (4, 4) 2)
  have F1 := hid0 (firstLine (0, 0) (4, 4) 2)
  rw [line_small] at F1
  have C1 := hid0 (code_any 1 0 (by unfold in32; omega) (by unfold in32; omega))
  have C2 := hid0 (code_any 0 0 (by unfold in32; omega) (by unfold in32; omega))
  rw [code_small] at C1
  generalize hZ : inA 32 (0 + 2147483648 : Int).toNat (0 + 2147483648 : Int).toNat = z at *
  have hz : z < 18446744073709551615 := by rw [← hZ, code_zero]; omega
  clear hZ
  go_enter Try.func17, Try.ntmps17
  go_upto_region 2 with (first
    | (go_at_call 27; refine (A1.out _).mono ?_; rintro e w1 ⟨rfl, g1⟩; clear A1)
    | (go_at_call 27; refine (A2.out _).mono ?_; rintro e w2 ⟨rfl, g2⟩; clear A2)
    | (go_at_call 18; refine (L1.out _).mono ?_; rintro e w3 ⟨rfl, c1, c2, c3, g3⟩; clear L1)
    | (go_at_call 16; refine (F1.out _ _ _ _ c3 c1 c2).mono ?_; rintro e w4 ⟨v, rfl, hv, hb⟩; clear F1))
  obtain ⟨ao, cap, rfl, hP, hlen⟩ := Pts.of_own hv
  have hb0 : Below w.heap.size w w4 := ((g1.trans g2).trans g3).below.trans (hb.mono ((g1.trans g2).trans g3).size)
  have eL : List.take 401 [((0 : Int), (0 : Int)), (1, 1), (2, 2)] = [(0, 0), (1, 1), (2, 2)] := rfl
  rw [eL] at hP hlen ⊢
  clear hv hlen
  have hc1 : IntKind.u64.wrap ((z : Int) + 1) = ((z + 1 : Nat) : Int) := by rw [IntKind.wrap_u64]; omega
  have k5 := Bk.new w4 26 [.int .i32 0, .int .i32 0, .int .i32 1, .int .i32 1, .int .i32 2, .int .i32 2]
  have g5 : Gr w4 (w4.alloc (.cells #[.int .i32 0, .int .i32 0, .int .i32 1, .int .i32 1, .int .i32 2, .int .i32 2] 26)) := (Gr.refl _).alloc _
  have hP5 : Pts (w4.alloc (.cells #[.int .i32 0, .int .i32 0, .int .i32 1, .int .i32 1, .int .i32 2, .int .i32 2] 26)) (some ⟨w4.heap.size, 0, none⟩) [(0, 0), (1, 1), (2, 2)] := fun i hi => by
    simp only [List.length_cons, List.length_nil] at hi
    have : i = 0 ∨ i = 1 ∨ i = 2 := by omega
    rcases this with rfl | rfl | rfl
    · exact ⟨_, _, rfl, k5.at 0, k5.at 1⟩
    · exact ⟨_, _, rfl, k5.at 2, k5.at 3⟩
    · exact ⟨_, _, rfl, k5.at 4, k5.at 5⟩
  have S15 := hid0 (same_any ao (some ⟨w4.heap.size, 0, none⟩) cap 3 [(0, 0), (1, 1), (2, 2)] [(0, 0), (1, 1), (2, 2)] _ (by simp) (hP.mono g5.below) hP5)
  rw [show decide ([((0 : Int), (0 : Int)), (1, 1), (2, 2)] = [(0, 0), (1, 1), (2, 2)]) = true from rfl] at S15
  clear hP hP5 k5
  go_wp2_with (first
    | (go_at_call 15; refine S15.out.mono ?_; rintro e w6 ⟨rfl, g6⟩; clear S15)
    | (go_at_call 20; refine (C1.out _).mono ?_; rintro e w7 ⟨rfl, g7⟩; clear C1)
    | (go_at_call 20; refine (C2.out _).mono ?_; rintro e w8 ⟨rfl, g8⟩; clear C2))
  have gE : Gr w4 w8 := ((g5.trans g6).trans g7).trans g8
  have hF := hb0.trans (gE.below.mono hb0.size)
  go_ret
  exact ⟨rfl, hF⟩
end Go.Proofs.Ytmoddfikhipagaa
