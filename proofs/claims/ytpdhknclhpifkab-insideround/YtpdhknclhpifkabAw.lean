/- The law's awake, turned, moved. -/
import Derived.Test.YtpdhknclhpifkabRdP
import Derived.Laws.AppendOwnNone
namespace Go.Proofs.Ytpdhknclhpifkab
open Go.RowKit Go.Shelf Go.Sort

theorem Try.info25 : (Try.prog.info? 25).map (fun i => (i.zero, i.size, i.bytes)) = some (some (.agg #[.int .i32 0, .int .i32 0]), 2, 8) := by kernel_rfl
def sqL : List (Int × Int) := [(0, 0), (4, 0), (4, 4), (0, 4)]
theorem sq32 : All32 sqL := fun q hq => by
  simp only [sqL, List.mem_cons, List.not_mem_nil, or_false] at hq
  rcases hq with rfl | rfl | rfl | rfl <;> (unfold P32 in32; omega)
theorem p32 (x y : Int) (h : in32 x) (k : in32 y) : P32 (x, y) := ⟨h, k⟩
theorem sq_of {W : World} {b : Nat} (hb : W.heap[b]? = some (.cells #[.int .i32 0, .int .i32 0, .int .i32 4, .int .i32 0, .int .i32 4, .int .i32 4, .int .i32 0, .int .i32 4] 25 (0, 0))) : Pts W (some ⟨b, 0, none⟩) sqL := fun i hi => by
  refine ⟨b, 0, rfl, ?_, ?_⟩
  all_goals
    have : i = 0 ∨ i = 1 ∨ i = 2 ∨ i = 3 := by simp [sqL] at hi; omega
    rcases this with rfl | rfl | rfl | rfl <;> simp [World.cell?, hb, sqL]
theorem sq_pts (w : World) : Pts (w.alloc (.cells #[.int .i32 0, .int .i32 0, .int .i32 4, .int .i32 0, .int .i32 4, .int .i32 4, .int .i32 0, .int .i32 4] 25)) (some ⟨w.heap.size, 0, none⟩) sqL := sq_of (World.alloc_heap_new w _)

theorem sq_c1 : coversL sqL (2, 2) = true := by decide +kernel
theorem sq_c2 : coversL sqL (5, 2) = false := by decide +kernel
theorem sq_e1 : edgeL sqL (4, 2) = true := by decide +kernel
theorem sq_e2 : edgeL sqL (2, 2) = false := by decide +kernel
theorem sq_w : sumZ (pastI (2, 2)) sqL sqL.length = 1 := by decide +kernel
theorem sq_x : sumZ (crossI (2, 2)) sqL sqL.length = 1 := by decide +kernel

set_option maxRecDepth 100000 in
set_option maxHeartbeats 4000000 in
theorem awake_any (w : World) : Calls Try.prog 7 #[] w fun e w' => e = .returned (.bool true) ∧ Below w.heap.size w w' := by
  have P0 : Pts ((w.alloc (.cells #[.int .i32 0, .int .i32 0, .int .i32 4, .int .i32 0, .int .i32 4, .int .i32 4, .int .i32 0, .int .i32 4] 25)).alloc (.cells #[.int .i32 2, .int .i32 2] 25)) (some ⟨w.heap.size, 0, none⟩) sqL := (sq_pts w).mono ((Gr.refl _).alloc _).below
  have K0 : PtB ((w.alloc (.cells #[.int .i32 0, .int .i32 0, .int .i32 4, .int .i32 0, .int .i32 4, .int .i32 4, .int .i32 0, .int .i32 4] 25)).alloc (.cells #[.int .i32 2, .int .i32 2] 25)) (w.heap.size + 1) (2, 2) := by
    have := PtB.new (w.alloc (.cells #[.int .i32 0, .int .i32 0, .int .i32 4, .int .i32 0, .int .i32 4, .int .i32 4, .int .i32 0, .int .i32 4] 25)) (2, 2)
    rwa [World.size_alloc] at this
  have G0 : Gr w ((w.alloc (.cells #[.int .i32 0, .int .i32 0, .int .i32 4, .int .i32 0, .int .i32 4, .int .i32 4, .int .i32 0, .int .i32 4] 25)).alloc (.cells #[.int .i32 2, .int .i32 2] 25)) := ((Gr.refl _).alloc _).alloc _
  go_enter Try.func7, Try.ntmps7
  go_upto_region 3 with fail
  generalize (w.alloc (.cells #[.int .i32 0, .int .i32 0, .int .i32 4, .int .i32 0, .int .i32 4, .int .i32 4, .int .i32 0, .int .i32 4] 25)).alloc (.cells #[.int .i32 2, .int .i32 2] 25) = w1 at *
  have CV : Hid (∀ W px py B, Below w1.heap.size w1 W → in32 px → in32 py → coversL sqL (px, py) = B → Calls Try.prog 9 #[.slice (some ⟨w.heap.size, 0, none⟩) 4 4, pt px py] W fun e w' => e = .returned (.bool B) ∧ Below W.heap.size W w') := fun W px py B hW h1 h2 hB => by rw [← hB]; exact covers_any _ 4 sqL sq32 (by decide) (px, py) ⟨h1, h2⟩ W (P0.mono hW)
  have EV : Hid (∀ W px py B, Below w1.heap.size w1 W → in32 px → in32 py → edgeL sqL (px, py) = B → Calls Try.prog 8 #[.slice (some ⟨w.heap.size, 0, none⟩) 4 4, pt px py] W fun e w' => e = .returned (.bool B) ∧ Below W.heap.size W w') := fun W px py B hW h1 h2 hB => by rw [← hB]; exact edge_any _ 4 sqL sq32 (by decide) (px, py) ⟨h1, h2⟩ W (P0.mono hW)
  have WV : Hid (∀ W, Below w1.heap.size w1 W → Calls Try.prog 10 #[.slice (some ⟨w.heap.size, 0, none⟩) 4 4, pt 2 2] W fun e w' => e = .returned (.int .i64 1) ∧ Below W.heap.size W w') := fun W hW => by rw [← sq_w]; exact winding_any _ 4 sqL sq32 (by decide) (2, 2) ⟨by unfold in32; omega, by unfold in32; omega⟩ W (P0.mono hW)
  have XV : Hid (∀ W, Below w1.heap.size w1 W → Calls Try.prog 13 #[.slice (some ⟨w.heap.size, 0, none⟩) 4 4, pt 2 2] W fun e w' => e = .returned (.int .i64 1) ∧ Below W.heap.size W w') := fun W hW => by rw [← sq_x]; exact crossings_any _ 4 sqL sq32 (by decide) (2, 2) ⟨by unfold in32; omega, by unfold in32; omega⟩ W (P0.mono hW)
  have KB : Hid (∀ W, Below w1.heap.size w1 W → PtB W (w.heap.size + 1) (2, 2)) := fun W hW => K0.mono hW K0.lt
  have c0 := K0.c0
  have c1 := K0.c1
  have hB := Below.refl w1.heap.size w1
  clear P0 K0
  go_wp2_with (first | (go_at_call 9; refine (CV.out _ _ _ _ hB (by unfold in32; omega) (by unfold in32; omega) (by first | exact sq_c1 | exact sq_c2)).mono ?_; rintro e w2 ⟨rfl, g2⟩; replace hB := hB.trans (g2.mono hB.size); clear g2; have c0 := (KB.out _ hB).c0; have c1 := (KB.out _ hB).c1) | (go_at_call 8; refine (EV.out _ _ _ _ hB (by unfold in32; omega) (by unfold in32; omega) (by first | exact sq_e1 | exact sq_e2)).mono ?_; rintro e w2 ⟨rfl, g2⟩; replace hB := hB.trans (g2.mono hB.size); clear g2; have c0 := (KB.out _ hB).c0; have c1 := (KB.out _ hB).c1) | (go_at_call 10; refine (WV.out _ hB).mono ?_; rintro e w2 ⟨rfl, g2⟩; replace hB := hB.trans (g2.mono hB.size); clear g2; have c0 := (KB.out _ hB).c0; have c1 := (KB.out _ hB).c1) | (go_at_call 13; refine (XV.out _ hB).mono ?_; rintro e w2 ⟨rfl, g2⟩; replace hB := hB.trans (g2.mono hB.size); clear g2))
  go_ret
  exact ⟨rfl, G0.below.trans (hB.mono G0.size)⟩
end Go.Proofs.Ytpdhknclhpifkab
