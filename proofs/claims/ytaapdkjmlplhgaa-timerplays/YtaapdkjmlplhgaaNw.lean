/- New. -/
import Derived.Test.YtaapdkjmlplhgaaSy
set_option linter.unusedSimpArgs false
set_option linter.unusedVariables false
namespace Go.Proofs.Ytaapdkjmlplhgaa
open Go.RowKit Go.Sort Go.Shelf

theorem new_no (n : Int) (w : World) (h : n < 1 ∨ 4096 < n) : Calls Try.prog 7 #[.int .i64 n] w fun e w' => e = .returned (.tuple #[.pointer none, .int .i64 2]) ∧ w' = w := by
  rcases h with h | h
  · have d1 : decide (n < 1) = true := decide_eq_true h
    go_enter Try.func7, Try.ntmps7
    go_wp2
    go_ret2
    exact ⟨rfl, rfl⟩
  · have d1 : decide (n < 1) = false := decide_eq_false (by omega)
    have d2 : decide (n > 4096) = true := decide_eq_true h
    have h1 : ¬ n < 1 := by omega
    go_enter Try.func7, Try.ntmps7
    go_wp2
    go_ret2
    exact ⟨rfl, rfl⟩
/-- What New answers. -/
def NewR (n : Nat) (w : World) (e : Ending) (w' : World) : Prop := ∃ d h pb mb, e = .returned (.tuple #[.pointer (some ⟨d, 0, none⟩), .int .i64 0]) ∧ Ds w.heap.size w' d h pb mb (.slice none 0 0) [] (fun _ => none) n ∧ Gr w w'
set_option maxHeartbeats 1000000 in
theorem new_yes (n : Nat) (w : World) (h1 : 1 ≤ n) (h2 : n ≤ 4096) : Calls Try.prog 7 #[.int .i64 n] w (NewR n w) := by
  have d1 : ¬ (n : Int) < 1 := by omega
  have d2 : ¬ (n : Int) > 4096 := by omega
  have mk := @run_makeMap Try.prog
  have g1 := (Gr.refl w).alloc (.map #[] 0)
  have m1 := MapF.made w
  have g2 := (Gr.refl (w.alloc (.map #[] 0))).alloc (.cells #[.map (some w.heap.size)] 52)
  have k2 := Bk.new (w.alloc (.map #[] 0)) 52 [.map (some w.heap.size)]
  rw [World.size_alloc] at k2
  have g3 := (Gr.refl ((w.alloc (.map #[] 0)).alloc (.cells #[.map (some w.heap.size)] 52))).alloc (.cells #[.slice none 0 0, .func (.func 21) #[] #[], .func (.func 19) #[] #[.pointer (some ⟨w.heap.size + 1, 0, none⟩)]] 62)
  have k3 := Bk.new ((w.alloc (.map #[] 0)).alloc (.cells #[.map (some w.heap.size)] 52)) 62 [.slice none 0 0, .func (.func 21) #[] #[], .func (.func 19) #[] #[.pointer (some ⟨w.heap.size + 1, 0, none⟩)]]
  rw [World.size_alloc, World.size_alloc] at k3
  have g4 := (Gr.refl (((w.alloc (.map #[] 0)).alloc (.cells #[.map (some w.heap.size)] 52)).alloc (.cells #[.slice none 0 0, .func (.func 21) #[] #[], .func (.func 19) #[] #[.pointer (some ⟨w.heap.size + 1, 0, none⟩)]] 62))).alloc (.cells #[.int .i64 n, .pointer (some ⟨w.heap.size + 1 + 1, 0, none⟩), .map (some w.heap.size)] 54)
  have k4 := Bk.new (((w.alloc (.map #[] 0)).alloc (.cells #[.map (some w.heap.size)] 52)).alloc (.cells #[.slice none 0 0, .func (.func 21) #[] #[], .func (.func 19) #[] #[.pointer (some ⟨w.heap.size + 1, 0, none⟩)]] 62)) 54 [.int .i64 n, .pointer (some ⟨w.heap.size + 1 + 1, 0, none⟩), .map (some w.heap.size)]
  rw [World.size_alloc, World.size_alloc, World.size_alloc] at k4
  have F : Hid (∃ d h pb mb, d = w.heap.size + 1 + 1 + 1 ∧ Ds w.heap.size ((((w.alloc (.map #[] 0)).alloc (.cells #[.map (some w.heap.size)] 52)).alloc (.cells #[.slice none 0 0, .func (.func 21) #[] #[], .func (.func 19) #[] #[.pointer (some ⟨w.heap.size + 1, 0, none⟩)]] 62)).alloc (.cells #[.int .i64 n, .pointer (some ⟨w.heap.size + 1 + 1, 0, none⟩), .map (some w.heap.size)] 54)) d h pb mb (.slice none 0 0) [] (fun _ => none) n) :=
    ⟨_, _, _, _, rfl, k4, ⟨k3.gr g4, (k2.gr g3).gr g4, World.ownsRow_nil _ _ _ _, ((m1.same (g2.below.block _ m1.lt)).same (g3.below.block _ (Nat.lt_of_lt_of_le m1.lt g2.size))).same (g4.below.block _ (Nat.lt_of_lt_of_le m1.lt (g2.trans g3).size))⟩, PD.empty, ⟨by omega, by omega, by omega, by omega⟩, by simp, h2⟩
  have G := hid0 (((g1.trans g2).trans g3).trans g4)
  clear g1 m1 g2 k2 g3 k3 g4 k4
  go_enter Try.func7, Try.ntmps7
  go_wp2
  go_ret2
  obtain ⟨d, h, pb, mb, rfl, D⟩ := F.out
  exact ⟨_, h, pb, mb, rfl, D, G.out⟩
end Go.Proofs.Ytaapdkjmlplhgaa
