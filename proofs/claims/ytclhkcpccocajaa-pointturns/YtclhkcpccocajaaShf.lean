/- The contract of the law's shifted point. -/
import Derived.Test.YtclhkcpccocajaaPt3
namespace Go.Proofs.Ytclhkcpccocajaa
open Go.RowKit Go.Sort

set_option maxRecDepth 20000 in
set_option maxHeartbeats 1000000 in
theorem shifted_any (px py bx by_ : Int) (h1 : in32 px) (h2 : in32 py) (h3 : in32 bx) (h4 : in32 by_) (w : World) :
    Calls Try.prog 42 #[pt px py, pt bx by_] w fun e w' => e = .returned (.tuple #[pt (wrap32 (px + bx)) (wrap32 (py + by_)), .bool ((wrap32 (px + bx) == px + bx) && (wrap32 (py + by_) == py + by_))]) ∧ Gr w w' := by
  have e1 := w64_in h1
  have e2 := w64_in h2
  have e3 := w64_in h3
  have e4 := w64_in h4
  have e5 : wrap64 (px + bx) = px + bx := by unfold in32 at *; unfold wrap64; omega
  have e6 : wrap64 (py + by_) = py + by_ := by unfold in32 at *; unfold wrap64; omega
  have e7 : wrap64 (wrap32 (px + bx)) = wrap32 (px + bx) := by unfold wrap64 wrap32; omega
  have e8 : wrap64 (wrap32 (py + by_)) = wrap32 (py + by_) := by unfold wrap64 wrap32; omega
  clear h1 h2 h3 h4
  by_cases hb : wrap32 (px + bx) = px + bx
  · have hb' : (wrap32 (px + bx) == px + bx) = true := by simp [hb]
    rw [hb', Bool.true_and]
    clear hb
    go_enter Try.func42, Try.ntmps42
    go_wp2
    go_region
    go_wp2
    refine bodyPost_ret (v := .tuple #[pt (wrap32 (px + bx)) (wrap32 (py + by_)), .bool (wrap32 (py + by_) == py + by_)]) (by simp [results, Try.results42, go_sem]) rfl ⟨rfl, ?_⟩
    exact (((((Gr.refl _).alloc _).alloc _).alloc _).alloc _).drew
  · have hb' : (wrap32 (px + bx) == px + bx) = false := by simp [hb]
    rw [hb', Bool.false_and]
    clear hb
    go_enter Try.func42, Try.ntmps42
    go_wp2
    go_region
    go_wp2
    refine bodyPost_ret (v := .tuple #[pt (wrap32 (px + bx)) (wrap32 (py + by_)), .bool false]) (by simp [results, Try.results42, go_sem]) rfl ⟨rfl, ?_⟩
    exact (((((Gr.refl _).alloc _).alloc _).alloc _).alloc _).drew
end Go.Proofs.Ytclhkcpccocajaa
