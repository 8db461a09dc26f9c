/- Takes of a nil In. -/
import Derived.Test.YtomklacjaadcaaaDoorStep
namespace Go.Proofs.YtomklacjaadcaaaDoor
open Go.RowKit Go.Sort

theorem nil_R (w : World) : ∀ a b, Below w.heap.size w a → Row a (w.heap.size + 1) 54 [.int .u64 0, .string ⟨#[]⟩] → a.grownBy b (some (w.heap.size + 1)) → Below w.heap.size w b :=
  fun _ _ h _ k => h.grown k h.size (fun i hi => by cases hi; omega)
theorem wrap_zero : IntKind.u64.wrap 0 = 0 := by rw [IntKind.wrap_u64]; rfl
theorem nil1 (most : Int) (w : World) (h0 : 0 < w.heap.size) : Calls Tryd.prog 18 #[.pointer none, .agg #[.int .i64 1, .int .i64 most]] w fun e w' => e = .returned (gotV 0 []) ∧ Below w.heap.size w w' := by
  have := takes1 (.pointer none) most 0 w 0 h0 (Below w.heap.size w) (nil_R w) (fun w1 b => (take51_nil w1).mono fun _ _ ⟨h1, h2⟩ => ⟨h1, h2 ▸ b, h2 ▸ World.grownBy.refl _ _⟩)
  simp only [wrap_zero] at this
  exact this.mono fun _ _ ⟨h1, h2, _⟩ => ⟨h1, h2⟩
theorem nil2 (most : Int) (w : World) (h0 : 0 < w.heap.size) : Calls Tryd.prog 18 #[.pointer none, .agg #[.int .i64 2, .int .i64 most]] w fun e w' => e = .returned (gotV 0 []) ∧ Below w.heap.size w w' := by
  have := takes2 (.pointer none) most 0 w 0 h0 (Below w.heap.size w) (nil_R w) (fun w1 b => (take52_nil w1).mono fun _ _ ⟨h1, h2⟩ => ⟨h1, h2 ▸ b, h2 ▸ World.grownBy.refl _ _⟩)
  simp only [wrap_zero] at this
  exact this.mono fun _ _ ⟨h1, h2, _⟩ => ⟨h1, h2⟩
theorem nil3 (most : Int) (w : World) (h0 : 0 < w.heap.size) : Calls Tryd.prog 18 #[.pointer none, .agg #[.int .i64 3, .int .i64 most]] w fun e w' => e = .returned (gotV 0 []) ∧ Below w.heap.size w w' := by
  have := takes3 (.pointer none) most 0 w 0 h0 (Below w.heap.size w) (nil_R w) (fun w1 b => (take53_nil w1).mono fun _ _ ⟨h1, h2⟩ => ⟨h1, h2 ▸ b, h2 ▸ World.grownBy.refl _ _⟩)
  simp only [wrap_zero] at this
  exact this.mono fun _ _ ⟨h1, h2, _⟩ => ⟨h1, h2⟩
theorem nil4 (most : Int) (w : World) (h0 : 0 < w.heap.size) : Calls Tryd.prog 18 #[.pointer none, .agg #[.int .i64 4, .int .i64 most]] w fun e w' => e = .returned (gotV 0 []) ∧ Below w.heap.size w w' := by
  have := takes4 (.pointer none) most 0 w 0 h0 (Below w.heap.size w) (nil_R w) (fun w1 b => (take33_nil w1).mono fun _ _ ⟨h1, h2⟩ => ⟨h1, h2 ▸ b, h2 ▸ World.grownBy.refl _ _⟩)
  simp only [wrap_zero] at this
  exact this.mono fun _ _ ⟨h1, h2, _⟩ => ⟨h1, h2⟩
theorem nil5 (most : Int) (w : World) (h0 : 0 < w.heap.size) : Calls Tryd.prog 18 #[.pointer none, .agg #[.int .i64 5, .int .i64 most]] w fun e w' => e = .returned (gotV 0 []) ∧ Below w.heap.size w w' := by
  have := takes5 (.pointer none) most 0 w 0 h0 (Below w.heap.size w) (nil_R w) (fun w1 b => (take54_nil w1).mono fun _ _ ⟨h1, h2⟩ => ⟨h1, h2 ▸ b, h2 ▸ World.grownBy.refl _ _⟩)
  simp only [wrap_zero] at this
  exact this.mono fun _ _ ⟨h1, h2, _⟩ => ⟨h1, h2⟩
theorem nil6 (most : Int) (w : World) (h0 : 0 < w.heap.size) : Calls Tryd.prog 18 #[.pointer none, .agg #[.int .i64 6, .int .i64 most]] w fun e w' => e = .returned (gotV 0 []) ∧ Below w.heap.size w w' := by
  have := takes6 (.pointer none) most 0 w 0 h0 (Below w.heap.size w) (nil_R w) (fun w1 b => (take55_nil w1).mono fun _ _ ⟨h1, h2⟩ => ⟨h1, h2 ▸ b, h2 ▸ World.grownBy.refl _ _⟩)
  simp only [wrap_zero] at this
  exact this.mono fun _ _ ⟨h1, h2, _⟩ => ⟨h1, h2⟩
theorem nil7 (most : Int) (w : World) (h0 : 0 < w.heap.size) : Calls Tryd.prog 18 #[.pointer none, .agg #[.int .i64 7, .int .i64 most]] w fun e w' => e = .returned (gotV 0 []) ∧ Below w.heap.size w w' := by
  have := takes7 (.pointer none) most 0 w 0 h0 (Below w.heap.size w) (nil_R w) (fun w1 b => (take56_nil w1).mono fun _ _ ⟨h1, h2⟩ => ⟨h1, h2 ▸ b, h2 ▸ World.grownBy.refl _ _⟩)
  simp only [wrap_zero] at this
  exact this.mono fun _ _ ⟨h1, h2, _⟩ => ⟨h1, h2⟩
theorem nil8 (most : Int) (w : World) (h0 : 0 < w.heap.size) : Calls Tryd.prog 18 #[.pointer none, .agg #[.int .i64 8, .int .i64 most]] w fun e w' => e = .returned (gotV 0 []) ∧ Below w.heap.size w w' := by
  have := takes8 (.pointer none) most 0 w 0 h0 (Below w.heap.size w) (nil_R w) (fun w1 b => (take57_nil w1).mono fun _ _ ⟨h1, h2⟩ => ⟨h1, h2 ▸ b, h2 ▸ World.grownBy.refl _ _⟩)
  exact this.mono fun _ _ ⟨h1, h2, _⟩ => ⟨h1, h2⟩
theorem nil9 (most : Int) (w : World) (h0 : 0 < w.heap.size) : Calls Tryd.prog 18 #[.pointer none, .agg #[.int .i64 9, .int .i64 most]] w fun e w' => e = .returned (gotV 0 []) ∧ Below w.heap.size w w' := by
  have := takes9_num (.pointer none) most 0 (self_num (by decide) (by decide)) w 0 h0 (Below w.heap.size w) (nil_R w) (fun w1 b => (float_nil w1).mono fun _ _ ⟨h1, h2⟩ => ⟨h1, h2 ▸ b, h2 ▸ World.grownBy.refl _ _⟩)
  exact this.mono fun _ _ ⟨h1, h2, _⟩ => ⟨h1, h2⟩
theorem nil10 (most : Int) (w : World) (h0 : 0 < w.heap.size) : Calls Tryd.prog 18 #[.pointer none, .agg #[.int .i64 10, .int .i64 most]] w fun e w' => e = .returned (gotV 0 []) ∧ Below w.heap.size w w' := by
  have := takes10 (.pointer none) most [] w 0 h0 (Below w.heap.size w) (nil_R w) (fun w1 b => (text_nil most w1).mono fun _ _ ⟨h1, h2⟩ => ⟨h1, h2 ▸ b, h2 ▸ World.grownBy.refl _ _⟩)
  exact this.mono fun _ _ ⟨h1, h2, _⟩ => ⟨h1, h2⟩
theorem nil11 (most : Int) (w : World) (h0 : 0 < w.heap.size) : Calls Tryd.prog 18 #[.pointer none, .agg #[.int .i64 11, .int .i64 most]] w fun e w' => e = .returned (gotV 0 []) ∧ Below w.heap.size w w' := by
  have := takes11 (.pointer none) most 0 w 0 h0 (Below w.heap.size w) (nil_R w) (fun w1 b => (count_nil most w1).mono fun _ _ ⟨h1, h2⟩ => ⟨h1, h2 ▸ b, h2 ▸ World.grownBy.refl _ _⟩)
  simp only [wrap_zero] at this
  exact this.mono fun _ _ ⟨h1, h2, _⟩ => ⟨h1, h2⟩
theorem nil12 (most : Int) (w : World) (h0 : 0 < w.heap.size) : Calls Tryd.prog 18 #[.pointer none, .agg #[.int .i64 12, .int .i64 most]] w fun e w' => e = .returned (gotV 0 []) ∧ Below w.heap.size w w' := by
  have := takes12 (.pointer none) most 0 w 0 h0 (Below w.heap.size w) (nil_R w) (fun w1 b => (take62_nil w1).mono fun _ _ ⟨h1, h2⟩ => ⟨h1, h2 ▸ b, h2 ▸ World.grownBy.refl _ _⟩)
  simp only [wrap_zero] at this
  exact this.mono fun _ _ ⟨h1, h2, _⟩ => ⟨h1, h2⟩
/-- Whatever is taken of a nil In: nothing. -/
theorem nil_takes (k most : Int) (w : World) (h0 : 0 < w.heap.size) : Calls Tryd.prog 18 #[.pointer none, .agg #[.int .i64 k, .int .i64 most]] w fun e w' => e = .returned (gotV 0 []) ∧ Below w.heap.size w w' := by
  by_cases hk : k < 1 ∨ 12 < k
  · exact takes_other _ k most hk w
  · rcases (show k = 1 ∨ k = 2 ∨ k = 3 ∨ k = 4 ∨ k = 5 ∨ k = 6 ∨ k = 7 ∨ k = 8 ∨ k = 9 ∨ k = 10 ∨ k = 11 ∨ k = 12 from by omega) with rfl | rfl | rfl | rfl | rfl | rfl | rfl | rfl | rfl | rfl | rfl | rfl
    · exact nil1 most w h0
    · exact nil2 most w h0
    · exact nil3 most w h0
    · exact nil4 most w h0
    · exact nil5 most w h0
    · exact nil6 most w h0
    · exact nil7 most w h0
    · exact nil8 most w h0
    · exact nil9 most w h0
    · exact nil10 most w h0
    · exact nil11 most w h0
    · exact nil12 most w h0
end Go.Proofs.YtomklacjaadcaaaDoor
