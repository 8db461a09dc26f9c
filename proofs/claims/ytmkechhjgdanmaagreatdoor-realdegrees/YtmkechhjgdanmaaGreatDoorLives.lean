/- What every law calls at its end: a number is rounded, read and written. -/
import Derived.Test.YtmkechhjgdanmaaGreatDoorLv1
import Derived.Test.YtmkechhjgdanmaaGreatDoorLv5
import Derived.Test.YtmkechhjgdanmaaGreatDoorCut
namespace Go.Proofs.YtmkechhjgdanmaaGreatDoor
open Go.RowKit Go.Sort

theorem cut15 (w : World) : Calls Tryz.prog 57 #[.string ⟨#[45, 49, 46, 53]⟩] w fun e w' => e = .returned (.tuple #[.agg #[.bool true, .string ⟨#[49]⟩, .string ⟨#[53]⟩], .string ⟨#[]⟩, .bool true]) ∧ Below w.heap.size w w' := by
  have h := cut_any [45, 49, 46, 53] (by decide) w
  rw [show cutV (minus [45, 49, 46, 53]) (cutP [45, 49, 46, 53]) = .tuple #[.agg #[.bool true, .string ⟨#[49]⟩, .string ⟨#[53]⟩], .string ⟨#[]⟩, .bool true] from rfl] at h
  exact h
set_option maxRecDepth 20000 in
set_option maxHeartbeats 1600000 in
theorem lv52 (w : World) : Calls Tryz.prog 52 #[.string ⟨#[45, 49, 46, 53]⟩] w fun e w' => e = .returned (.bool true) ∧ Below w.heap.size w w' := by
  go_enter Tryz.func52, Tryz.ntmps52
  go_wp2_with (go_at_call 57; refine (cut15 _).mono ?_; rintro e w1 ⟨rfl, l1⟩)
  go_ret
  exact ⟨rfl, l1.trans ((((Gr.refl w1).alloc _).below).mono l1.size)⟩
theorem LvP.mono {w w' : World} (h : LvP w) (g : Below w.heap.size w w') : LvP w' := by
  obtain ⟨h3, h6, b, o, c, sp, h10, h1⟩ := h
  exact ⟨below_cell h3 g, below_cell h6 g, b, o, c, sp, below_cell h10 g, below_cell h1 g⟩
set_option maxRecDepth 20000 in
set_option maxHeartbeats 1600000 in
theorem lv33 (w : World) (h : LvP w) : Calls Tryz.prog 33 #[.string ⟨#[45, 49, 46, 53]⟩] w fun e w' => e = .returned (.tuple #[.float .f64 13832806255468478464, .int .i64 0]) ∧ Below w.heap.size w w' := by
  have H := hid' h
  clear h
  go_enter Tryz.func33, Tryz.ntmps33
  go_wp2_with (first
    | (go_at_call 52; refine (lv52 _).mono ?_; rintro e w1 ⟨rfl, l1⟩)
    | (go_at_call 53; refine (lv53 _ (H.out.mono l1)).mono ?_; rintro e w2 ⟨rfl, rfl⟩))
  go_ret2
  exact ⟨rfl, l1⟩
theorem lv10 (w : World) : Calls Tryz.prog 10 #[.float .f64 4612811918334230528] w fun e w' => e = .returned (.tuple #[.int .i32 2, .int .i64 0]) ∧ w' = w :=
  calls_run 200 Tryz.func10 (fun cs => by kernel_rfl) (fun cs => by kernel_rfl)
theorem lv23 (w : World) : Calls Tryz.prog 23 #[.float .f64 4607182418800017408, .float .f64 4611686018427387904] w fun e w' => e = .returned (.int .i64 (-1)) ∧ w' = w :=
  calls_run 200 Tryz.func23 (fun cs => by kernel_rfl) (fun cs => by kernel_rfl)
set_option maxRecDepth 20000 in
set_option maxHeartbeats 1600000 in
theorem lives_any (w : World) (h : LvP w) (hF : LvF w) : Calls Tryz.prog 22 #[] w fun e w' => e = .returned (.bool true) ∧ Below w.heap.size w w' := by
  have H := hid' h
  have HF := hid' hF
  have o : FloatKind.f64.format.order 13832806255468478464 13832806255468478464 = some .eq := by decide
  clear h hF
  go_enter Tryz.func22, Tryz.ntmps22
  go_wp2_with (first
    | (go_at_call 10; refine (lv10 _).mono ?_; rintro e w' ⟨rfl, rfl⟩)
    | (go_at_call 33; refine (lv33 _ H.out).mono ?_; rintro e w1 ⟨rfl, l1⟩)
    | (go_at_call 36; refine (lv36 _ (HF.out.mono l1)).mono ?_; rintro e w2 ⟨rfl, l2⟩)
    | (go_at_call 23; refine (lv23 _).mono ?_; rintro e w' ⟨rfl, rfl⟩))
  go_ret
  exact ⟨rfl, l1.trans (l2.mono l1.size)⟩
end Go.Proofs.YtmkechhjgdanmaaGreatDoor
