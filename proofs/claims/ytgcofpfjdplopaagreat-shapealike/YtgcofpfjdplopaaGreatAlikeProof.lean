/- ShapeAlike, proved: for every two points and every ask (the arguments, whatever they hold) the law returns true: a disc of radius 0 covers its point alone and meets the segments that it lies on; a corridor of no width covers and meets what its segment does; a box is right, and is as the polygon of its corners, or, if it is a line, as its segment; the arguments read afterwards as they read before. No conditions. -/
import Derived.Test.YtgcofpfjdplopaaGreatAn9
import Derived.Test.YtgcofpfjdplopaaGreatAo9
namespace Go.Proofs.YtgcofpfjdplopaaGreat
section
open Go.ChangeShapes Go.WideShapes Go.ChangeAt Go.RowKit Go.Joins

theorem ownA : ownKnob Tryz.prog.godebug = none := by kernel_rfl
theorem laidOutA : laidOutB Tryz.prog = true := by kernel_rfl
theorem alike_any (a b p q : P2) (s0 s1 s2 s3 : Value) (w : World) :
    Calls Tryz.prog 8 #[pt a.1 a.2, pt b.1 b.2, .agg #[s0, s1, s2, s3, .int .i32 p.1, .int .i32 p.2, .int .i32 q.1, .int .i32 q.2]] w fun e w' => e = .returned (.bool true) ∧ Below w.heap.size w w' := by
  cases h : (latP a && (latP b && (latP p && latP q))) with
  | false => exact alike_out a b p q s0 s1 s2 s3 w h
  | true =>
    rw [Bool.and_eq_true, Bool.and_eq_true, Bool.and_eq_true, latP_iff, latP_iff, latP_iff, latP_iff] at h
    exact alike_in a b p q s0 s1 s2 s3 w h.1 h.2.1 h.2.2.1 h.2.2.2

set_option maxRecDepth 100000 in
theorem alike_contract (H : Type) (enc : TypeId × Value → H) (W : World) (base : Nat) (args : Array Value) (ds gs : List (DataW H)) (before : List MemPlace)
    (hval : ∀ (j : Nat) t v, Tryz.f8.params[j]? = some t → args[j]? = some v → Value.okWide Tryz.prog W .any base t v)
    (hW : DataW.Whole enc Tryz.prog Tryz.f8.params.toList Rows.shapeAlikeSpec.vars false W args.toList ds gs before) :
    Calls Tryz.prog 8 args W fun e W' => ∃ v, e = .returned v ∧ Rows.shapeAlikeSpec.post enc Tryz.prog Tryz.f8 false true false false W args v W' := by
  have hW' := hW
  obtain ⟨p, q, hA0, hV, rfl, _, _⟩ := hW
  have hA : DataW.TrodAll enc Tryz.prog W 0 (fun _ => true) true Tryz.f8.params.toList args.toList ds p := hA0
  rw [Tryz.params8] at hA hval
  obtain ⟨x0, x1, x2, d0, d1, d2, p0, p1, p2, rfl, rfl, rfl, h0, h1, h2⟩ := trodAll_three hA
  obtain ⟨rfl, rfl⟩ := trodVars_none hV
  clear hA0
  simp only [List.append_nil] at hW'
  have hlt : ∀ x ∈ p0 ++ p1 ++ p2, x.block < W.heap.size := fun x hx => by simpa using hW'.lt x (by simpa using hx)
  have a0 : ∀ (W' : World), Below W.heap.size W W' → DataW.Trod enc Tryz.prog W' 0 (fun b => decide (b < W.heap.size)) true 28 x0 d0 p0 :=
    fun W' hn => Below.trod laidOutA (by kernel_rfl) (of_decide_eq_true (by kernel_rfl)) h0 hn (fun x hx => hlt x (by simp [hx]))
  have a1 : ∀ (W' : World), Below W.heap.size W W' → DataW.Trod enc Tryz.prog W' 0 (fun b => decide (b < W.heap.size)) true 28 x1 d1 p1 :=
    fun W' hn => Below.trod laidOutA (by kernel_rfl) (of_decide_eq_true (by kernel_rfl)) h1 hn (fun x hx => hlt x (by simp [hx]))
  have a2 : ∀ (W' : World), Below W.heap.size W W' → DataW.Trod enc Tryz.prog W' 0 (fun b => decide (b < W.heap.size)) true 30 x2 d2 p2 :=
    fun W' hn => Below.trod laidOutA (by kernel_rfl) (of_decide_eq_true (by kernel_rfl)) h2 hn (fun x hx => hlt x (by simp [hx]))
  obtain ⟨ax, ay, rfl⟩ := open_ptA (hval 0 28 x0 rfl rfl) h0
  obtain ⟨bx, by_, rfl⟩ := open_ptA (hval 1 28 x1 rfl rfl) h1
  obtain ⟨s0, s1, s2, s3, P, Q, rfl⟩ := open_askA (hval 2 30 x2 rfl rfl) h2
  refine (alike_any (ax, ay) (bx, by_) P Q s0 s1 s2 s3 W).mono fun e W' ⟨he, hb⟩ => ?_
  subst he
  exact ⟨_, rfl, _, _, _, [], _, [], hW', trodAll_mk1 (shut_bool Tryz.underlying4 _), trodAll_mk3 (a0 _ hb) (a1 _ hb) (a2 _ hb), rfl, hb.frame _, fun h => by cases h⟩

set_option maxRecDepth 100000 in
theorem alike_lifted (os : Os) (started : os.Started) (H : Type) (enc : TypeId × Value → H) :
    ReturnsInHanded {} Tryz.checked os 8 .any (Rows.shapeAlikeSpec.pre6 enc Tryz.prog Tryz.f8 Rows.shapeAlikeRow.domain false) (Rows.shapeAlikeSpec.post enc Tryz.prog Tryz.f8 false true false false) := by
  refine returnsInHanded_of_change_sized (C := Tryz.checked) ownA started (by kernel_rfl) Tryz.func8
    (ChangeSpec.witness6 (enc := enc) (C := Tryz.checked) false ⟨#[], #[pt 0 0, pt 0 0, .agg #[.int .u8 0, .slice none 0 0, .slice none 0 0, .int .i32 0, .int .i32 0, .int .i32 0, .int .i32 0, .int .i32 0]], []⟩ 8 (by kernel_rfl) (by kernel_rfl) (by kernel_rfl) (by kernel_rfl)) ?_
  intro W base args ds gs before hval hW _ hsz _
  exact alike_contract H enc W base args ds gs before hval hW

theorem alike_holds : Rows.ShapeAlikeSaid :=
  OpenClaim.holds_of_wide 8 Tryz.f8 rfl rfl rfl rfl rfl rfl rfl ⟨rfl, rfl, rfl, rfl, rfl⟩ rfl rfl rfl rfl rfl (by kernel_rfl) Tryz.func8 (by kernel_rfl)
    (of_decide_eq_true (by kernel_rfl)) (by unfold Func.isWrapper; first | (rw [if_pos (by decide +kernel)]; kernel_rfl) | (rw [if_neg (by decide +kernel)]; exact ⟨rfl, rfl⟩))
    (fun os started H enc _ => alike_lifted os started H enc)
end
end Go.Proofs.YtgcofpfjdplopaaGreat
