/- Trees in memory: their nodes as blocks; a node's depth; the box around two right ones. -/
import Derived.Test.YtpikhdfndnpidaaTp
import Derived.ControlIn
import Derived.CallsIn
set_option linter.unusedSimpArgs false
set_option linter.unusedVariables false
namespace Go.Proofs.Ytpikhdfndnpidaa
open Go.RowKit Go.Sort

/-- A tree with the blocks that its nodes lie in. -/
abbrev At := Std.DTreeMap.Internal.Impl Int (fun _ => Q4)
namespace At
abbrev nil : At := .leaf
abbrev nd (b : Nat) (i : Int) (q : Q4) (l h : At) : At := .inner b i q l h
theorem ind {motive : At → Prop} (nil : motive nil) (nd : ∀ (b : Nat) (i : Int) (q : Q4) (l h : At), motive l → motive h → motive (nd b i q l h)) (t : At) : motive t := by
  induction t with
  | leaf => exact nil
  | inner b i q l h h1 h2 => exact nd b i q l h h1 h2
theorem cas {motive : At → Prop} (nil : motive nil) (nd : ∀ (b : Nat) (i : Int) (q : Q4) (l h : At), motive (nd b i q l h)) (t : At) : motive t := by
  cases t with
  | leaf => exact nil
  | inner b i q l h => exact nd b i q l h
def er : At → PT
  | .leaf => PT.nil
  | .inner _ i q l h => PT.nd i q (er l) (er h)
def ptr : At → Value
  | .leaf => .pointer none
  | .inner b _ _ _ _ => .pointer (some ⟨b, 0, none⟩)
def isNil : At → Bool
  | .leaf => true
  | .inner _ _ _ _ _ => false
theorem er_nil (t : At) : t.er.isNil = t.isNil := by cases t using At.cas <;> rfl
end At
abbrev nodeL (i : Int) (q : Q4) (l h : Value) (r : Q4) (d : Int) : List Value := [.int .u32 i, .int .i32 q.1, .int .i32 q.2.1, .int .i32 q.2.2.1, .int .i32 q.2.2.2, l, h, .int .i32 r.1, .int .i32 r.2.1, .int .i32 r.2.2.1, .int .i32 r.2.2.2, .int .i64 d]
def TrAt (w : World) : At → Prop
  | .leaf => True
  | .inner b i q l h => Bk w b 80 (nodeL i q (At.ptr l) (At.ptr h) (PT.nd i q (At.er l) (At.er h)).ar (PT.nd i q (At.er l) (At.er h)).dep) ∧ TrAt w l ∧ TrAt w h
/-- All nodes are kept. -/
def Nk (w w' : World) : Prop := ∀ b l, Bk w b 80 l → Bk w' b 80 l
theorem Nk.refl (w : World) : Nk w w := fun _ _ h => h
theorem Nk.trans {a b c : World} (h : Nk a b) (k : Nk b c) : Nk a c := fun x l hx => k x l (h x l hx)
theorem Nk.gr {w w' : World} (h : Gr w w') : Nk w w' := fun _ _ k => k.gr h
theorem TrAt.nk {w w' : World} (k : Nk w w') : ∀ {t : At}, TrAt w t → TrAt w' t
  | .leaf, _ => trivial
  | .inner _ _ _ _ _, ⟨h1, h2, h3⟩ => ⟨k _ _ h1, TrAt.nk k h2, TrAt.nk k h3⟩
theorem TrAt.gr {w w' : World} {t : At} (h : TrAt w t) (g : Gr w w') : TrAt w' t := h.nk (Nk.gr g)
theorem deep_any (t : At) (w : World) (h : TrAt w t) : Calls Try.prog 26 #[t.ptr] w fun e w' => e = .returned (.int .i64 t.er.dep) ∧ w' = w := by
  cases t using At.cas with
  | nil =>
    show Calls Try.prog 26 #[.pointer none] w _
    go_enter Try.func26, Try.ntmps26
    go_wp2
    go_ret
    exact ⟨rfl, rfl⟩
  | nd b i q l hh =>
    have c := h.1.at 11
    simp only [List.getElem?_cons_zero, List.getElem?_cons_succ] at c
    show Calls Try.prog 26 #[.pointer (some ⟨b, 0, none⟩)] w fun e w' => e = .returned (.int .i64 ((PT.nd i q l.er hh.er).dep : Nat)) ∧ w' = w
    clear h
    generalize (((PT.nd i q l.er hh.er).dep : Nat) : Int) = D at *
    go_enter Try.func26, Try.ntmps26
    go_wp2
    go_ret
    exact ⟨rfl, rfl⟩
theorem three_boxes (w : World) (a0 a1 a2 a3 b0 b1 b2 b3 : Int) : ∃ W, W = ((w.alloc (.cells #[.int .i32 a0, .int .i32 a1, .int .i32 a2, .int .i32 a3] 36)).alloc (.cells #[.int .i32 b0, .int .i32 b1, .int .i32 b2, .int .i32 b3] 36)).alloc (.cells #[.int .i32 0, .int .i32 0, .int .i32 0, .int .i32 0] 36) ∧ Gr w W ∧
    Bk W w.heap.size 36 [.int .i32 a0, .int .i32 a1, .int .i32 a2, .int .i32 a3] ∧ Bk W (w.heap.size + 1) 36 [.int .i32 b0, .int .i32 b1, .int .i32 b2, .int .i32 b3] ∧ Bk W (w.heap.size + 1 + 1) 36 [.int .i32 0, .int .i32 0, .int .i32 0, .int .i32 0] := by
  obtain ⟨W, hW, g, k0, k1⟩ := two_boxes w a0 a1 a2 a3 b0 b1 b2 b3
  refine ⟨_, rfl, ?_⟩
  rw [← hW]
  have k2 := Bk.new W 36 [.int .i32 0, .int .i32 0, .int .i32 0, .int .i32 0]
  have e : W.heap.size = w.heap.size + 1 + 1 := by rw [hW]; simp
  rw [e] at k2
  exact ⟨g.alloc _, k0.alloc _, k1.alloc _, k2⟩
set_option maxRecDepth 20000 in
set_option maxHeartbeats 4000000 in
theorem join_right (a0 a1 a2 a3 b0 b1 b2 b3 : Int) (hr1 : rgB a0 a1 a2 a3 = true) (hr2 : rgB b0 b1 b2 b3 = true) (w : World) :
    Calls Try.prog 53 #[bx a0 a1 a2 a3, bx b0 b1 b2 b3] w fun e w' => e = .returned (bx (minI a0 b0) (minI a1 b1) (maxI a2 b2) (maxI a3 b3)) ∧ Gr w w' := by
  have R1 : Hid (∀ w, Calls Try.prog 31 #[bx a0 a1 a2 a3] w fun e w' => e = .returned (.bool true) ∧ Gr w w') := by rw [← hr1]; exact right_any a0 a1 a2 a3
  have R2 : Hid (∀ w, Calls Try.prog 31 #[bx b0 b1 b2 b3] w fun e w' => e = .returned (.bool true) ∧ Gr w w') := by rw [← hr2]; exact right_any b0 b1 b2 b3
  clear hr1 hr2
  go_enter Try.func53, Try.ntmps53
  go_upto_region 1 with fail
  obtain ⟨W, hW, hG, k0, k1, k2⟩ := three_boxes w a0 a1 a2 a3 b0 b1 b2 b3
  rw [← hW]
  clear hW
  obtain ⟨B, hB⟩ : ∃ B, B = w.heap.size := ⟨_, rfl⟩
  rw [← hB] at k0 k1 k2 ⊢
  have HB := hid0 (Nat.le_of_eq hB.symm)
  clear hB
  obtain ⟨y0, y1, y2, y3⟩ := k0.four
  obtain ⟨z0, z1, z2, z3⟩ := k1.four
  go_wp2_with fail
  refine (R1.out _).mono ?_
  rintro e v1 ⟨rfl, g⟩
  replace hG := hG.trans g
  replace k0 := k0.gr g
  replace k1 := k1.gr g
  replace k2 := k2.gr g
  clear g y0 y1 y2 y3 z0 z1 z2 z3 R1
  obtain ⟨z0, z1, z2, z3⟩ := k1.four
  go_wp2_with fail
  refine (R2.out _).mono ?_
  rintro e v2 ⟨rfl, g⟩
  replace hG := hG.trans g
  replace k0 := k0.gr g
  replace k1 := k1.gr g
  replace k2 := k2.gr g
  clear g z0 z1 z2 z3 R2
  go_wp2_with fail
  obtain ⟨y0, y1, y2, y3⟩ := k0.four
  obtain ⟨z0, z1, z2, z3⟩ := k1.four
  have x0 := cell_gr y0
  have x1 := cell_gr y1
  have x2 := cell_gr y2
  have x3 := cell_gr y3
  have x4 := cell_gr z0
  have x5 := cell_gr z1
  have x6 := cell_gr z2
  have x7 := cell_gr z3
  clear y0 y1 y2 y3 z0 z1 z2 z3
  have QL : Hid (∀ n os, Calls Try.prog 52 #[pt a0 a1, pt b0 b1] (grow (v2.drewN n) os) fun e w' => e = .returned (pt (minI a0 b0) (minI a1 b1)) ∧ ∃ p : GrownBy, w' = grow (v2.drewN p.n) p.os) := fun n os => Calls.grown_of (lower_any _ _ _ _ _)
  have QU : Hid (∀ n os, Calls Try.prog 51 #[pt a2 a3, pt b2 b3] (grow (v2.drewN n) os) fun e w' => e = .returned (pt (maxI a2 b2) (maxI a3 b3)) ∧ ∃ p : GrownBy, w' = grow (v2.drewN p.n) p.os) := fun n os => Calls.grown_of (upper_any _ _ _ _ _)
  obtain ⟨nF, hnF⟩ : ∃ nF : Nat, 5 ≤ nF := ⟨5, by omega⟩
  refine (wpIn_wide (n := nF)).1 ?_
  refine region_head_grown 11 (by kernel_rfl) (by kernel_rfl) (by simp) (by kernel_rfl) ?_
  simp only [List.take_succ_cons, List.take_zero, List.drop_succ_cons, List.drop_zero]
  repeat (gi_big_quiet_step (fail))
  refine BigFrame.wpQuietIn_want (by intro w _ f hf; exact trivial) (by rfl) ?_
  intro K hK
  gi_big_quiet_op
  gi_big_quiet_call (exact ⟨fun _ => by omega, callsIn_wide.2 (QL.out _ _)⟩)
  repeat (gi_big_quiet_step (fail))
  refine BigFrame.wpQuietIn_want (by intro w _ f hf; exact trivial) (by rfl) ?_
  intro K hK
  gi_big_quiet_op
  gi_big_quiet_call (exact ⟨fun _ => by omega, callsIn_wide.2 (QU.out _ _)⟩)
  repeat (gi_big_quiet_step (fail))
  refine wpQuietIn_nil ?_
  intro _ hw'
  obtain ⟨⟨dq, osq⟩, hw''⟩ := hw'
  subst hw''
  have g : Gr v2 (grow (v2.drewN dq) osq) := ⟨dq, osq, rfl⟩
  replace k2 := k2.gr g
  replace hG := hG.trans g
  clear x0 x1 x2 x3 x4 x5 x6 x7 QL QU k0 k1 g
  generalize grow (v2.drewN dq) osq = W2 at *
  obtain ⟨y0, y1, y2, y3⟩ := k2.four
  have f0 := k2.frozen 0
  have f1 := k2.frozen 1
  have f2 := k2.frozen 2
  have f3 := k2.frozen 3
  have hBw : w.heap.size ≤ B + 1 + 1 := by have := HB.out; omega
  have gF := (((hG.setCell (p := ⟨B + 1 + 1, 0, none⟩) hBw (.int .i32 (minI a0 b0))).setCell (p := ⟨B + 1 + 1, 1, none⟩) hBw (.int .i32 (minI a1 b1))).setCell (p := ⟨B + 1 + 1, 2, none⟩) hBw (.int .i32 (maxI a2 b2))).setCell (p := ⟨B + 1 + 1, 3, none⟩) hBw (.int .i32 (maxI a3 b3))
  have kF := (((k2.set 0 (.int .i32 (minI a0 b0))).set 1 (.int .i32 (minI a1 b1))).set 2 (.int .i32 (maxI a2 b2))).set 3 (.int .i32 (maxI a3 b3))
  simp only [List.set_cons_zero, List.set_cons_succ] at kF
  gi_wp2
  obtain ⟨c0, c1, c2, c3⟩ := kF.four
  go_wp2
  refine bodyPost_ret (v := bx (minI a0 b0) (minI a1 b1) (maxI a2 b2) (maxI a3 b3)) (by simp [results, Try.results53, go_sem, c0, c1, c2, c3]) rfl ⟨rfl, gF⟩
end Go.Proofs.Ytpikhdfndnpidaa
