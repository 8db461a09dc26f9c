/- A Tree in memory; its New, isNone, Len, Depth, Del, Box. -/
import Derived.Test.YtpikhdfndnpidaaTy
set_option linter.unusedSimpArgs false
set_option linter.unusedVariables false
namespace Go.Proofs.Ytpikhdfndnpidaa
open Go.RowKit Go.Sort

/-- The Tree in block T holds the tree t. -/
structure TreeIs (w : World) (T : Nat) (t : At) : Prop where
  blk : Bk w T 64 [.bool true, t.ptr, .int .i64 (t.er.toL.length : Nat)]
  tr : TrAt w t
  srt : PT.Srt t.er.toL
  bal : PT.Bal t.er
  rg : PT.Rg t.er
  few : t.er.toL.length ≤ 65536
theorem TreeIs.ok {w : World} {T : Nat} {t : At} (h : TreeIs w T t) : PT.Ok t.er := ⟨h.rg, by have := h.few; omega⟩
/-- A pointer to no Tree, or to a zero one. -/
def NoTree (w : World) (v : Value) : Prop := v = .pointer none ∨ ∃ b, v = .pointer (some ⟨b, 0, none⟩) ∧ w.cell? ⟨b, 0, none⟩ = some (.bool false)
theorem NoTree.gr {w w' : World} {v : Value} (h : NoTree w v) (g : Gr w w') : NoTree w' v := by
  rcases h with h | ⟨b, h1, h2⟩
  · exact .inl h
  · exact .inr ⟨b, h1, below_cell h2 g.below⟩
theorem NoTree.below {w w' : World} {v : Value} (h : NoTree w v) (g : Below w.heap.size w w') : NoTree w' v := by
  rcases h with h | ⟨b, h1, h2⟩
  · exact .inl h
  · exact .inr ⟨b, h1, below_cell h2 g⟩
theorem isNone_no (v : Value) (w : World) (h : NoTree w v) : Calls Try.prog 25 #[v] w fun e w' => e = .returned (.bool true) ∧ w' = w := by
  rcases h with rfl | ⟨b, rfl, h⟩
  · go_enter Try.func25, Try.ntmps25
    go_wp2
    go_ret
    exact ⟨rfl, rfl⟩
  · go_enter Try.func25, Try.ntmps25
    go_wp2
    go_ret
    exact ⟨rfl, rfl⟩
theorem isNone_yes (b : Nat) (w : World) (h : w.cell? ⟨b, 0, none⟩ = some (.bool true)) : Calls Try.prog 25 #[.pointer (some ⟨b, 0, none⟩)] w fun e w' => e = .returned (.bool false) ∧ w' = w := by
  go_enter Try.func25, Try.ntmps25
  go_wp2
  go_ret
  exact ⟨rfl, rfl⟩
theorem TreeIs.made {w : World} {T : Nat} {t : At} (h : TreeIs w T t) : w.cell? ⟨T, 0, none⟩ = some (.bool true) := h.blk.at 0
theorem TreeIs.root {w : World} {T : Nat} {t : At} (h : TreeIs w T t) : w.cell? ⟨T, 1, none⟩ = some t.ptr := h.blk.at 1
theorem TreeIs.count {w : World} {T : Nat} {t : At} (h : TreeIs w T t) : w.cell? ⟨T, 2, none⟩ = some (.int .i64 (t.er.toL.length : Nat)) := h.blk.at 2
theorem TreeIs.gr {w w' : World} {T : Nat} {t : At} (h : TreeIs w T t) (g : Gr w w') : TreeIs w' T t := ⟨h.blk.gr g, h.tr.gr g, h.srt, h.bal, h.rg, h.few⟩
theorem new_any (w : World) : Calls Try.prog 7 #[] w fun e w' => e = .returned (.pointer (some ⟨w.heap.size, 0, none⟩)) ∧ w' = w.alloc (.cells #[.bool true, .pointer none, .int .i64 0] 64) ∧ TreeIs w' w.heap.size .nil := by
  go_enter Try.func7, Try.ntmps7
  go_wp2
  go_ret
  exact ⟨rfl, rfl, Bk.new w 64 _, trivial, List.Pairwise.nil, trivial, fun x hx => (by cases hx), by simp [At.er, PT.toL]⟩
theorem len_no (v : Value) (w : World) (h : NoTree w v) : Calls Try.prog 10 #[v] w fun e w' => e = .returned (.int .i64 0) ∧ w' = w := by
  have I := hid0 (isNone_no v w h)
  clear h
  go_enter Try.func10, Try.ntmps10
  go_wp2_with (go_at_call 25; refine I.out.mono ?_; rintro e w1 ⟨rfl, rfl⟩)
  go_ret
  exact ⟨rfl, rfl⟩
theorem depth_no (v : Value) (w : World) (h : NoTree w v) : Calls Try.prog 8 #[v] w fun e w' => e = .returned (.int .i64 0) ∧ w' = w := by
  have I := hid0 (isNone_no v w h)
  clear h
  go_enter Try.func8, Try.ntmps8
  go_wp2_with (go_at_call 25; refine I.out.mono ?_; rintro e w1 ⟨rfl, rfl⟩)
  go_ret
  exact ⟨rfl, rfl⟩
theorem len_any (T : Nat) (t : At) (w : World) (h : TreeIs w T t) : Calls Try.prog 10 #[.pointer (some ⟨T, 0, none⟩)] w fun e w' => e = .returned (.int .i64 (t.er.toL.length : Nat)) ∧ w' = w := by
  have I := hid0 (isNone_yes T w h.made)
  have c := h.count
  clear h
  generalize ((t.er.toL.length : Nat) : Int) = L at *
  go_enter Try.func10, Try.ntmps10
  go_wp2_with (go_at_call 25; refine I.out.mono ?_; rintro e w1 ⟨rfl, rfl⟩)
  go_ret
  exact ⟨rfl, rfl⟩
theorem depth_any (T : Nat) (t : At) (w : World) (h : TreeIs w T t) : Calls Try.prog 8 #[.pointer (some ⟨T, 0, none⟩)] w fun e w' => e = .returned (.int .i64 (t.er.dep : Nat)) ∧ w' = w := by
  have I := hid0 (isNone_yes T w h.made)
  have D := hid0 (deep_any t w h.tr)
  have c := h.root
  clear h
  generalize ((t.er.dep : Nat) : Int) = L at *
  generalize t.ptr = tp at *
  go_enter Try.func8, Try.ntmps8
  go_wp2_with (first
    | (go_at_call 25; refine I.out.mono ?_; rintro e w1 ⟨rfl, rfl⟩)
    | (go_at_call 26; refine D.out.mono ?_; rintro e w1 ⟨rfl, rfl⟩))
  go_ret
  exact ⟨rfl, rfl⟩
theorem box_no (v : Value) (k : Int) (w : World) (h : NoTree w v) : Calls Try.prog 16 #[v, .int .u32 k] w fun e w' => e = .returned (.tuple #[bx 0 0 0 0, .bool false]) ∧ Gr w w' := by
  have g0 := (Gr.refl w).alloc (.cells #[.int .i32 0, .int .i32 0, .int .i32 0, .int .i32 0] 36)
  have k0 := Bk.new w 36 [.int .i32 0, .int .i32 0, .int .i32 0, .int .i32 0]
  have I := hid0 (isNone_no v _ (h.gr g0))
  clear h
  go_enter Try.func16, Try.ntmps16
  go_upto_region 1 with fail
  generalize w.alloc (.cells #[.int .i32 0, .int .i32 0, .int .i32 0, .int .i32 0] 36) = W at *
  obtain ⟨B, hB⟩ : ∃ B, B = w.heap.size := ⟨_, rfl⟩
  rw [← hB] at k0 ⊢
  have gF := (((g0.setCell (p := ⟨B, 0, none⟩) (by show _ ≤ B; omega) (.int .i32 0)).setCell (p := ⟨B, 1, none⟩) (by show _ ≤ B; omega) (.int .i32 0)).setCell (p := ⟨B, 2, none⟩) (by show _ ≤ B; omega) (.int .i32 0)).setCell (p := ⟨B, 3, none⟩) (by show _ ≤ B; omega) (.int .i32 0)
  have kF := (((k0.set 0 (.int .i32 0)).set 1 (.int .i32 0)).set 2 (.int .i32 0)).set 3 (.int .i32 0)
  simp only [List.set_cons_zero, List.set_cons_succ] at kF
  obtain ⟨y0, y1, y2, y3⟩ := k0.four
  have f0 := k0.frozen 0
  have f1 := k0.frozen 1
  have f2 := k0.frozen 2
  have f3 := k0.frozen 3
  clear hB
  go_wp2_with (go_at_call 25; refine I.out.mono ?_; rintro e w1 ⟨rfl, hw⟩; cases hw)
  obtain ⟨c0, c1, c2, c3⟩ := kF.four
  refine bodyPost_ret (v := .tuple #[bx 0 0 0 0, .bool false]) (by simp [results, Try.results16, go_sem, c0, c1, c2, c3]) rfl ⟨rfl, gF⟩
set_option maxHeartbeats 1000000 in
theorem box_any (T : Nat) (t : At) (k : Int) (w : World) (h : TreeIs w T t) : Calls Try.prog 16 #[.pointer (some ⟨T, 0, none⟩), .int .u32 k] w fun e w' => e = .returned (.tuple #[bv (match t.er.find k with | .leaf => (0, 0, 0, 0) | .inner _ _ q _ _ => q), .bool (!(t.er.find k).isNil)]) ∧ Gr w w' := by
  have g0 := (Gr.refl w).alloc (.cells #[.int .i32 0, .int .i32 0, .int .i32 0, .int .i32 0] 36)
  have k0 := Bk.new w 36 [.int .i32 0, .int .i32 0, .int .i32 0, .int .i32 0]
  have h' := h.gr g0
  have I := hid0 (isNone_yes T _ h'.made)
  have F := hid0 (find_any t k _ h'.tr)
  have X := h'.tr.find k
  have c := h'.root
  rw [← At.er_find]
  clear h h'
  generalize t.ptr = tp at *
  generalize t.find k = u at *
  cases u using At.cas with
  | nil =>
    dsimp only [At.ptr] at F
    show Calls Try.prog 16 #[.pointer (some ⟨T, 0, none⟩), .int .u32 k] w fun e w' => e = .returned (.tuple #[bx 0 0 0 0, .bool false]) ∧ Gr w w'
    clear X
    go_enter Try.func16, Try.ntmps16
    go_upto_region 1 with fail
    generalize w.alloc (.cells #[.int .i32 0, .int .i32 0, .int .i32 0, .int .i32 0] 36) = W at *
    obtain ⟨B, hB⟩ : ∃ B, B = w.heap.size := ⟨_, rfl⟩
    rw [← hB] at k0 ⊢
    have gF := (((g0.setCell (p := ⟨B, 0, none⟩) (by show _ ≤ B; omega) (.int .i32 0)).setCell (p := ⟨B, 1, none⟩) (by show _ ≤ B; omega) (.int .i32 0)).setCell (p := ⟨B, 2, none⟩) (by show _ ≤ B; omega) (.int .i32 0)).setCell (p := ⟨B, 3, none⟩) (by show _ ≤ B; omega) (.int .i32 0)
    have kF := (((k0.set 0 (.int .i32 0)).set 1 (.int .i32 0)).set 2 (.int .i32 0)).set 3 (.int .i32 0)
    simp only [List.set_cons_zero, List.set_cons_succ] at kF
    obtain ⟨y0, y1, y2, y3⟩ := k0.four
    have f0 := k0.frozen 0
    have f1 := k0.frozen 1
    have f2 := k0.frozen 2
    have f3 := k0.frozen 3
    clear hB
    go_wp2_with (first
      | (go_at_call 25; refine I.out.mono ?_; rintro e w1 ⟨rfl, hw⟩; cases hw)
      | (go_at_call 32; refine F.out.mono ?_; rintro e w1 ⟨rfl, hw⟩; cases hw))
    obtain ⟨c0, c1, c2, c3⟩ := kF.four
    refine bodyPost_ret (v := .tuple #[bx 0 0 0 0, .bool false]) (by simp [results, Try.results16, go_sem, c0, c1, c2, c3]) rfl ⟨rfl, gF⟩
  | nd b i q l hh =>
    dsimp only [At.ptr] at F
    show Calls Try.prog 16 #[.pointer (some ⟨T, 0, none⟩), .int .u32 k] w fun e w' => e = .returned (.tuple #[bv q, .bool true]) ∧ Gr w w'
    have z1 := X.1.at 1
    have z2 := X.1.at 2
    have z3 := X.1.at 3
    have z4 := X.1.at 4
    simp only [List.getElem?_cons_zero, List.getElem?_cons_succ] at z1 z2 z3 z4
    clear X
    go_enter Try.func16, Try.ntmps16
    go_upto_region 1 with fail
    generalize w.alloc (.cells #[.int .i32 0, .int .i32 0, .int .i32 0, .int .i32 0] 36) = W at *
    obtain ⟨B, hB⟩ : ∃ B, B = w.heap.size := ⟨_, rfl⟩
    rw [← hB] at k0 ⊢
    have gF := (((g0.setCell (p := ⟨B, 0, none⟩) (by show _ ≤ B; omega) (.int .i32 q.1)).setCell (p := ⟨B, 1, none⟩) (by show _ ≤ B; omega) (.int .i32 q.2.1)).setCell (p := ⟨B, 2, none⟩) (by show _ ≤ B; omega) (.int .i32 q.2.2.1)).setCell (p := ⟨B, 3, none⟩) (by show _ ≤ B; omega) (.int .i32 q.2.2.2)
    have kF := (((k0.set 0 (.int .i32 q.1)).set 1 (.int .i32 q.2.1)).set 2 (.int .i32 q.2.2.1)).set 3 (.int .i32 q.2.2.2)
    simp only [List.set_cons_zero, List.set_cons_succ] at kF
    obtain ⟨y0, y1, y2, y3⟩ := k0.four
    have f0 := k0.frozen 0
    have f1 := k0.frozen 1
    have f2 := k0.frozen 2
    have f3 := k0.frozen 3
    clear hB
    go_wp2_with (first
      | (go_at_call 25; refine I.out.mono ?_; rintro e w1 ⟨rfl, hw⟩; cases hw)
      | (go_at_call 32; refine F.out.mono ?_; rintro e w1 ⟨rfl, hw⟩; cases hw))
    obtain ⟨c0, c1, c2, c3⟩ := kF.four
    refine bodyPost_ret (v := .tuple #[bv q, .bool true]) (by simp [results, Try.results16, go_sem, c0, c1, c2, c3]) rfl ⟨rfl, gF⟩
theorem put_no (v : Value) (id : Int) (a b c d : Int) (w : World) (h : NoTree w v) : Calls Try.prog 13 #[v, .int .u32 id, bx a b c d] w fun e w' => e = .returned (.int .i64 1) ∧ Gr w w' := by
  have g0 := (Gr.refl w).alloc (.cells #[.int .i32 a, .int .i32 b, .int .i32 c, .int .i32 d] 36)
  have I := hid0 (isNone_no v _ (h.gr g0))
  clear h
  go_enter Try.func13, Try.ntmps13
  go_upto_region 1 with fail
  generalize w.alloc (.cells #[.int .i32 a, .int .i32 b, .int .i32 c, .int .i32 d] 36) = W at *
  go_wp2_with (go_at_call 25; refine I.out.mono ?_; rintro e w1 ⟨rfl, rfl⟩)
  go_ret
  exact ⟨rfl, g0⟩
theorem del_no (v : Value) (id : Int) (w : World) (h : NoTree w v) : Calls Try.prog 15 #[v, .int .u32 id] w fun e w' => e = .returned (.int .i64 1) ∧ w' = w := by
  have I := hid0 (isNone_no v w h)
  clear h
  go_enter Try.func15, Try.ntmps15
  go_wp2_with (go_at_call 25; refine I.out.mono ?_; rintro e w1 ⟨rfl, rfl⟩)
  go_ret
  exact ⟨rfl, rfl⟩
end Go.Proofs.Ytpikhdfndnpidaa
