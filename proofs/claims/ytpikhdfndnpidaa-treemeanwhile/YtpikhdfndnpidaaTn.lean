/- The law's nothing: a nil Tree and a zero one answer as none. -/
import Derived.Test.YtpikhdfndnpidaaTa
set_option linter.unusedSimpArgs false
set_option linter.unusedVariables false
namespace Go.Proofs.Ytpikhdfndnpidaa
open Go.RowKit Go.Sort Go.Shelf
attribute [local go_sem] Oper.semAt_some wide_fn
attribute [local simp] wide_fn

/-- w is W but for what lies behind it. -/
def BW (W w : World) : Prop := Below W.heap.size W w
theorem BW.refl (W : World) : BW W W := (Gr.refl W).below
theorem BW.drew (W : World) : BW W W.drew := ((Gr.refl W).drew).below
theorem BW.tr {W a b : World} (h : BW W a) (k : Below a.heap.size a b) : BW W b := h.trans (k.mono h.size)
theorem BW.gr {W a b : World} (h : BW W a) (k : Gr a b) : BW W b := h.tr k.below
theorem cell_bw {W : World} {a : Addr} {x : Value} (h : W.cell? a = some x) : ∀ w', BW W w' → w'.cell? a = some x := fun _ g => below_cell h g
theorem told_no (v fv : Value) (b : Q4) (m : Int) (w : World) (hI : ItR w v b fv) (hT : NoTree w v) :
    Calls Try.prog 18 #[fv, .int .i64 m] w fun e w' => ∃ ao cap, e = .returned (.slice ao 0 cap) ∧ Below w.heap.size w w' := by
  refine (told_any v fv b [] m w hI (.no hT) (by simp)).mono ?_
  rintro e w' ⟨u, rfl, h1, h2⟩
  have e0 : leftL m [] = [] := by unfold leftL; rw [if_neg]; simp; omega
  rw [e0] at h1
  obtain ⟨ao, cap, rfl⟩ := h1.slice
  exact ⟨ao, cap, rfl, h2⟩
theorem run_eqf2_in (d gf : Nat) (lb : Array Value) (w : World) : (Op.equalIn (d + 1) 70 (.func (.func gf) #[] lb) .nilFunc).run Try.prog w = .ok false w := by
  simp [Op.equalIn, run_underlying Try.underlying70]
theorem run_eqf2 (gf : Nat) (lb : Array Value) (w : World) : (binOp .eql 70 (.func (.func gf) #[] lb) .nilFunc).run Try.prog w = .ok (.bool false) w := by
  have h : (Op.equal 70 (.func (.func gf) #[] lb) .nilFunc).run Try.prog w = .ok false w := run_eqf2_in 9999 gf lb w
  simp [binOp, h]
theorem nil_owes (n : Nat) (w : World) (tm : Array Value) (ps : Array Tmp) (body : Code) (p0 : Nat → Prop) (hps : 2 = ps.size) : Owes n w tm ps .skip body aEnc ([] : List Nd) p0 (fun _ _ A => Below w.heap.size w A) (fun _ _ _ => False) (fun _ _ _ => True) := by
  refine ⟨⟨fun p s A A' row h hg hr => h.grown hg h.size (fun r e => (hr r e).1), fun _ _ _ _ h _ => h, fun _ _ _ _ h _ => h⟩, fun c s A A' row h _ _ => h, fun x a' s A A' row _ _ _ => trivial, fun _ => hps, ?_, ?_⟩
  · intro l p pre x W K hp hpb hI hs hK
    gi_wp2
    exact hK _ _ (KeepsFrom.refl _ _) (Kp.refl _) hI trivial
  · intro l p pre x a' W _ _ _ _ _ _ hpre
    obtain ⟨t, ht⟩ := hpre
    simp at ht
abbrev stL (kd id a b c d px py qx qy nn : Int) : List Value := [.int .i64 kd, .int .u32 id, .int .i32 a, .int .i32 b, .int .i32 c, .int .i32 d, .int .i32 px, .int .i32 py, .int .i32 qx, .int .i32 qy, .int .i64 nn]
abbrev stV (kd id a b c d px py qx qy nn : Int) : Value := .agg #[.int .i64 kd, .int .u32 id, .int .i32 a, .int .i32 b, .int .i32 c, .int .i32 d, .int .i32 px, .int .i32 py, .int .i32 qx, .int .i32 qy, .int .i64 nn]
set_option maxRecDepth 100000 in
set_option maxHeartbeats 8000000 in
theorem nothing_in (n : Nat) (hn : 12 ≤ n) (v : Value) (kd id a b c d px py qx qy nn : Int) (w : World) (h : NoTree w v) :
    CallsIn Fence.wide n Try.prog 24 #[v, stV kd id a b c d px py qx qy nn] w fun e w' => e = .returned (.bool true) ∧ Below w.heap.size w w' := by
  obtain ⟨o, ho⟩ : ∃ o, v = .pointer o := by rcases h with rfl | ⟨b, rfl, _⟩ <;> exact ⟨_, rfl⟩
  subst ho
  have k3 := (Bk.new w 38 (stL kd id a b c d px py qx qy nn)).alloc (.cells #[.bool false] 4)
  have k4 := Bk.new (w.alloc (.cells (stL kd id a b c d px py qx qy nn).toArray 38)) 4 [.bool false]
  have g0 := ((Gr.refl w).alloc (.cells (stL kd id a b c d px py qx qy nn).toArray 38)).alloc (.cells #[.bool false] 4)
  rw [World.size_alloc] at k4
  have hN := hid0 (h.gr g0)
  clear h
  refine callsIn_of_wp_marks Try.func24 rfl trivial ?_ rfl
  simp only [Try.ntmps24, List.size_toArray, List.length_cons, List.length_nil, Nat.reduceAdd, Nat.reduceSub, Array.replicate_succ, Array.replicate_zero, List.push_toArray, List.append_toArray, List.nil_append, List.cons_append]
  have h1n : 1 ≤ n := by omega
  gi_wp2_with fail
  refine (callsIn_wide.2 (box_no (.pointer o) id _ hN.out)).mono ?_
  rintro e w1 ⟨rfl, g1⟩
  replace k3 := k3.gr g1
  replace k4 := k4.gr g1
  replace g0 := g0.trans g1
  replace hN := hid0 (hN.out.gr g1)
  clear g1
  obtain ⟨b4, e4⟩ : ∃ b4, b4 = w.heap.size + 1 := ⟨_, rfl⟩
  obtain ⟨b3, e3⟩ : ∃ b3, b3 = w.heap.size := ⟨_, rfl⟩
  rw [← e4] at k4 ⊢
  rw [← e3] at k3 ⊢
  have hb4 : w.heap.size ≤ b4 := by omega
  clear e3 e4
  dsimp only
  gi_wp2_with fail
  have k5 := Bk.new w1 36 [.int .i32 0, .int .i32 0, .int .i32 0, .int .i32 0]
  have g2 := (Gr.refl w1).alloc (.cells #[.int .i32 0, .int .i32 0, .int .i32 0, .int .i32 0] 36)
  replace k3 := k3.gr g2
  replace k4 := k4.gr g2
  replace g0 := g0.trans g2
  replace hN := hid0 (hN.out.gr g2)
  clear g2
  refine (callsIn_wide.2 (all_any o _)).mono ?_
  rintro e w2 ⟨bt, rfl, kt, g3⟩
  replace k3 := k3.gr g3
  replace k4 := k4.gr g3
  replace k5 := k5.gr g3
  replace g0 := g0.trans g3
  replace hN := hid0 (hN.out.gr g3)
  clear g3
  generalize w1.heap.size = b5 at *
  have hE := run_eqf2 44
  have SQ := all1_seq (n - 1) bt (by omega) (.pointer o) [] w2 (.no hN.out) kt
  have e44 : ∀ args w, (callFunc 44 args).run Try.prog w = .ok (.enter 44 args) w := enters_of Try.func44 (by kernel_rfl) rfl
  dsimp only
  gi_wp2_with fail
  refine range_out (p0 := isNode w2) (L := ([] : List Nd)) (encs := aEnc) (I := fun _ _ A => Below w2.heap.size w2 A) (Ix := fun _ _ _ => False) (Ax := fun _ _ _ => True) rfl e44 SQ (nil_owes _ _ _ _ _ _ rfl) (isNode w2) (fun _ h => h) (fun b hb => hb.lt) (BW.refl w2) ?done ?stop
  case stop =>
    rintro D c pre A hD hpre hx hK
    exact hx.elim
  case done =>
    rintro D q A hD hI hq hK
    replace k3 := k3.mono hI k3.lt
    replace k4 := k4.mono hI k4.lt
    replace k5 := k5.mono hI k5.lt
    have hB : BW w A := (show BW w w2 from g0.below).tr hI
    replace hN := hid0 (hN.out.below hI)
    have hDw : w.heap.size ≤ D := Nat.le_trans g0.size hD
    clear hI SQ g0 kt hq hD
    gi_wp2_with fail
    have c6 := cell_bw (k3.at 6)
    have c7 := cell_bw (k3.at 7)
    have c8 := cell_bw (k3.at 8)
    have c9 := cell_bw (k3.at 9)
    have c2 := cell_bw (k3.at 2)
    have c3 := cell_bw (k3.at 3)
    have c4 := cell_bw (k3.at 4)
    have c5 := cell_bw (k3.at 5)
    have RA : Hid (∀ w, Calls Try.prog 19 #[.pointer o, bx a b c d] w fun e w' => ∃ fv, e = .returned fv ∧ ItR w' (.pointer o) (a, b, c, d) fv ∧ Gr w w') := range_any o (a, b, c, d)
    refine wpIn_wide.2 ?_
    go_region_held3 (BW A)
      (first
        | exact BW.drew _
        | exact BW.gr (by assumption) (by assumption)
        | exact BW.tr (by assumption) (by assumption))
      (first
        | (go_at_call 20; refine (at_any o px py _).mono ?_; rintro e w1 ⟨f1, rfl, i1, g1⟩)
        | (go_at_call 19; refine (RA.out _).mono ?_; rintro e w3 ⟨f3, rfl, i3, g3⟩)
        | (go_at_call 21; refine (crossing_any o px py qx qy _).mono ?_; rintro e w5 ⟨f5, rfl, i5, g5⟩)
        | (go_at_call_of 18 f1; refine (told_no (.pointer o) f1 _ 0 _ i1 (hN.out.below (by assumption))).mono ?_; rintro e w2 ⟨ao1, cp1, rfl, g2⟩)
        | (go_at_call_of 18 f3; refine (told_no (.pointer o) f3 _ 0 _ i3 (hN.out.below (by assumption))).mono ?_; rintro e w4 ⟨ao3, cp3, rfl, g4⟩)
        | (go_at_call_of 18 f5; refine (told_no (.pointer o) f5 _ 0 _ i5 (hN.out.below (by assumption))).mono ?_; rintro e w6 ⟨ao5, cp5, rfl, g6⟩))
    rename_i hH
    have ew : IntKind.i64.wrap 0 = 0 := by rfl
    have ed : decide ((0 : Int) < 0) = false := by rfl
    rw [ew, ew, ed]
    replace k3 := k3.mono hH k3.lt
    replace k4 := k4.mono hH k4.lt
    replace k5 := k5.mono hH k5.lt
    replace hB : BW w w6 := hB.tr hH
    replace hN := hid0 (hN.out.below hH)
    replace hK : w6.heap[D]? = some (.deferred (some [])) := (hH.block D (lt_of_block hK)).trans hK
    clear c2 c3 c4 c5 c6 c7 c8 c9 RA hH i1 i3 i5 g1 g2 g3 g4 g5 g6
    clear ew ed
    have c1 := k3.at 1
    have c2 := k3.at 2
    have c3 := k3.at 3
    have c4 := k3.at 4
    have c5 := k3.at 5
    simp only [List.getElem?_cons_zero, List.getElem?_cons_succ] at c1 c2 c3 c4 c5
    gi_wp2_with fail
    refine (callsIn_wide.2 (put_no (.pointer o) id a b c d _ hN.out)).mono ?_
    rintro e v1 ⟨rfl, g1⟩
    replace k3 := k3.gr g1
    replace k4 := k4.gr g1
    replace k5 := k5.gr g1
    replace hB : BW w v1 := hB.gr g1
    replace hN := hid0 (hN.out.gr g1)
    replace hK : v1.heap[D]? = some (.deferred (some [])) := (g1.below.block D (lt_of_block hK)).trans hK
    clear c1 c2 c3 c4 c5 g1
    have c1 := k3.at 1
    simp only [List.getElem?_cons_zero, List.getElem?_cons_succ] at c1
    have DN := hid0 (del_no (.pointer o) id _ hN.out)
    have LN := hid0 (len_no (.pointer o) _ hN.out)
    have PN := hid0 (depth_no (.pointer o) _ hN.out)
    obtain ⟨y0, y1, y2, y3⟩ := k5.four
    have f4 := k4.frozen 0
    have y4 := k4.one
    gi_wp2_with fail
    refine (callsIn_wide.2 DN.out).mono ?_
    rintro e v2 ⟨rfl, hv⟩
    cases hv
    gi_wp2_with fail
    refine (callsIn_wide.2 LN.out).mono ?_
    rintro e v2 ⟨rfl, hv⟩
    cases hv
    gi_wp2_with fail
    refine (callsIn_wide.2 PN.out).mono ?_
    rintro e v2 ⟨rfl, hv⟩
    cases hv
    have k6 := k4.set 0 (.bool true)
    have hB2 : Below w.heap.size w (v1.setCell ⟨b4, 0, none⟩ (.bool true)) := Below.setCell (p := ⟨b4, 0, none⟩) hB hb4 (.bool true)
    have nD : D ≠ b4 := fun e => by
      rw [e] at hK
      unfold Bk at k4
      rw [k4] at hK
      cases hK
    have hK2 : (v1.setCell ⟨b4, 0, none⟩ (.bool true)).heap[D]? = some (.deferred (some [])) := (Below.heap_setCell _ _ _ _ nD).trans hK
    clear hB hK
    gi_wp2
    clear y4 f4 k4
    generalize v1.setCell ⟨b4, 0, none⟩ (.bool true) = X0 at *
    refine ⟨by simp, .inl ⟨_, _, rfl, run_takeDeferred hK2, ?_⟩⟩
    have gp := grownBy_putObj' X0 D (.deferred none)
    have k7 : Bk (X0.putObj D (.deferred none)) b4 4 [.bool true] := (gp.block b4 k6.lt (fun e => nD (by cases e; rfl))).trans k6
    have q0 := k7.one
    exact ⟨.bool true, by simp [results, Try.results24, go_sem, q0], rfl, hB2.trans (belowK_b (w := w) (Nat.le_refl _) X0 D _ (.deferred none) hDw hK2 rfl rfl)⟩
theorem nothing_any (v : Value) (kd id a b c d px py qx qy nn : Int) (w : World) (h : NoTree w v) :
    Calls Try.prog 24 #[v, stV kd id a b c d px py qx qy nn] w fun e w' => e = .returned (.bool true) ∧ Below w.heap.size w w' :=
  callsIn_wide.1 (nothing_in 20 (by omega) v kd id a b c d px py qx qy nn w h)
theorem nil_walk (kd id a b c d px py qx qy nn : Int) (w : World) :
    Calls Try.prog 6 #[stV kd id a b c d px py qx qy nn] w fun e w' => e = .returned (.bool true) ∧ Below w.heap.size w w' := by
  have k3 := Bk.new w 38 (stL kd id a b c d px py qx qy nn)
  have g0 := (Gr.refl w).alloc (.cells (stL kd id a b c d px py qx qy nn).toArray 38)
  have N1 := hid0 (nothing_any (.pointer none) kd id a b c d px py qx qy nn (w.alloc (.cells (stL kd id a b c d px py qx qy nn).toArray 38)) (.inl rfl))
  go_enter Try.func6, Try.ntmps6
  go_upto_region 2 with fail
  generalize w.alloc (.cells (stL kd id a b c d px py qx qy nn).toArray 38) = W at *
  obtain ⟨b3, e3⟩ : ∃ b3, b3 = w.heap.size := ⟨_, rfl⟩
  rw [← e3] at k3 ⊢
  clear e3
  have x0 := k3.at 0
  have x1 := k3.at 1
  have x2 := k3.at 2
  have x3 := k3.at 3
  have x4 := k3.at 4
  have x5 := k3.at 5
  have x6 := k3.at 6
  have x7 := k3.at 7
  have x8 := k3.at 8
  have x9 := k3.at 9
  have x10 := k3.at 10
  simp only [List.getElem?_cons_zero, List.getElem?_cons_succ] at x0 x1 x2 x3 x4 x5 x6 x7 x8 x9 x10
  go_wp2_with fail
  refine N1.out.mono ?_
  rintro e w1 ⟨rfl, h1⟩
  replace k3 := k3.mono h1 k3.lt
  have hB : BW w w1 := (show BW w W from g0.below).tr h1
  clear x0 x1 x2 x3 x4 x5 x6 x7 x8 x9 x10 h1 N1 g0
  have g1 := (Gr.refl w1).alloc (.cells #[.bool false, .pointer none, .int .i64 0] 64)
  have kz := Bk.new w1 64 [.bool false, .pointer none, .int .i64 0]
  have N2 := hid0 (nothing_any (.pointer (some ⟨w1.heap.size, 0, none⟩)) kd id a b c d px py qx qy nn (w1.alloc (.cells #[.bool false, .pointer none, .int .i64 0] 64)) (.inr ⟨_, rfl, kz.at 0⟩))
  replace k3 := k3.gr g1
  have x0 := k3.at 0
  have x1 := k3.at 1
  have x2 := k3.at 2
  have x3 := k3.at 3
  have x4 := k3.at 4
  have x5 := k3.at 5
  have x6 := k3.at 6
  have x7 := k3.at 7
  have x8 := k3.at 8
  have x9 := k3.at 9
  have x10 := k3.at 10
  simp only [List.getElem?_cons_zero, List.getElem?_cons_succ] at x0 x1 x2 x3 x4 x5 x6 x7 x8 x9 x10
  go_wp2_with fail
  refine N2.out.mono ?_
  rintro e w2 ⟨rfl, h2⟩
  go_wp2
  go_ret
  exact ⟨rfl, (hB.gr g1).tr h2⟩
end Go.Proofs.Ytpikhdfndnpidaa
