/- The law's nothing, and TimerNil's walk. -/
import Derived.Test.YtaapdkjmlplhgaaNo
import Derived.Test.YtaapdkjmlplhgaaEq
set_option linter.unusedSimpArgs false
set_option linter.unusedVariables false
namespace Go.Proofs.Ytaapdkjmlplhgaa
open Go.RowKit Go.Sort Go.Shelf
attribute [local go_sem] Oper.semAt_some wide_fn
attribute [local simp] wide_fn

set_option maxRecDepth 100000 in
set_option maxHeartbeats 8000000 in
theorem nothing_in (n : Nat) (hn : 12 ≤ n) (v : Option Addr) (x : Du) (w : World) (h : NoDues w v) :
    CallsIn Fence.wide n Try.prog 18 #[.pointer v, dV x] w fun e w' => e = .returned (.bool true) ∧ Below w.heap.size w w' := by
  obtain ⟨xa, xo, xf⟩ := x
  have k3 := (Bk.new w 32 (dL (xa, xo, xf))).alloc (.cells #[.bool false] 4)
  have k4 := Bk.new (w.alloc (.cells (dL (xa, xo, xf)).toArray 32)) 4 [.bool false]
  have g0 := ((Gr.refl w).alloc (.cells (dL (xa, xo, xf)).toArray 32)).alloc (.cells #[.bool false] 4)
  rw [World.size_alloc] at k4
  dsimp only [dL] at k3 k4 g0
  have hN := hid0 (h.gr g0)
  clear h
  refine callsIn_of_wp_marks Try.func18 rfl trivial ?_ rfl
  simp only [Try.ntmps18, List.size_toArray, List.length_cons, List.length_nil, Nat.reduceAdd, Nat.reduceSub, Array.replicate_succ, Array.replicate_zero, List.push_toArray, List.append_toArray, List.nil_append, List.cons_append]
  have h1n : 1 ≤ n := by omega
  have C1 := hid0 (first_no v _ hN.out)
  gi_wp2_with fail
  refine (callsIn_wide.2 C1.out).mono ?_
  rintro e w1 ⟨rfl, g1⟩
  clear C1
  replace k3 := (k3.gr g1).alloc (.cells #[.int .u32 0, .int .u32 0, .int .u32 0] 32)
  replace k4 := (k4.gr g1).alloc (.cells #[.int .u32 0, .int .u32 0, .int .u32 0] 32)
  have k5 := Bk.new w1 32 [.int .u32 0, .int .u32 0, .int .u32 0]
  replace g0 := (g0.trans g1).alloc (.cells #[.int .u32 0, .int .u32 0, .int .u32 0] 32)
  replace hN := hid0 (hN.out.gr (g1.alloc (.cells #[.int .u32 0, .int .u32 0, .int .u32 0] 32)))
  obtain ⟨b5, e5⟩ : ∃ b5, b5 = w1.heap.size := ⟨_, rfl⟩
  obtain ⟨b4, e4⟩ : ∃ b4, b4 = w.heap.size + 1 := ⟨_, rfl⟩
  obtain ⟨b3, e3⟩ : ∃ b3, b3 = w.heap.size := ⟨_, rfl⟩
  have hb4 : w.heap.size ≤ b4 := by omega
  rw [← e4] at k4 ⊢
  rw [← e3] at k3 ⊢
  have x0 := k3.at 0
  simp only [List.getElem?_cons_zero, List.getElem?_cons_succ] at x0
  have C2 := hid0 (take_no v xa _ hN.out)
  clear g1 e3 e4
  gi_wp2_with fail
  refine (callsIn_wide.2 C2.out).mono ?_
  rintro e w2 ⟨rfl, g2⟩
  rw [← e5] at k5 ⊢
  clear C2 x0 e5
  replace k3 := (k3.gr g2).alloc (.cells #[.int .u32 0, .int .u32 0, .int .u32 0] 32)
  replace k4 := (k4.gr g2).alloc (.cells #[.int .u32 0, .int .u32 0, .int .u32 0] 32)
  replace k5 := (k5.gr g2).alloc (.cells #[.int .u32 0, .int .u32 0, .int .u32 0] 32)
  have k7 := Bk.new w2 32 [.int .u32 0, .int .u32 0, .int .u32 0]
  replace g0 := (g0.trans g2).alloc (.cells #[.int .u32 0, .int .u32 0, .int .u32 0] 32)
  replace hN := hid0 (hN.out.gr (g2.alloc (.cells #[.int .u32 0, .int .u32 0, .int .u32 0] 32)))
  have C4 := hid0 (all_any v (w2.alloc (.cells #[.int .u32 0, .int .u32 0, .int .u32 0] 32)))
  obtain ⟨b7, e7⟩ : ∃ b7, b7 = w2.heap.size := ⟨_, rfl⟩
  clear g2
  gi_wp2_with fail
  refine (callsIn_wide.2 C4.out).mono ?_
  rintro e w3 ⟨bt, rfl, hbt, kt, g3⟩
  rw [← e7] at k7 ⊢
  replace k3 := k3.gr g3
  replace k4 := k4.gr g3
  replace k5 := k5.gr g3
  replace k7 := k7.gr g3
  replace g0 := g0.trans g3
  replace hN := hid0 (hN.out.gr g3)
  clear C4 g3 e7 hbt
  have hE := run_eqf 34
  have SQ := all1_seq (n - 1) bt (by omega) (.pointer v) [] (by simp) w3 kt (fun _ => False) (fun W g => sorted_no v W (hN.out.gr g))
  have e34 : ∀ args w, (callFunc 34 args).run Try.prog w = .ok (.enter 34 args) w := enters_of Try.func34 (by kernel_rfl) rfl
  dsimp only
  gi_wp2_with fail
  refine range_out (p0 := fun _ => False) (L := []) (encs := dE) (I := fun _ _ A => Below w3.heap.size w3 A) (Ix := fun _ _ _ => False) (Ax := fun _ _ _ => True) rfl e34 SQ (nil_owes _ _ _ _ _ _ _ rfl ?hA) (fun _ => False) (fun _ h => h) (fun _ h => h.elim) (BW.refl w3) ?done ?stop
  case hA =>
    intro l x W K hK
    gi_wp2
    exact Gr.refl _
  case stop =>
    rintro D c pre A hD hpre hx hK
    exact hx.elim
  case done =>
    rintro D q A hD hI hq hK
    replace k3 := k3.mono hI k3.lt
    replace k4 := k4.mono hI k4.lt
    replace k5 := k5.mono hI k5.lt
    replace k7 := k7.mono hI k7.lt
    have hB : BW w A := (show BW w w3 from g0.below).tr hI
    replace hN := hid0 (hN.out.below hI)
    have hDw : w.heap.size ≤ D := Nat.le_trans g0.size hD
    clear hI SQ g0 kt hq hD hE e34
    have KD : Hid (∀ W', Below A.heap.size A W' → W'.heap[D]? = some (.deferred (some []))) := fun W' g => (g.block D (lt_of_block hK)).trans hK
    clear hK
    have x0 := k3.at 0
    have x1 := k3.at 1
    have x2 := k3.at 2
    simp only [List.getElem?_cons_zero, List.getElem?_cons_succ] at x0 x1 x2
    have C1 := hid0 (set_no v (xa, xo, xf) _ hN.out)
    gi_wp2_with fail
    refine (callsIn_wide.2 C1.out).mono ?_
    rintro e A1 ⟨rfl, g1⟩
    have hA1 : BW A A1 := g1.below
    replace k3 := k3.gr g1
    have x0 := k3.at 0
    have x1 := k3.at 1
    have x2 := k3.at 2
    simp only [List.getElem?_cons_zero, List.getElem?_cons_succ] at x0 x1 x2
    have C2 := hid0 (cut_no v xo xf _ (hN.out.gr g1))
    have C3 := hid0 (cutOb_no v xo _ (hN.out.gr g1))
    clear C1 g1
    gi_wp2_with fail
    refine (callsIn_wide.2 C2.out).mono ?_
    rintro e v2 ⟨rfl, hv⟩
    cases hv
    clear C2
    gi_wp2_with fail
    refine (callsIn_wide.2 C3.out).mono ?_
    rintro e A2 ⟨rfl, g2⟩
    replace k3 := k3.mono g2 k3.lt
    replace hA1 := hA1.tr g2
    have x0 := k3.at 0
    have x1 := k3.at 1
    have x2 := k3.at 2
    simp only [List.getElem?_cons_zero, List.getElem?_cons_succ] at x0 x1 x2
    have C4 := hid0 (cutFe_no v xf _ (hN.out.below hA1))
    clear C3 g2
    gi_wp2_with fail
    refine (callsIn_wide.2 C4.out).mono ?_
    rintro e A3 ⟨rfl, g3⟩
    replace k3 := k3.mono g3 k3.lt
    replace hA1 := hA1.tr g3
    replace k5 := k5.mono hA1 k5.lt
    replace k7 := k7.mono hA1 k7.lt
    replace k4 := k4.mono hA1 k4.lt
    have x0 := k3.at 0
    simp only [List.getElem?_cons_zero, List.getElem?_cons_succ] at x0
    have y0 := k5.at 0
    have y1 := k5.at 1
    have y2 := k5.at 2
    have z0 := k7.at 0
    have z1 := k7.at 1
    have z2 := k7.at 2
    simp only [List.getElem?_cons_zero, List.getElem?_cons_succ] at y0 y1 y2 z0 z1 z2
    have C5 := hid0 (ready_no v xa _ (hN.out.below hA1))
    have eqq := run_eqD (0, 0, 0) (0, 0, 0) A3
    simp only [dV, decide_true] at eqq
    clear C4 g3
    gi_wp2_with fail
    refine (callsIn_wide.2 C5.out).mono ?_
    rintro e A4 ⟨rfl, g4⟩
    replace hA1 := hA1.gr g4
    replace k4 := k4.gr g4
    have C6 := hid0 (len_no v _ (hN.out.below hA1))
    have f4 := k4.frozen 0
    have y4 := k4.one
    have HB2 := hid0 (hB.tr hA1)
    have HK := hid0 (KD.out _ hA1)
    clear C5 g4 x0 y0 y1 y2 z0 z1 z2 eqq k3 k5 k7 hA1 KD hB
    gi_wp2_with fail
    refine (callsIn_wide.2 C6.out).mono ?_
    rintro e v2 ⟨rfl, hv⟩
    cases hv
    clear C6
    have k6 := hid0 (k4.set 0 (.bool true))
    have hB2 : Hid (Below w.heap.size w (A4.setCell ⟨b4, 0, none⟩ (.bool true))) := Below.setCell (p := ⟨b4, 0, none⟩) HB2.out hb4 (.bool true)
    have nD : Hid (D ≠ b4) := fun e => by
      have hK := HK.out
      rw [e] at hK
      unfold Bk at k4
      rw [k4] at hK
      cases hK
    have hK2 : Hid ((A4.setCell ⟨b4, 0, none⟩ (.bool true)).heap[D]? = some (.deferred (some []))) := (Below.heap_setCell _ _ _ _ nD.out).trans HK.out
    clear HB2 HK
    gi_wp2
    clear y4 f4 k4
    generalize A4.setCell ⟨b4, 0, none⟩ (.bool true) = X0 at *
    refine ⟨by simp, .inl ⟨_, _, rfl, run_takeDeferred hK2.out, ?_⟩⟩
    have gp := grownBy_putObj' X0 D (.deferred none)
    have k7 : Bk (X0.putObj D (.deferred none)) b4 4 [.bool true] := (gp.block b4 k6.out.lt (fun e => nD.out (by cases e; rfl))).trans k6.out
    have q0 := k7.one
    exact ⟨.bool true, by simp [results, Try.results18, go_sem, q0], rfl, hB2.out.trans (belowK_b (w := w) (Nat.le_refl _) X0 D _ (.deferred none) hDw hK2.out rfl rfl)⟩
theorem nothing_any (v : Option Addr) (x : Du) (w : World) (h : NoDues w v) :
    Calls Try.prog 18 #[.pointer v, dV x] w fun e w' => e = .returned (.bool true) ∧ Below w.heap.size w w' :=
  callsIn_wide.1 (nothing_in 20 (by omega) v x w h)
theorem nil_walk (x : Du) (w : World) :
    Calls Try.prog 6 #[dV x] w fun e w' => e = .returned (.bool true) ∧ Below w.heap.size w w' := by
  obtain ⟨xa, xo, xf⟩ := x
  have k3 := Bk.new w 32 (dL (xa, xo, xf))
  have g0 := (Gr.refl w).alloc (.cells (dL (xa, xo, xf)).toArray 32)
  dsimp only [dL] at k3 g0
  have N1 := hid0 (nothing_any none (xa, xo, xf) _ (.inl rfl : NoDues (w.alloc (.cells #[.int .u32 xa, .int .u32 xo, .int .u32 xf] 32)) none))
  go_enter Try.func6, Try.ntmps6
  go_upto_region 2 with fail
  generalize w.alloc _ = W at *
  obtain ⟨b3, e3⟩ : ∃ b3, b3 = w.heap.size := ⟨_, rfl⟩
  rw [← e3] at k3 ⊢
  clear e3
  have x0 := k3.at 0
  have x1 := k3.at 1
  have x2 := k3.at 2
  simp only [List.getElem?_cons_zero, List.getElem?_cons_succ] at x0 x1 x2
  go_wp2_with fail
  refine N1.out.mono ?_
  rintro e w1 ⟨rfl, h1⟩
  replace k3 := k3.mono h1 k3.lt
  have hB : BW w w1 := (show BW w W from g0.below).tr h1
  clear x0 x1 x2 h1 N1 g0
  have g1 := (Gr.refl w1).alloc (.cells #[.int .i64 0, .pointer none, .map none] 54)
  have kz := Bk.new w1 54 [.int .i64 0, .pointer none, .map none]
  have N2 := hid0 (nothing_any (some ⟨w1.heap.size, 0, none⟩) (xa, xo, xf) (w1.alloc (.cells #[.int .i64 0, .pointer none, .map none] 54)) (.inr ⟨_, rfl, kz.at 1⟩))
  replace k3 := k3.gr g1
  have x0 := k3.at 0
  have x1 := k3.at 1
  have x2 := k3.at 2
  simp only [List.getElem?_cons_zero, List.getElem?_cons_succ] at x0 x1 x2
  go_wp2_with fail
  refine N2.out.mono ?_
  rintro e w2 ⟨rfl, h2⟩
  have hB2 := hid0 ((hB.gr g1).tr h2)
  clear x0 x1 x2 N2 g1 kz h2 hB k3
  go_wp2
  go_ret
  exact ⟨rfl, hB2.out⟩
end Go.Proofs.Ytaapdkjmlplhgaa
