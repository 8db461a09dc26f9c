/- The law's empty: a nil Ring and a zero one answer as none. -/
import Derived.Test.YtodlhclaboofiaaQm
import Derived.Test.YtodlhclaboofiaaWk
set_option linter.unusedSimpArgs false
set_option linter.unusedVariables false
namespace Go.Proofs.Ytodlhclaboofiaa
open Go.RowKit Go.Sort Go.Shelf
attribute [local go_sem] Oper.semAt_some wide_fn
attribute [local simp] wide_fn

/-- w is W but for what lies behind it. -/
def BW (W w : World) : Prop := Below W.heap.size W w
theorem BW.refl (W : World) : BW W W := (Gr.refl W).below
theorem BW.tr {W a b : World} (h : BW W a) (k : Below a.heap.size a b) : BW W b := h.trans (k.mono h.size)
theorem BW.gr {W a b : World} (h : BW W a) (k : Gr a b) : BW W b := h.tr k.below
theorem run_eqf_in (d gf : Nat) (lb : Array Value) (w : World) : (Op.equalIn (d + 1) 50 (.func (.func gf) #[] lb) .nilFunc).run Try.prog w = .ok false w := by
  simp [Op.equalIn, run_underlying Try.underlying50]
theorem run_eqf (gf : Nat) (lb : Array Value) (w : World) : (binOp .eql 50 (.func (.func gf) #[] lb) .nilFunc).run Try.prog w = .ok (.bool false) w := by
  have h : (Op.equal 50 (.func (.func gf) #[] lb) .nilFunc).run Try.prog w = .ok false w := run_eqf_in 9999 gf lb w
  simp [binOp, h]
theorem nil_owes (n : Nat) (w : World) (tm : Array Value) (ps : Array Tmp) (body : Code) (p0 : Nat → Prop) (hps : 2 = ps.size) : Owes n w tm ps .skip body sEnc (idx []) p0 (fun _ _ A => Below w.heap.size w A) (fun _ _ _ => False) (fun _ _ _ => True) := by
  refine ⟨⟨fun p s A A' row h hg hr => h.grown hg h.size (fun r e => (hr r e).1), fun _ _ _ _ h _ => h, fun _ _ _ _ h _ => h⟩, fun c s A A' row h _ _ => h, fun x a' s A A' row _ _ _ => trivial, fun _ => hps, ?_, ?_⟩
  · intro l p pre x W K hp hpb hI hs hK
    gi_wp2
    exact hK _ _ (KeepsFrom.refl _ _) (Kp.refl _) hI trivial
  · intro l p pre x a' W _ _ _ _ _ _ hpre
    obtain ⟨t, ht⟩ := hpre
    simp [idx] at ht
abbrev stL (kd on vv i : Int) : List Value := [.int .i64 kd, .int .i64 on, .int .i64 vv, .int .i64 i]
abbrev stV (kd on vv i : Int) : Value := .agg #[.int .i64 kd, .int .i64 on, .int .i64 vv, .int .i64 i]
set_option maxRecDepth 100000 in
set_option maxHeartbeats 8000000 in
theorem empty_in (n : Nat) (hn : 12 ≤ n) (v : Value) (kd on vv i : Int) (w : World) (h : NoRing w v) :
    CallsIn Fence.wide n Try.prog 11 #[v, stV kd on vv i] w fun e w' => e = .returned (.bool true) ∧ Below w.heap.size w w' := by
  obtain ⟨o, ho⟩ : ∃ o, v = .pointer o := by rcases h with rfl | ⟨b, rfl, _⟩ <;> exact ⟨_, rfl⟩
  subst ho
  have k3 := (Bk.new w 34 (stL kd on vv i)).alloc (.cells #[.bool false] 4)
  have k4 := Bk.new (w.alloc (.cells (stL kd on vv i).toArray 34)) 4 [.bool false]
  have g0 := ((Gr.refl w).alloc (.cells (stL kd on vv i).toArray 34)).alloc (.cells #[.bool false] 4)
  rw [World.size_alloc] at k4
  have hN := hid0 (h.gr g0)
  clear h
  refine callsIn_of_wp_marks Try.func11 rfl trivial ?_ rfl
  simp only [Try.ntmps11, List.size_toArray, List.length_cons, List.length_nil, Nat.reduceAdd, Nat.reduceSub, Array.replicate_succ, Array.replicate_zero, List.push_toArray, List.append_toArray, List.nil_append, List.cons_append]
  have h1n : 1 ≤ n := by omega
  have x3 := k3.at 3
  simp only [List.getElem?_cons_zero, List.getElem?_cons_succ] at x3
  have C1 := hid0 (pop_no (.pointer o) _ hN.out)
  have C2 := hid0 (at_no (.pointer o) i _ hN.out)
  have C3 := hid0 (cut_no (.pointer o) i _ hN.out)
  have C4 := hid0 (all_no (.pointer o) _ hN.out)
  gi_wp2_with fail
  refine (callsIn_wide.2 C1.out).mono ?_
  rintro e v2 ⟨rfl, hv⟩
  cases hv
  gi_wp2_with fail
  refine (callsIn_wide.2 C2.out).mono ?_
  rintro e v2 ⟨rfl, hv⟩
  cases hv
  gi_wp2_with fail
  refine (callsIn_wide.2 C3.out).mono ?_
  rintro e v2 ⟨rfl, hv⟩
  cases hv
  gi_wp2_with fail
  refine (callsIn_wide.2 C4.out).mono ?_
  rintro e w2 ⟨bt, bN, rfl, kt, kN, g3⟩
  clear C1 C2 C3 C4 x3
  replace k3 := k3.gr g3
  replace k4 := k4.gr g3
  replace g0 := g0.trans g3
  replace hN := hid0 (hN.out.gr g3)
  clear g3
  obtain ⟨b4, e4⟩ : ∃ b4, b4 = w.heap.size + 1 := ⟨_, rfl⟩
  obtain ⟨b3, e3⟩ : ∃ b3, b3 = w.heap.size := ⟨_, rfl⟩
  rw [← e4] at k4 ⊢
  rw [← e3] at k3 ⊢
  have hb4 : w.heap.size ≤ b4 := by omega
  clear e3 e4
  have hE := run_eqf 36
  have SQ := s_all1_seq (n - 1) bt bN [] (by simp) w2 ⟨kt, kN⟩
  have e36 : ∀ args w, (callFunc 36 args).run Try.prog w = .ok (.enter 36 args) w := enters_of Try.func36 (by kernel_rfl) rfl
  dsimp only
  gi_wp2_with fail
  refine range_out (p0 := tw bt bN) (L := idx []) (encs := sEnc) (I := fun _ _ A => Below w2.heap.size w2 A) (Ix := fun _ _ _ => False) (Ax := fun _ _ _ => True) rfl e36 SQ (nil_owes _ _ _ _ _ _ rfl) (tw bt bN) (fun _ h => h) (by rintro b (rfl | rfl); exact kt.lt; exact kN.lt) (BW.refl w2) ?done ?stop
  case stop =>
    rintro D c pre A hD hpre hx hK
    exact hx.elim
  case done =>
    rintro D q A hD hI hq hK
    replace k3 := k3.mono hI k3.lt
    replace k4 := k4.mono hI k4.lt
    have hB : BW w A := (show BW w w2 from g0.below).tr hI
    replace hN := hid0 (hN.out.below hI)
    have hDw : w.heap.size ≤ D := Nat.le_trans g0.size hD
    clear hI SQ g0 kt kN hq hD hE e36
    have x2 := k3.at 2
    have x3 := k3.at 3
    simp only [List.getElem?_cons_zero, List.getElem?_cons_succ] at x2 x3
    have f4 := k4.frozen 0
    have y4 := k4.one
    have C1 := hid0 (push_no (.pointer o) ⟨#[120]⟩ _ hN.out)
    have C2 := hid0 (mark_no (.pointer o) i vv _ hN.out)
    have C3 := hid0 (set_no (.pointer o) i ⟨#[120]⟩ _ hN.out)
    have C4 := hid0 (drop_no (.pointer o) i _ hN.out)
    have C5 := hid0 (len_no (.pointer o) _ hN.out)
    have C6 := hid0 (free_no (.pointer o) _ hN.out)
    have C7 := hid0 (most_no (.pointer o) _ hN.out)
    have C8 := hid0 (peak_no (.pointer o) _ hN.out)
    have C9 := hid0 (refused_no (.pointer o) _ hN.out)
    have C0 := hid0 (pressed_no (.pointer o) _ hN.out)
    gi_wp2_with fail
    refine (callsIn_wide.2 C1.out).mono ?_
    rintro e v2 ⟨rfl, hv⟩
    cases hv
    gi_wp2_with fail
    refine (callsIn_wide.2 C2.out).mono ?_
    rintro e v2 ⟨rfl, hv⟩
    cases hv
    gi_wp2_with fail
    refine (callsIn_wide.2 C3.out).mono ?_
    rintro e v2 ⟨rfl, hv⟩
    cases hv
    gi_wp2_with fail
    refine (callsIn_wide.2 C4.out).mono ?_
    rintro e v2 ⟨rfl, hv⟩
    cases hv
    gi_wp2_with fail
    refine (callsIn_wide.2 C5.out).mono ?_
    rintro e v2 ⟨rfl, hv⟩
    cases hv
    gi_wp2_with fail
    refine (callsIn_wide.2 C6.out).mono ?_
    rintro e v2 ⟨rfl, hv⟩
    cases hv
    gi_wp2_with fail
    refine (callsIn_wide.2 C7.out).mono ?_
    rintro e v2 ⟨rfl, hv⟩
    cases hv
    gi_wp2_with fail
    refine (callsIn_wide.2 C8.out).mono ?_
    rintro e v2 ⟨rfl, hv⟩
    cases hv
    gi_wp2_with fail
    refine (callsIn_wide.2 C9.out).mono ?_
    rintro e v2 ⟨rfl, hv⟩
    cases hv
    gi_wp2_with fail
    refine (callsIn_wide.2 C0.out).mono ?_
    rintro e v2 ⟨rfl, hv⟩
    cases hv
    clear C1 C2 C3 C4 C5 C6 C7 C8 C9 C0
    have k6 := k4.set 0 (.bool true)
    have hB2 : Below w.heap.size w (A.setCell ⟨b4, 0, none⟩ (.bool true)) := Below.setCell (p := ⟨b4, 0, none⟩) hB hb4 (.bool true)
    have nD : D ≠ b4 := fun e => by
      rw [e] at hK
      unfold Bk at k4
      rw [k4] at hK
      cases hK
    have hK2 : (A.setCell ⟨b4, 0, none⟩ (.bool true)).heap[D]? = some (.deferred (some [])) := (Below.heap_setCell _ _ _ _ nD).trans hK
    clear hB hK
    gi_wp2
    clear y4 f4 k4
    generalize A.setCell ⟨b4, 0, none⟩ (.bool true) = X0 at *
    refine ⟨by simp, .inl ⟨_, _, rfl, run_takeDeferred hK2, ?_⟩⟩
    have gp := grownBy_putObj' X0 D (.deferred none)
    have k7 : Bk (X0.putObj D (.deferred none)) b4 4 [.bool true] := (gp.block b4 k6.lt (fun e => nD (by cases e; rfl))).trans k6
    have q0 := k7.one
    exact ⟨.bool true, by simp [results, Try.results11, go_sem, q0], rfl, hB2.trans (belowK_b (w := w) (Nat.le_refl _) X0 D _ (.deferred none) hDw hK2 rfl rfl)⟩
theorem empty_any (v : Value) (kd on vv i : Int) (w : World) (h : NoRing w v) :
    Calls Try.prog 11 #[v, stV kd on vv i] w fun e w' => e = .returned (.bool true) ∧ Below w.heap.size w w' :=
  callsIn_wide.1 (empty_in 20 (by omega) v kd on vv i w h)
theorem nil_walk (kd on vv i : Int) (w : World) :
    Calls Try.prog 4 #[stV kd on vv i] w fun e w' => e = .returned (.bool true) ∧ Below w.heap.size w w' := by
  have k3 := Bk.new w 34 (stL kd on vv i)
  have g0 := (Gr.refl w).alloc (.cells (stL kd on vv i).toArray 34)
  have N1 := hid0 (empty_any (.pointer none) kd on vv i (w.alloc (.cells (stL kd on vv i).toArray 34)) (.inl rfl))
  have WK := hid0 works_any
  go_enter Try.func4, Try.ntmps4
  go_upto_region 2 with fail
  generalize w.alloc (.cells (stL kd on vv i).toArray 34) = W at *
  obtain ⟨b3, e3⟩ : ∃ b3, b3 = w.heap.size := ⟨_, rfl⟩
  rw [← e3] at k3 ⊢
  clear e3
  have x0 := k3.at 0
  have x1 := k3.at 1
  have x2 := k3.at 2
  have x3 := k3.at 3
  simp only [List.getElem?_cons_zero, List.getElem?_cons_succ] at x0 x1 x2 x3
  go_wp2_with fail
  refine N1.out.mono ?_
  rintro e w1 ⟨rfl, h1⟩
  replace k3 := k3.mono h1 k3.lt
  have hB : BW w w1 := (show BW w W from g0.below).tr h1
  clear x0 x1 x2 x3 h1 N1 g0
  have zl : List Value := [.slice none 0 0, .int .i64 0, .int .i64 0, .int .i64 0, .int .i64 0, .bool false, .int .i64 0, .int .i64 0]
  have g1 := (Gr.refl w1).alloc (.cells #[.slice none 0 0, .int .i64 0, .int .i64 0, .int .i64 0, .int .i64 0, .bool false, .int .i64 0, .int .i64 0] 39)
  have kz := Bk.new w1 39 [.slice none 0 0, .int .i64 0, .int .i64 0, .int .i64 0, .int .i64 0, .bool false, .int .i64 0, .int .i64 0]
  have N2 := hid0 (empty_any (.pointer (some ⟨w1.heap.size, 0, none⟩)) kd on vv i (w1.alloc (.cells #[.slice none 0 0, .int .i64 0, .int .i64 0, .int .i64 0, .int .i64 0, .bool false, .int .i64 0, .int .i64 0] 39)) (.inr ⟨_, rfl, kz.at 0⟩))
  replace k3 := k3.gr g1
  have x0 := k3.at 0
  have x1 := k3.at 1
  have x2 := k3.at 2
  have x3 := k3.at 3
  simp only [List.getElem?_cons_zero, List.getElem?_cons_succ] at x0 x1 x2 x3
  go_wp2_with fail
  refine N2.out.mono ?_
  rintro e w2 ⟨rfl, h2⟩
  have hB2 := (hB.gr g1).tr h2
  clear x0 x1 x2 x3 N2 g1 kz h2 hB k3
  go_wp2_with fail
  refine (WK.out _).mono ?_
  rintro e w3 ⟨rfl, h3⟩
  go_wp2
  go_ret
  exact ⟨rfl, hB2.tr h3⟩
end Go.Proofs.Ytodlhclaboofiaa
