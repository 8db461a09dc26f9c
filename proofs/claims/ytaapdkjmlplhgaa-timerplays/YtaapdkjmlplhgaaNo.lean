/- Dues that are none: nil, or zero ones. -/
import Derived.Test.YtaapdkjmlplhgaaAl
set_option linter.unusedSimpArgs false
set_option linter.unusedVariables false
namespace Go.Proofs.Ytaapdkjmlplhgaa
open Go.RowKit Go.Sort Go.Shelf
attribute [local go_sem] Oper.semAt_some wide_fn
attribute [local simp] wide_fn

def NoDues (w : World) (o : Option Addr) : Prop := o = none ∨ ∃ b, o = some ⟨b, 0, none⟩ ∧ w.cell? ⟨b, 1, none⟩ = some (.pointer none)
theorem NoDues.below {w w' : World} {v : Option Addr} (h : NoDues w v) (g : Below w.heap.size w w') : NoDues w' v := by
  rcases h with h | ⟨b, h1, h2⟩
  · exact .inl h
  · exact .inr ⟨b, h1, below_cell h2 g⟩
theorem NoDues.gr {w w' : World} {v : Option Addr} (h : NoDues w v) (g : Gr w w') : NoDues w' v := h.below g.below
theorem absent_no (v : Option Addr) (w : World) (h : NoDues w v) : Calls Try.prog 31 #[.pointer v] w fun e w' => e = .returned (.bool true) ∧ w' = w := by
  rcases h with rfl | ⟨b, rfl, h⟩
  · go_enter Try.func31, Try.ntmps31
    go_wp2
    go_ret
    exact ⟨rfl, rfl⟩
  · go_enter Try.func31, Try.ntmps31
    go_wp2
    go_ret
    exact ⟨rfl, rfl⟩
theorem len_no (v : Option Addr) (w : World) (h : NoDues w v) : Calls Try.prog 10 #[.pointer v] w fun e w' => e = .returned (.int .i64 0) ∧ w' = w := by
  have I := hid0 (absent_no v w h)
  clear h
  go_enter Try.func10, Try.ntmps10
  go_wp2_with (go_at_call 31; refine I.out.mono ?_; rintro e w1 ⟨rfl, rfl⟩)
  go_ret
  exact ⟨rfl, rfl⟩
theorem sorted_no (v : Option Addr) (w : World) (h : NoDues w v) : Calls Try.prog 35 #[.pointer v] w (SortedR w []) := by
  have I := hid0 (absent_no v w h)
  clear h
  go_enter Try.func35, Try.ntmps35
  go_wp2_with (go_at_call 31; refine I.out.mono ?_; rintro e w1 ⟨rfl, rfl⟩)
  go_ret
  exact ⟨(Gr.refl _).below, .inl ⟨rfl, rfl⟩⟩
theorem cut_no (v : Option Addr) (x y : Int) (w : World) (h : NoDues w v) : Calls Try.prog 22 #[.pointer v, .int .u32 x, .int .u32 y] w fun e w' => e = .returned (.bool false) ∧ w' = w := by
  have I := hid0 (absent_no v w h)
  clear h
  go_enter Try.func22, Try.ntmps22
  go_wp2_with (go_at_call 31; refine I.out.mono ?_; rintro e w1 ⟨rfl, rfl⟩)
  go_ret
  exact ⟨rfl, rfl⟩
theorem set_no (v : Option Addr) (x : Du) (w : World) (h : NoDues w v) : Calls Try.prog 12 #[.pointer v, dV x] w fun e w' => e = .returned (.int .i64 1) ∧ Gr w w' := by
  have g := (Gr.refl w).alloc (.cells #[.int .u32 x.1, .int .u32 x.2.1, .int .u32 x.2.2] 32)
  have I := hid0 (absent_no v _ (h.gr g))
  have g := hid0 g
  clear h
  go_enter Try.func12, Try.ntmps12
  go_wp2_with (go_at_call 31; refine I.out.mono ?_; rintro e w1 ⟨rfl, rfl⟩)
  go_ret
  exact ⟨rfl, g.out⟩
theorem first_no (v : Option Addr) (w : World) (h : NoDues w v) : Calls Try.prog 26 #[.pointer v] w fun e w' => e = .returned (.tuple #[dV (0, 0, 0), .bool false]) ∧ Gr w w' := by
  have g := (Gr.refl w).alloc (.cells #[.int .u32 0, .int .u32 0, .int .u32 0] 32)
  have I := hid0 (len_no v _ (h.gr g))
  have g := hid0 g
  clear h
  go_enter Try.func26, Try.ntmps26
  go_wp2_with (go_at_call 10; refine I.out.mono ?_; rintro e w1 ⟨rfl, rfl⟩)
  refine bodyPost_ret (v := .tuple #[dV (0, 0, 0), .bool false]) (by simp [results, Try.results26, go_sem]) rfl ⟨rfl, g.out⟩
theorem ready_no (v : Option Addr) (n : Int) (w : World) (h : NoDues w v) : Calls Try.prog 28 #[.pointer v, .int .u32 n] w fun e w' => e = .returned (.bool false) ∧ Gr w w' := by
  have I := hid0 (first_no v _ h)
  clear h
  go_enter Try.func28, Try.ntmps28
  go_wp2_with fail
  refine I.out.mono ?_
  rintro e w1 ⟨rfl, g⟩
  replace g := hid0 g
  clear I
  go_wp2
  go_ret
  exact ⟨rfl, g.out.alloc _⟩
/-- Three cells of a block stored one behind the other. -/
def put3 (w : World) (b i : Nat) (x : Du) : World := ((w.setCell ⟨b, i, none⟩ (.int .u32 x.1)).setCell ⟨b, i + 1, none⟩ (.int .u32 x.2.1)).setCell ⟨b, i + 2, none⟩ (.int .u32 x.2.2)
theorem put3_bk {w : World} {b : Nat} {x y : Du} (k : Bk w b 32 (dL y)) : Bk (put3 w b 0 x) b 32 (dL x) := by
  have := ((k.set 0 (.int .u32 x.1)).set 1 (.int .u32 x.2.1)).set 2 (.int .u32 x.2.2)
  simpa [dL, put3] using this
theorem put3_gr {w W : World} {b i : Nat} {x : Du} (g : Gr W w) (hb : W.heap.size ≤ b) : Gr W (put3 w b i x) :=
  ((g.setCell (p := ⟨b, i, none⟩) hb _).setCell (p := ⟨b, i + 1, none⟩) hb _).setCell (p := ⟨b, i + 2, none⟩) hb _
theorem put3_other {w : World} {b i : Nat} {x : Du} {k : Nat} (h : k ≠ b) : (put3 w b i x).heap[k]? = w.heap[k]? := by
  unfold put3
  rw [Below.heap_setCell _ _ _ _ (by exact h), Below.heap_setCell _ _ _ _ (by exact h), Below.heap_setCell _ _ _ _ (by exact h)]
theorem take_no (v : Option Addr) (n : Int) (w : World) (h : NoDues w v) : Calls Try.prog 14 #[.pointer v, .int .u32 n] w fun e w' => e = .returned (.tuple #[dV (0, 0, 0), .bool false]) ∧ Gr w w' := by
  have g := (Gr.refl w).alloc (.cells #[.int .u32 0, .int .u32 0, .int .u32 0] 32)
  have I := hid0 (ready_no v n _ (h.gr g))
  have k := Bk.new w 32 (dL (0, 0, 0))
  have g := hid0 g
  clear h
  dsimp only [dL] at k
  go_enter Try.func14, Try.ntmps14
  go_upto_region 1 with fail
  generalize w.alloc _ = W at *
  obtain ⟨b, eb⟩ : ∃ b, b = w.heap.size := ⟨_, rfl⟩
  rw [← eb] at k ⊢
  have hb : w.heap.size ≤ b := by omega
  clear eb
  go_wp2_with fail
  refine I.out.mono ?_
  rintro e w1 ⟨rfl, g1⟩
  replace k := k.gr g1
  have f0 := k.frozen 0
  have f1 := k.frozen 1
  have f2 := k.frozen 2
  have q0 := k.at 0
  have q1 := k.at 1
  have q2 := k.at 2
  simp only [List.getElem?_cons_zero, List.getElem?_cons_succ] at q0 q1 q2
  have k2 := hid0 (put3_bk (x := (0, 0, 0)) (y := (0, 0, 0)) k)
  have g2 := hid0 (put3_gr (i := 0) (x := (0, 0, 0)) (g.out.trans g1) hb)
  clear I g1 g k
  go_wp2
  dsimp only [put3, Nat.zero_add] at k2 g2
  generalize World.setCell _ _ _ = X at *
  have k3 := k2.out
  have q0 := k3.at 0
  have q1 := k3.at 1
  have q2 := k3.at 2
  simp only [List.getElem?_cons_zero, List.getElem?_cons_succ] at q0 q1 q2
  refine bodyPost_ret (v := .tuple #[dV (0, 0, 0), .bool false]) (by simp [results, Try.results14, go_sem, q0, q1, q2]) rfl ⟨rfl, g2.out⟩

/-- w is W but for what lies behind it. -/
def BW (W w : World) : Prop := Below W.heap.size W w
theorem BW.refl (W : World) : BW W W := (Gr.refl W).below
theorem BW.tr {W a b : World} (h : BW W a) (k : Below a.heap.size a b) : BW W b := h.trans (k.mono h.size)
theorem BW.gr {W a b : World} (h : BW W a) (k : Gr a b) : BW W b := h.tr k.below
theorem run_eqf_in (d gf : Nat) (lb : Array Value) (w : World) : (Op.equalIn (d + 1) 48 (.func (.func gf) #[] lb) .nilFunc).run Try.prog w = .ok false w := by
  simp [Op.equalIn, run_underlying Try.underlying48]
theorem run_eqf (gf : Nat) (lb : Array Value) (w : World) : (binOp .eql 48 (.func (.func gf) #[] lb) .nilFunc).run Try.prog w = .ok (.bool false) w := by
  have h : (Op.equal 48 (.func (.func gf) #[] lb) .nilFunc).run Try.prog w = .ok false w := run_eqf_in 9999 gf lb w
  simp [binOp, h]
theorem nil_owes (n : Nat) (w : World) (tm : Array Value) (ps : Array Tmp) (assign body : Code) (p0 : Nat → Prop) (hps : 1 = ps.size)
    (hA : ∀ (l : Nat) (x : Du) (W : World) (K : Act → World → Prop), (∀ a' W', Gr W W' → K a' W') → assign.wpIn (Fence.wide.inRound l) n Try.prog (Exit.then K (fun _ _ _ => False)) { tmps := (ps.zip (dE x)).foldl (fun t (q, v) => t.setIfInBounds q v) tm, defers := [] } W) :
    Owes n w tm ps assign body dE [] p0 (fun _ _ A => Below w.heap.size w A) (fun _ _ _ => False) (fun _ _ _ => True) := by
  refine ⟨⟨fun p s A A' row h hg hr => h.grown hg h.size (fun r e => (hr r e).1), fun _ _ _ _ h _ => h, fun _ _ _ _ h _ => h⟩, fun c s A A' row h _ _ => h, fun x a' s A A' row _ _ _ => trivial, fun _ => hps, ?_, ?_⟩
  · intro l p pre x W K hp hpb hI hs hK
    exact hA l x W K fun a' W' g => hK a' W' (g.from _) (Kp.gr hpb g) (hI.trans (g.below.mono hs)) trivial
  · intro l p pre x a' W _ _ _ _ _ _ hpre
    obtain ⟨t, ht⟩ := hpre
    simp at ht
set_option maxRecDepth 100000 in
set_option maxHeartbeats 8000000 in
theorem cutAll_no_in (n : Nat) (hn : 12 ≤ n) (v : Option Addr) (c fb : Nat) (w : World) (h : NoDues w v) :
    CallsIn Fence.wide n Try.prog 38 #[.pointer v, .func (.func c) #[] #[.pointer (some ⟨fb, 0, none⟩)]] w fun e w' => e = .returned (.int .i64 0) ∧ Below w.heap.size w w' := by
  have g0 := ((Gr.refl w).alloc (.cells #[.pointer v] 23)).alloc (.cells #[.func (.func c) #[] #[.pointer (some ⟨fb, 0, none⟩)]] 55)
  have g1 := g0.alloc (.cells #[.int .i64 0] 3)
  have k5 := Bk.new ((w.alloc (.cells #[.pointer v] 23)).alloc (.cells #[.func (.func c) #[] #[.pointer (some ⟨fb, 0, none⟩)]] 55)) 3 [.int .i64 0]
  rw [World.size_alloc, World.size_alloc] at k5
  have hN := hid0 (h.gr g1)
  have C1 := hid0 (all_any v (((w.alloc (.cells #[.pointer v] 23)).alloc (.cells #[.func (.func c) #[] #[.pointer (some ⟨fb, 0, none⟩)]] 55)).alloc (.cells #[.int .i64 0] 3)))
  refine callsIn_of_wp_marks Try.func38 rfl trivial ?_ rfl
  simp only [Try.ntmps38, List.size_toArray, List.length_cons, List.length_nil, Nat.reduceAdd, Nat.reduceSub, Array.replicate_succ, Array.replicate_zero, List.push_toArray, List.append_toArray, List.nil_append, List.cons_append]
  have h1n : 1 ≤ n := by omega
  gi_wp2_with fail
  refine (callsIn_wide.2 C1.out).mono ?_
  rintro e w2 ⟨bt, rfl, hbt, kt, g3⟩
  replace k5 := k5.gr g3
  replace g1 := g1.trans g3
  replace hN := hN.out.gr g3
  clear g3 C1 g0 h
  dsimp only
  obtain ⟨b5, e5⟩ : ∃ b5, b5 = w.heap.size + 1 + 1 := ⟨_, rfl⟩
  rw [← e5] at k5 ⊢
  clear e5
  have SQ := all1_seq (n - 1) bt (by omega) (.pointer v) [] (by simp) w2 kt (fun _ => False) (fun W g => sorted_no v W (hN.gr g))
  have e34 : ∀ args w, (callFunc 34 args).run Try.prog w = .ok (.enter 34 args) w := enters_of Try.func34 (by kernel_rfl) rfl
  gi_wp2_with fail
  refine range_out (p0 := fun _ => False) (L := []) (encs := dE) (I := fun _ _ A => Below w2.heap.size w2 A) (Ix := fun _ _ _ => False) (Ax := fun _ _ _ => True) rfl e34 SQ (nil_owes _ _ _ _ _ _ _ rfl ?hA) (fun _ => False) (fun _ h => h) (fun _ h => h.elim) (BW.refl w2) ?done ?stop
  case hA =>
    intro l x W K hK
    obtain ⟨xa, xo, xf⟩ := x
    dsimp only [dE, dV]
    gi_wp2
    exact (Gr.refl _).alloc _
  case stop =>
    rintro D c pre A hD hpre hx hK
    exact hx.elim
  case done =>
    rintro D q A hD hI hq hK
    replace k5 := k5.mono hI k5.lt
    have hB : BW w A := (show BW w w2 from g1.below).tr hI
    have hDw : w.heap.size ≤ D := Nat.le_trans g1.size hD
    clear hI SQ g1 kt hq hD e34
    have q5 := k5.one
    gi_wp2
    refine ⟨by simp, .inl ⟨_, _, rfl, run_takeDeferred hK, ?_⟩⟩
    exact ⟨.int .i64 0, by simp [results, Try.results38, go_sem], rfl, hB.trans (belowK_b (w := w) (Nat.le_refl _) A D _ (.deferred none) hDw hK rfl rfl)⟩
theorem cutAll_no (v : Option Addr) (c fb : Nat) (w : World) (h : NoDues w v) :
    Calls Try.prog 38 #[.pointer v, .func (.func c) #[] #[.pointer (some ⟨fb, 0, none⟩)]] w fun e w' => e = .returned (.int .i64 0) ∧ Below w.heap.size w w' :=
  callsIn_wide.1 (cutAll_no_in 20 (by omega) v c fb w h)
theorem cutOb_no (v : Option Addr) (x : Int) (w : World) (h : NoDues w v) : Calls Try.prog 24 #[.pointer v, .int .u32 x] w fun e w' => e = .returned (.int .i64 0) ∧ Below w.heap.size w w' := by
  have g0 := (Gr.refl w).alloc (.cells #[.int .u32 x] 30)
  have I := hid0 (cutAll_no v 39 w.heap.size _ (h.gr g0))
  have g0 := hid0 (show BW w _ from g0.below)
  clear h
  go_enter Try.func24, Try.ntmps24
  go_wp2_with fail
  refine I.out.mono ?_
  rintro e w1 ⟨rfl, g⟩
  replace g := hid0 (g0.out.tr g)
  clear I g0
  go_wp2
  go_ret
  exact ⟨rfl, g.out⟩
theorem cutFe_no (v : Option Addr) (x : Int) (w : World) (h : NoDues w v) : Calls Try.prog 25 #[.pointer v, .int .u32 x] w fun e w' => e = .returned (.int .i64 0) ∧ Below w.heap.size w w' := by
  have g0 := (Gr.refl w).alloc (.cells #[.int .u32 x] 30)
  have I := hid0 (cutAll_no v 40 w.heap.size _ (h.gr g0))
  have g0 := hid0 (show BW w _ from g0.below)
  clear h
  go_enter Try.func25, Try.ntmps25
  go_wp2_with fail
  refine I.out.mono ?_
  rintro e w1 ⟨rfl, g⟩
  replace g := hid0 (g0.out.tr g)
  clear I g0
  go_wp2
  go_ret
  exact ⟨rfl, g.out⟩
end Go.Proofs.Ytaapdkjmlplhgaa
