/- A book that is none: All, and the law's empty. -/
import Derived.Test.YtgdmbcfjjdngdaaDoorNi
import Derived.Test.YtgdmbcfjjdngdaaDoorSq
set_option linter.unusedSimpArgs false
set_option linter.unusedVariables false
namespace Go.Proofs.YtgdmbcfjjdngdaaDoor
open Go.RowKit Go.Sort Go.Shelf
attribute [local go_sem] Oper.semAt_some wide_fn run_store_fl
attribute [local simp] wide_fn

theorem all_nb (v : Option Addr) (w : World) (h : NoBook w (.pointer v)) : Calls Tryd.prog 35 #[.pointer v] w fun e w' => ∃ b, e = .returned (.func (.func 59) #[] #[.pointer (some ⟨b, 0, none⟩)]) ∧ Bk w' b 103 [.slice none 0 0] ∧ Gr w w' := by
  have k0 := Bk.new w 44 [.pointer v]
  have k1 := Bk.new (w.alloc (.cells #[.pointer v] 44)) 103 [.slice none 0 0]
  have g0 := ((Gr.refl w).alloc (.cells #[.pointer v] 44)).alloc (.cells #[.slice none 0 0] 103)
  have k0' := k0.alloc (.cells #[.slice none 0 0] 103)
  rw [World.size_alloc] at k1
  have A := hid0 (absent_nobook (.pointer v) _ (h.gr g0))
  have c0 := k0'.one
  have K1 := hid0 k1
  have G := hid0 g0
  clear h k0 k1 g0 k0'
  go_enter Tryd.func35, Tryd.ntmps35
  go_upto_region 2 with fail
  go_wp2_with (go_at_call 45; refine A.out.mono ?_; rintro e w1 ⟨rfl, hw⟩; cases hw)
  go_ret
  exact ⟨_, rfl, K1.out, G.out⟩
set_option maxRecDepth 100000 in
theorem all1_nb (n b : Nat) (w : World) (k : Bk w b 103 [.slice none 0 0]) : SeqO n 59 #[.pointer (some ⟨b, 0, none⟩)] (fun _ : Unit => #[.pointer none]) [] (fun j => j = b) w := by
  intro l J Jx p W gW hp hpb hJ _ _ h0
  have c0 := (k.gr gW).one
  clear k gW
  refine callsIn_of_wp Tryd.func59 rfl trivial ?_ rfl
  simp only [Tryd.ntmps59, List.size_toArray, List.length_cons, List.length_nil, Nat.reduceAdd, Nat.reduceSub, Array.replicate_succ, Array.replicate_zero, List.push_toArray, List.append_toArray, List.nil_append, List.cons_append]
  have H0 := hid0 h0
  clear h0
  gi_wp2
  gi_loopw [7] (fun v wr => v = .int .i64 0 ∧ wr = W) (fun v _ => 0)
  case atStart => exact ⟨rfl, rfl⟩
  case round =>
    obtain ⟨rfl, rfl⟩ := hrel
    gi_wp2
    go_end0
    exact ⟨⟨_, rfl⟩, .inl ⟨p, H0.out, fun _ h => h⟩⟩
theorem run_eqf_in (d gf : Nat) (lb : Array Value) (w : World) : (Op.equalIn (d + 1) 74 (.func (.func gf) #[] lb) .nilFunc).run Tryd.prog w = .ok false w := by
  simp [Op.equalIn, run_underlying Tryd.underlying74]
theorem run_eqf (gf : Nat) (lb : Array Value) (w : World) : (binOp .eql 74 (.func (.func gf) #[] lb) .nilFunc).run Tryd.prog w = .ok (.bool false) w := by
  have h : (Op.equal 74 (.func (.func gf) #[] lb) .nilFunc).run Tryd.prog w = .ok false w := run_eqf_in 9999 gf lb w
  simp [binOp, h]
theorem nil_owes (n : Nat) (w : World) (tm : Array Value) (ps : Array Tmp) (body : Code) (p0 : Nat → Prop) (hps : 1 = ps.size) : Owes n w tm ps .skip body (fun _ : Unit => #[.pointer none]) [] p0 (fun _ _ A => Below w.heap.size w A) (fun _ _ _ => False) (fun _ _ _ => True) := by
  refine ⟨⟨fun p s A A' row h hg hr => h.grown hg h.size (fun r e => (hr r e).1), fun _ _ _ _ h _ => h, fun _ _ _ _ h _ => h⟩, fun c s A A' row h _ _ => h, fun x a' s A A' row _ _ _ => trivial, fun _ => hps, ?_, ?_⟩
  · intro l p pre x W K hp hpb hI hs hK
    gi_wp2
    exact hK _ _ (KeepsFrom.refl _ _) (Kp.refl _) hI trivial
  · intro l p pre x a' W _ _ _ _ _ _ hpre
    obtain ⟨t, ht⟩ := hpre
    simp at ht
/-- A step. -/
structure Stp where
  kd : Int
  ob : Int
  fe : Int
  nu : Int
  ti : Int
  x : Int
  y : Int
  id : Int
  n2 : Int
  t2 : Int
  x2 : Int
  y2 : Int
  sp : Nat
  a : Option Addr
  n : Nat
  c : Nat
abbrev sL (s : Stp) : List Value := [.int .i64 s.kd, .int .u32 s.ob, .int .u32 s.fe, .int .u32 s.nu, .int .u32 s.ti, .int .i32 s.x, .int .i32 s.y, .int .u32 s.id, .int .u32 s.n2, .int .u32 s.t2, .int .i32 s.x2, .int .i32 s.y2, .float .f64 s.sp, .slice s.a s.n s.c]
abbrev sV (s : Stp) : Value := .agg #[.int .i64 s.kd, .int .u32 s.ob, .int .u32 s.fe, .int .u32 s.nu, .int .u32 s.ti, .int .i32 s.x, .int .i32 s.y, .int .u32 s.id, .int .u32 s.n2, .int .u32 s.t2, .int .i32 s.x2, .int .i32 s.y2, .float .f64 s.sp, .slice s.a s.n s.c]
set_option maxRecDepth 100000 in
set_option maxHeartbeats 8000000 in
theorem empty_in (n : Nat) (hn : 12 ≤ n) (v : Option Addr) (s : Stp) (w : World) (h : NoBook w (.pointer v)) :
    CallsIn Fence.wide n Tryd.prog 17 #[.pointer v, sV s] w fun e w' => e = .returned (.bool true) ∧ Below w.heap.size w w' := by
  have k3 := (Bk.new w 43 (sL s)).alloc (.cells #[.bool false] 4)
  have k4 := Bk.new (w.alloc (.cells (sL s).toArray 43)) 4 [.bool false]
  have g0 := ((Gr.refl w).alloc (.cells (sL s).toArray 43)).alloc (.cells #[.bool false] 4)
  rw [World.size_alloc] at k4
  have hN := hid0 h
  clear h
  refine callsIn_of_wp_marks Tryd.func17 rfl trivial ?_ rfl
  simp only [Tryd.ntmps17, List.size_toArray, List.length_cons, List.length_nil, Nat.reduceAdd, Nat.reduceSub, Array.replicate_succ, Array.replicate_zero, List.push_toArray, List.append_toArray, List.nil_append, List.cons_append]
  have h1n : 1 ≤ n := by omega
  have x1 := k3.at 1
  have x2 := k3.at 2
  have x3 := k3.at 3
  have x4 := k3.at 4
  have x5 := k3.at 5
  have x6 := k3.at 6
  simp only [List.getElem?_cons_zero, List.getElem?_cons_succ] at x1 x2 x3 x4 x5 x6
  have C1 := hid0 (move_nb (.pointer v) s.ob s.nu s.ti s.x s.y _ (hN.out.gr g0))
  gi_wp2_with fail
  refine (callsIn_wide.2 C1.out).mono ?_
  rintro e w1 ⟨rfl, g1⟩
  have g2 := (g0.trans g1).alloc (.cells #[.int .i32 0, .int .i32 0] 24)
  have k3 := (k3.gr g1).alloc (.cells #[.int .i32 0, .int .i32 0] 24)
  have k4 := (k4.gr g1).alloc (.cells #[.int .i32 0, .int .i32 0] 24)
  have C2 := hid0 (enter_nb (.pointer v) s.ob s.fe _ (hN.out.gr g2))
  have C3 := hid0 (leave_nb (.pointer v) s.ob s.fe _ (hN.out.gr g2))
  have C4 := hid0 (get_nb (.pointer v) s.ob _ (hN.out.gr g2))
  clear C1 x1 x2 x3 x4 x5 x6 g0 g1
  have x1 := k3.at 1
  have x2 := k3.at 2
  simp only [List.getElem?_cons_zero, List.getElem?_cons_succ] at x1 x2
  gi_wp2_with fail
  refine (callsIn_wide.2 C2.out).mono ?_
  rintro e v2 ⟨rfl, hv⟩
  cases hv
  gi_wp2_with fail
  refine (callsIn_wide.2 C3.out).mono ?_
  rintro e v2 ⟨rfl, hv⟩
  cases hv
  gi_wp2_with fail
  refine (callsIn_wide.2 C4.out).mono ?_
  rintro e w2 ⟨rfl, g3⟩
  have g4 := (g2.trans g3).alloc (.cells zL.toArray 41)
  have k3 := (k3.gr g3).alloc (.cells zL.toArray 41)
  have k4 := (k4.gr g3).alloc (.cells zL.toArray 41)
  have C5 := hid0 (all_nb v _ (hN.out.gr g4))
  clear C2 C3 C4 x1 x2 g2 g3
  gi_wp2_with fail
  refine (callsIn_wide.2 C5.out).mono ?_
  rintro e w3 ⟨bt, rfl, kt, g5⟩
  have g6 := g4.trans g5
  have k3 := k3.gr g5
  have k4 := k4.gr g5
  clear C5 g4 g5
  obtain ⟨b4, e4⟩ : ∃ b4, b4 = w.heap.size + 1 := ⟨_, rfl⟩
  obtain ⟨b3, e3⟩ : ∃ b3, b3 = w.heap.size := ⟨_, rfl⟩
  rw [← e4] at k4 ⊢
  rw [← e3] at k3 ⊢
  have hb4 : w.heap.size ≤ b4 := by omega
  clear e3 e4
  have hE := run_eqf 59
  have SQ := all1_nb (n - 1) bt w3 kt
  have e36 : ∀ args w, (callFunc 59 args).run Tryd.prog w = .ok (.enter 59 args) w := enters_of Tryd.func59 (by kernel_rfl) rfl
  dsimp only
  gi_wp2_with fail
  refine range_out (p0 := fun j => j = bt) (L := []) (encs := fun _ : Unit => #[.pointer none]) (I := fun _ _ A => Below w3.heap.size w3 A) (Ix := fun _ _ _ => False) (Ax := fun _ _ _ => True) rfl e36 SQ (nil_owes _ _ _ _ _ _ rfl) (fun j => j = bt) (fun _ h => h) (by rintro b rfl; exact kt.lt) (Gr.refl _).below ?done ?stop
  case stop =>
    rintro D c pre A hD hpre hx hK
    exact hx.elim
  case done =>
    rintro D q A hD hI hq hK
    have k3 := k3.mono hI k3.lt
    have k4 := k4.mono hI k4.lt
    have hB : Below w.heap.size w A := g6.below.trans (hI.mono g6.size)
    have hDw : w.heap.size ≤ D := Nat.le_trans g6.size hD
    have hN2 : NoBook A (.pointer v) := by
      rcases hN.out with h | ⟨b, x, y, h, k⟩
      · exact .inl h
      · exact .inr ⟨b, x, y, h, k.mono hB k.lt⟩
    clear hI SQ g6 kt hq hD hE e36
    have x1 := k3.at 1
    have x2 := k3.at 2
    have y7 := k3.at 7
    have y8 := k3.at 8
    have y9 := k3.at 9
    have y10 := k3.at 10
    have y11 := k3.at 11
    have y12 := k3.at 12
    have y13 := k3.at 13
    simp only [List.getElem?_cons_zero, List.getElem?_cons_succ] at x1 x2 y7 y8 y9 y10 y11 y12 y13
    have C1 := hid0 (lay_nb (.pointer v) s.id s.n2 s.t2 s.x2 s.y2 s.sp s.a s.n s.c A hN2)
    gi_wp2_with fail
    refine (callsIn_wide.2 C1.out).mono ?_
    rintro e A1 ⟨rfl, g1⟩
    have hK1 : A1.heap[D]? = some (.deferred (some [])) := (g1.below.block D (lt_of_block hK)).trans hK
    have k3 := k3.gr g1
    have k4 := k4.gr g1
    have hB1 := hB.trans (g1.below.mono hB.size)
    have hN3 := hN2.gr g1
    clear C1 x1 x2 y7 y8 y9 y10 y11 y12 y13 hK hB hN2 g1
    have x1 := k3.at 1
    have x2 := k3.at 2
    simp only [List.getElem?_cons_zero, List.getElem?_cons_succ] at x1 x2
    have C2 := hid0 (add_nb (.pointer v) s.fe A1 hN3)
    have C3 := hid0 (forget_nb (.pointer v) s.ob A1 hN3)
    have C4 := hid0 (drop_nb (.pointer v) s.fe A1 hN3)
    gi_wp2_with fail
    refine (callsIn_wide.2 C2.out).mono ?_
    rintro e v2 ⟨rfl, hv⟩
    cases hv
    gi_wp2_with fail
    refine (callsIn_wide.2 C3.out).mono ?_
    rintro e v2 ⟨rfl, hv⟩
    cases hv
    gi_wp2_with fail
    refine (callsIn_wide.2 C4.out).mono ?_
    rintro e A2 ⟨rfl, g1⟩
    have hK2 : A2.heap[D]? = some (.deferred (some [])) := (g1.below.block D (lt_of_block hK1)).trans hK1
    have k3 := k3.gr g1
    have k4 := k4.gr g1
    have hB2 := hB1.trans (g1.below.mono hB1.size)
    have hN4 := hN3.gr g1
    clear C2 C3 C4 x1 x2 hK1 hB1 hN3 g1
    have x1 := k3.at 1
    have x2 := k3.at 2
    simp only [List.getElem?_cons_zero, List.getElem?_cons_succ] at x1 x2
    have C2 := hid0 (in_nb (.pointer v) s.ob s.fe A2 hN4)
    have C3 := hid0 (inside_nb (.pointer v) s.fe A2 hN4)
    gi_wp2_with fail
    refine (callsIn_wide.2 C2.out).mono ?_
    rintro e v2 ⟨rfl, hv⟩
    cases hv
    gi_wp2_with fail
    refine (callsIn_wide.2 C3.out).mono ?_
    rintro e A3 ⟨rfl, g1⟩
    have hK3 : A3.heap[D]? = some (.deferred (some [])) := (g1.below.block D (lt_of_block hK2)).trans hK2
    have k4 := k4.gr g1
    have hB3 := hB2.trans (g1.below.mono hB2.size)
    have hN5 := hN4.gr g1
    clear C2 C3 x1 x2 hK2 hB2 hN4 g1 k3
    have C4 := hid0 (len_nb (.pointer v) A3 hN5)
    gi_wp2_with fail
    refine (callsIn_wide.2 C4.out).mono ?_
    rintro e v2 ⟨rfl, hv⟩
    cases hv
    have f4 := k4.frozen 0
    have y4 := k4.one
    have k6 := k4.set 0 (.bool true)
    have hBX : Below w.heap.size w (A3.setCell ⟨b4, 0, none⟩ (.bool true)) := Below.setCell (p := ⟨b4, 0, none⟩) hB3 hb4 (.bool true)
    have nD : D ≠ b4 := fun e => by
      rw [e] at hK3
      unfold Bk at k4
      rw [k4] at hK3
      cases hK3
    have hKX : (A3.setCell ⟨b4, 0, none⟩ (.bool true)).heap[D]? = some (.deferred (some [])) := (Below.heap_setCell _ _ _ _ nD).trans hK3
    clear hB3 hK3 C4
    gi_wp2
    clear y4 f4 k4
    generalize A3.setCell ⟨b4, 0, none⟩ (.bool true) = X0 at *
    refine ⟨by simp, .inl ⟨_, _, rfl, run_takeDeferred hKX, ?_⟩⟩
    have gp := grownBy_putObj' X0 D (.deferred none)
    have k7 : Bk (X0.putObj D (.deferred none)) b4 4 [.bool true] := (gp.block b4 k6.lt (fun e => nD (by cases e; rfl))).trans k6
    have q0 := k7.one
    exact ⟨.bool true, by simp [results, Tryd.results17, go_sem, q0], rfl, hBX.trans (belowK_b (w := w) (Nat.le_refl _) X0 D _ (.deferred none) hDw hKX rfl rfl)⟩
theorem empty_any (v : Option Addr) (s : Stp) (w : World) (h : NoBook w (.pointer v)) :
    Calls Tryd.prog 17 #[.pointer v, sV s] w fun e w' => e = .returned (.bool true) ∧ Below w.heap.size w w' :=
  callsIn_wide.1 (empty_in 20 (by omega) v s w h)
set_option maxRecDepth 100000 in
set_option maxHeartbeats 4000000 in
theorem nil_walk (s : Stp) (w : World) (hT : Tab w) : Calls Tryd.prog 6 #[sV s] w fun e w' => e = .returned (.bool true) ∧ Below w.heap.size w w' := by
  have k3 := Bk.new w 43 (sL s)
  have g0 := (Gr.refl w).alloc (.cells (sL s).toArray 43)
  have N1 := hid0 (empty_any none s (w.alloc (.cells (sL s).toArray 43)) (.inl rfl))
  have HT := hid0 hT
  clear hT
  go_enter Tryd.func6, Tryd.ntmps6
  go_upto_region 2 with fail
  generalize w.alloc (.cells (sL s).toArray 43) = W at *
  obtain ⟨b3, e3⟩ : ∃ b3, b3 = w.heap.size := ⟨_, rfl⟩
  rw [← e3] at k3 ⊢
  clear e3
  have x0 := k3.at 0
  have x1 := k3.at 1
  have x2 := k3.at 2
  have x3 := k3.at 3
  have x4 := k3.at 4
  have x5 := k3.at 5
  have x6 := k3.at 6
  have x7 := k3.at 7
  have x8 := k3.at 8
  have x9 := k3.at 9
  have x10 := k3.at 10
  have x11 := k3.at 11
  have x12 := k3.at 12
  have x13 := k3.at 13
  simp only [List.getElem?_cons_zero, List.getElem?_cons_succ] at x0 x1 x2 x3 x4 x5 x6 x7 x8 x9 x10 x11 x12 x13
  go_wp2_with fail
  refine N1.out.mono ?_
  rintro e w1 ⟨rfl, h1⟩
  have k3 := k3.mono h1 k3.lt
  have hB : Below w.heap.size w w1 := g0.below.trans (h1.mono g0.size)
  clear x0 x1 x2 x3 x4 x5 x6 x7 x8 x9 x10 x11 x12 x13 h1 N1 g0
  have g1 := (Gr.refl w1).alloc (.cells #[.pointer none, .pointer none, .pointer none] 50)
  have kz := Bk.new w1 50 [.pointer none, .pointer none, .pointer none]
  have N2 := hid0 (empty_any (some ⟨w1.heap.size, 0, none⟩) s (w1.alloc (.cells #[.pointer none, .pointer none, .pointer none] 50)) (.inr ⟨_, _, _, rfl, kz⟩))
  have k3 := k3.gr g1
  have x0 := k3.at 0
  have x1 := k3.at 1
  have x2 := k3.at 2
  have x3 := k3.at 3
  have x4 := k3.at 4
  have x5 := k3.at 5
  have x6 := k3.at 6
  have x7 := k3.at 7
  have x8 := k3.at 8
  have x9 := k3.at 9
  have x10 := k3.at 10
  have x11 := k3.at 11
  have x12 := k3.at 12
  have x13 := k3.at 13
  simp only [List.getElem?_cons_zero, List.getElem?_cons_succ] at x0 x1 x2 x3 x4 x5 x6 x7 x8 x9 x10 x11 x12 x13
  go_wp2_with fail
  refine N2.out.mono ?_
  rintro e w2 ⟨rfl, h2⟩
  have hB2 : Below w.heap.size w w2 := hB.trans ((g1.below.mono hB.size).trans (h2.mono (Nat.le_trans hB.size g1.size)))
  have WK := hid0 (works_any w2 (HT.out.below hB2))
  clear x0 x1 x2 x3 x4 x5 x6 x7 x8 x9 x10 x11 x12 x13 N2 g1 kz h2 hB k3
  go_wp2_with fail
  refine WK.out.mono ?_
  rintro e w3 ⟨rfl, h3⟩
  go_wp2
  go_ret
  exact ⟨rfl, hB2.trans (h3.mono hB2.size)⟩
end Go.Proofs.YtgdmbcfjjdngdaaDoor
