/- The law's step: First, Take, nothing. -/
import Derived.Test.YtaapdkjmlplhgaaSp
import Derived.Deep.RegionHeld3
set_option linter.unusedSimpArgs false
set_option linter.unusedVariables false
namespace Go.Proofs.Ytaapdkjmlplhgaa
open Go.RowKit Go.Sort Go.Shelf
attribute [local go_sem] Oper.semAt_some wide_fn
attribute [local simp] wide_fn

set_option maxRecDepth 100000 in
set_option maxHeartbeats 4000000 in
theorem step_none {B : Nat} {w : World} {d h pb mb : Nat} {v : Value} {l : List Du} {m : Pf} {most r : Nat} {rv : Value} {L : List Du} (P : Pr B w d h pb mb v l m most r rv L) (x : Du) (hx : okD x) (k : Int) (n1 : ¬ k = 1) (n2 : ¬ k = 2) (n3 : ¬ k = 3) (n4 : ¬ k = 4) (n5 : ¬ k = 5) (n6 : ¬ k = 6) (n7' : ¬ k = 7) (n8 : ¬ k = 8) :
    Calls Try.prog 9 #[.pointer (some ⟨d, 0, none⟩), .pointer (some ⟨r, 0, none⟩), .agg #[.int .i64 k, .int .u32 x.1, .int .u32 x.2.1, .int .u32 x.2.2]] w fun e w' => e = .returned (.bool true) ∧ Keeps B w w' ∧ Both B d h pb mb most r w' := by
  have hBw := P.ds.size
  have hrw := P.rf.blk.lt
  obtain ⟨xa, xo, xf⟩ := x
  have g := ((Gr.refl w).alloc (.cells #[.int .i64 k, .int .u32 xa, .int .u32 xo, .int .u32 xf] 34)).alloc (.cells #[.int .u32 xa, .int .u32 xo, .int .u32 xf] 32)
  have k7 := Bk.new (w.alloc (.cells #[.int .i64 k, .int .u32 xa, .int .u32 xo, .int .u32 xf] 34)) 32 [.int .u32 xa, .int .u32 xo, .int .u32 xf]
  rw [World.size_alloc] at k7
  have P1 := hid0 (P.gr g)
  have A7 := hid0 (P.ds.aside_new (b := w.heap.size + 1) (by omega))
  have K1 := hid0 (Keeps.gr g hBw)
  clear P g
  dsimp only
  go_enter Try.func9, Try.ntmps9
  have k5 := (Bk.new w 34 [.int .i64 k, .int .u32 xa, .int .u32 xo, .int .u32 xf]).alloc (.cells #[.int .u32 xa, .int .u32 xo, .int .u32 xf] 32)
  go_upto_region 2 with fail
  generalize World.alloc _ _ = W at *
  obtain ⟨b7, e7⟩ : ∃ b7, b7 = w.heap.size + 1 := ⟨_, rfl⟩
  obtain ⟨b5, e5⟩ : ∃ b5, b5 = w.heap.size := ⟨_, rfl⟩
  have n7 : b7 ≠ r := by omega
  rw [← e7] at k7 A7 ⊢
  rw [← e5] at k5 ⊢
  clear e5 e7
  have y5 := k5.at 0
  simp only [List.getElem?_cons_zero] at y5
  clear hx k7 A7
  have F2 := hid0 (show Both B d h pb mb most r W from ⟨_, _, _, _, _, P1.out⟩)
  clear P1 k5
  go_wp2
  go_ret
  exact ⟨rfl, K1.out, F2.out⟩
set_option maxRecDepth 100000 in
set_option maxHeartbeats 4000000 in
theorem step_first {B : Nat} {w : World} {d h pb mb : Nat} {v : Value} {l : List Du} {m : Pf} {most r : Nat} {rv : Value} {L : List Du} (P : Pr B w d h pb mb v l m most r rv L) (x : Du) (hx : okD x) :
    Calls Try.prog 9 #[.pointer (some ⟨d, 0, none⟩), .pointer (some ⟨r, 0, none⟩), .agg #[.int .i64 5, .int .u32 x.1, .int .u32 x.2.1, .int .u32 x.2.2]] w fun e w' => e = .returned (.bool true) ∧ Keeps B w w' ∧ Both B d h pb mb most r w' := by
  have hBw := P.ds.size
  have hrw := P.rf.blk.lt
  obtain ⟨xa, xo, xf⟩ := x
  have g := ((Gr.refl w).alloc (.cells #[.int .i64 5, .int .u32 xa, .int .u32 xo, .int .u32 xf] 34)).alloc (.cells #[.int .u32 xa, .int .u32 xo, .int .u32 xf] 32)
  have k7 := Bk.new (w.alloc (.cells #[.int .i64 5, .int .u32 xa, .int .u32 xo, .int .u32 xf] 34)) 32 [.int .u32 xa, .int .u32 xo, .int .u32 xf]
  rw [World.size_alloc] at k7
  have P1 := hid0 (P.gr g)
  have A7 := hid0 (P.ds.aside_new (b := w.heap.size + 1) (by omega))
  have K1 := hid0 (Keeps.gr g hBw)
  clear P g
  dsimp only
  go_enter Try.func9, Try.ntmps9
  have k5 := (Bk.new w 34 [.int .i64 5, .int .u32 xa, .int .u32 xo, .int .u32 xf]).alloc (.cells #[.int .u32 xa, .int .u32 xo, .int .u32 xf] 32)
  go_upto_region 2 with fail
  generalize World.alloc _ _ = W at *
  obtain ⟨b7, e7⟩ : ∃ b7, b7 = w.heap.size + 1 := ⟨_, rfl⟩
  obtain ⟨b5, e5⟩ : ∃ b5, b5 = w.heap.size := ⟨_, rfl⟩
  have n7 : b7 ≠ r := by omega
  rw [← e7] at k7 A7 ⊢
  rw [← e5] at k5 ⊢
  clear e5 e7
  have y5 := k5.at 0
  simp only [List.getElem?_cons_zero] at y5
  obtain ⟨y, hy⟩ : ∃ y, y = nth l 0 := ⟨_, rfl⟩
  have P2 := first_yes P1.out.ds
  have P4 : ∀ V, Gr W V → Calls Try.prog 27 #[.pointer (some ⟨r, 0, none⟩)] V fun e w' => e = .returned (.tuple #[dV y, .bool (decide (0 < l.length))]) ∧ Gr V w' := fun V gV => by
    have := firsts_any (P1.out.gr gV)
    rw [← hy] at this
    exact this
  rw [← hy] at P2
  replace P2 := hid0 P2
  replace P4 := hid0 P4
  clear hy hx k7 A7
  generalize decide (0 < l.length) = q at *
  obtain ⟨ya, yo, yf⟩ := y
  go_wp2_with fail
  refine P2.out.mono ?_
  rintro e v1 ⟨rfl, h1⟩
  clear k5 y5 P2
  go_wp2_with fail
  have gA := h1.trans ((Gr.refl v1).alloc (.cells #[.int .u32 ya, .int .u32 yo, .int .u32 yf] 32))
  have k8 := Bk.new v1 32 [.int .u32 ya, .int .u32 yo, .int .u32 yf]
  refine (P4.out _ gA).mono ?_
  rintro e v2 ⟨rfl, h2⟩
  have k9 := (k8.gr h2).alloc (.cells #[.int .u32 ya, .int .u32 yo, .int .u32 yf] 32)
  have gF := gA.trans (h2.alloc (.cells #[.int .u32 ya, .int .u32 yo, .int .u32 yf] 32))
  have F := hid0 (K1.out.trans (Keeps.gr gF P1.out.ds.size))
  have F2 := hid0 (show Both B d h pb mb most r _ from ⟨_, _, _, _, _, P1.out.gr gF⟩)
  have q0 := k9.at 0
  have q1 := k9.at 1
  have q2 := k9.at 2
  simp only [List.getElem?_cons_zero, List.getElem?_cons_succ] at q0 q1 q2
  have EQ := run_eqD (ya, yo, yf) (ya, yo, yf)
  simp only [dV, decide_true] at EQ
  clear k8 k9 gF gA h1 h2 P4 P1 K1
  go_wp2
  go_ret
  exact ⟨by simp, F.out, F2.out⟩
set_option maxRecDepth 100000 in
set_option maxHeartbeats 4000000 in
theorem step_take {B : Nat} {w : World} {d h pb mb : Nat} {v : Value} {l : List Du} {m : Pf} {most r : Nat} {rv : Value} {L : List Du} (P : Pr B w d h pb mb v l m most r rv L) (x : Du) (hx : okD x) :
    Calls Try.prog 9 #[.pointer (some ⟨d, 0, none⟩), .pointer (some ⟨r, 0, none⟩), .agg #[.int .i64 7, .int .u32 x.1, .int .u32 x.2.1, .int .u32 x.2.2]] w fun e w' => e = .returned (.bool true) ∧ Keeps B w w' ∧ Both B d h pb mb most r w' := by
  have hBw := P.ds.size
  have hrw := P.rf.blk.lt
  obtain ⟨xa, xo, xf⟩ := x
  have g := ((Gr.refl w).alloc (.cells #[.int .i64 7, .int .u32 xa, .int .u32 xo, .int .u32 xf] 34)).alloc (.cells #[.int .u32 xa, .int .u32 xo, .int .u32 xf] 32)
  have k7 := Bk.new (w.alloc (.cells #[.int .i64 7, .int .u32 xa, .int .u32 xo, .int .u32 xf] 34)) 32 [.int .u32 xa, .int .u32 xo, .int .u32 xf]
  rw [World.size_alloc] at k7
  have P1 := hid0 (P.gr g)
  have A7 := hid0 (P.ds.aside_new (b := w.heap.size + 1) (by omega))
  have K1 := hid0 (Keeps.gr g hBw)
  clear P g
  dsimp only
  go_enter Try.func9, Try.ntmps9
  have k5 := (Bk.new w 34 [.int .i64 7, .int .u32 xa, .int .u32 xo, .int .u32 xf]).alloc (.cells #[.int .u32 xa, .int .u32 xo, .int .u32 xf] 32)
  go_upto_region 2 with fail
  generalize World.alloc _ _ = W at *
  obtain ⟨b7, e7⟩ : ∃ b7, b7 = w.heap.size + 1 := ⟨_, rfl⟩
  obtain ⟨b5, e5⟩ : ∃ b5, b5 = w.heap.size := ⟨_, rfl⟩
  have n7 : b7 ≠ r := by omega
  rw [← e7] at k7 A7 ⊢
  rw [← e5] at k5 ⊢
  clear e5 e7
  have y5 := k5.at 0
  simp only [List.getElem?_cons_zero] at y5
  have P2 := hid0 (takes_any P1.out xa)
  have z0 := k7.at 0
  simp only [List.getElem?_cons_zero] at z0
  have k7' := hid0 k7
  clear hx
  go_wp2_with fail
  refine P2.out.mono ?_
  rintro e v1 ⟨y, q, rfl, h1, h2, h3⟩
  have P4 := hid0 h3
  have H1 := hid0 h1
  obtain ⟨ya, yo, yf⟩ := y
  have z1 := ((h2.bk k7' A7.out n7).alloc (.cells #[.int .u32 ya, .int .u32 yo, .int .u32 yf] 32)).at 0
  simp only [List.getElem?_cons_zero] at z1
  clear k5 y5 P2 h3 h2 h1 k7 A7 z0 k7'
  go_wp2_with fail
  have gA := (Gr.refl v1).alloc (.cells #[.int .u32 ya, .int .u32 yo, .int .u32 yf] 32)
  have k8 := Bk.new v1 32 [.int .u32 ya, .int .u32 yo, .int .u32 yf]
  have hrv : r ≠ v1.heap.size := by have := H1.out.1.size; have := K1.out.1.size; omega
  refine (P4.out _ gA).mono ?_
  rintro e v2 ⟨rfl, h4, h5, h6, h7⟩
  have k9 := (k8.same (h6 _ k8.lt (fun e => hrv e.symm))).alloc (.cells #[.int .u32 ya, .int .u32 yo, .int .u32 yf] 32)
  obtain ⟨v', l', m', rv', L', P9⟩ := h7
  have g9 := (Gr.refl v2).alloc (.cells #[.int .u32 ya, .int .u32 yo, .int .u32 yf] 32)
  have hs1 := P9.ds.size
  have F := hid0 ((((K1.out.trans H1.out).trans (Keeps.gr gA (by have := H1.out.1.size; have := P1.out.ds.size; omega))).trans h4).trans (Keeps.gr g9 hs1))
  have F2 := hid0 (show Both B d h pb mb most r _ from ⟨_, _, _, _, _, P9.gr g9⟩)
  have q0 := k9.at 0
  have q1 := k9.at 1
  have q2 := k9.at 2
  simp only [List.getElem?_cons_zero, List.getElem?_cons_succ] at q0 q1 q2
  have EQ := run_eqD (ya, yo, yf) (ya, yo, yf)
  simp only [dV, decide_true] at EQ
  clear k8 k9 gA g9 h4 h5 h6 P9 P4 P1 K1 H1
  go_wp2
  go_ret
  exact ⟨by simp, F.out, F2.out⟩
end Go.Proofs.Ytaapdkjmlplhgaa
