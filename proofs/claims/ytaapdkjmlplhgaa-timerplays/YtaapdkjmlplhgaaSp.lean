/- The law's step. -/
import Derived.Test.YtaapdkjmlplhgaaTv
import Derived.Deep.RegionHeld3
set_option linter.unusedSimpArgs false
set_option linter.unusedVariables false
namespace Go.Proofs.Ytaapdkjmlplhgaa
open Go.RowKit Go.Sort Go.Shelf
attribute [local go_sem] Oper.semAt_some wide_fn
attribute [local simp] wide_fn

set_option maxRecDepth 100000 in
set_option maxHeartbeats 4000000 in
theorem step_set {B : Nat} {w : World} {d h pb mb : Nat} {v : Value} {l : List Du} {m : Pf} {most r : Nat} {rv : Value} {L : List Du} (P : Pr B w d h pb mb v l m most r rv L) (x : Du) (hx : okD x) :
    Calls Try.prog 9 #[.pointer (some ⟨d, 0, none⟩), .pointer (some ⟨r, 0, none⟩), .agg #[.int .i64 1, .int .u32 x.1, .int .u32 x.2.1, .int .u32 x.2.2]] w fun e w' => e = .returned (.bool true) ∧ Keeps B w w' ∧ Both B d h pb mb most r w' := by
  have hBw := P.ds.size
  have hrw := P.rf.blk.lt
  obtain ⟨xa, xo, xf⟩ := x
  have g := ((Gr.refl w).alloc (.cells #[.int .i64 1, .int .u32 xa, .int .u32 xo, .int .u32 xf] 34)).alloc (.cells #[.int .u32 xa, .int .u32 xo, .int .u32 xf] 32)
  have k7 := Bk.new (w.alloc (.cells #[.int .i64 1, .int .u32 xa, .int .u32 xo, .int .u32 xf] 34)) 32 [.int .u32 xa, .int .u32 xo, .int .u32 xf]
  rw [World.size_alloc] at k7
  have P1 := hid0 (P.gr g)
  have A7 := hid0 (P.ds.aside_new (b := w.heap.size + 1) (by omega))
  have K1 := hid0 (Keeps.gr g hBw)
  clear P g
  dsimp only
  go_enter Try.func9, Try.ntmps9
  have k5 := (Bk.new w 34 [.int .i64 1, .int .u32 xa, .int .u32 xo, .int .u32 xf]).alloc (.cells #[.int .u32 xa, .int .u32 xo, .int .u32 xf] 32)
  go_upto_region 2 with fail
  generalize World.alloc _ _ = W at *
  obtain ⟨b7, e7⟩ : ∃ b7, b7 = w.heap.size + 1 := ⟨_, rfl⟩
  obtain ⟨b5, e5⟩ : ∃ b5, b5 = w.heap.size := ⟨_, rfl⟩
  have n7 : b7 ≠ r := by omega
  rw [← e7] at k7 A7 ⊢
  rw [← e5] at k5 ⊢
  clear e5 e7
  have y5 := k5.at 0
  simp only [List.getElem?_cons_zero] at y5
  go_wp2_with fail
  have P2 := hid0 (sets_both (P1.out.gr ((Gr.refl W).drew)) (xa, xo, xf) hx)
  have K2 := hid0 (K1.out.trans (Keeps.gr ((Gr.refl W).drew) (P1.out.ds.size)))
  have SD := hid0 (k7.gr ((Gr.refl W).drew))
  have f0 : ∀ V, Bk V b7 32 [.int .u32 xa, .int .u32 xo, .int .u32 xf] → V.cell? ⟨b7, 0, none⟩ = some (.int .u32 xa) := fun V hV => hV.at 0
  have f1 : ∀ V, Bk V b7 32 [.int .u32 xa, .int .u32 xo, .int .u32 xf] → V.cell? ⟨b7, 1, none⟩ = some (.int .u32 xo) := fun V hV => hV.at 1
  have f2 : ∀ V, Bk V b7 32 [.int .u32 xa, .int .u32 xo, .int .u32 xf] → V.cell? ⟨b7, 2, none⟩ = some (.int .u32 xf) := fun V hV => hV.at 2
  clear k5 y5 k7 P1 K1 hx
  go_region_held3 (fun V => Bk V b7 32 [.int .u32 xa, .int .u32 xo, .int .u32 xf])
    (first
      | assumption
      | exact SD.out)
    (first
      | (go_at_call 12; refine P2.out.mono ?_; rintro e v1 ⟨c, rfl, h1, h2, h3⟩; have s1 := h2.bk SD.out A7.out n7)
      | (go_at_call 13; refine h3.mono ?_; rintro e v2 ⟨rfl, h4, h5, h6⟩; have s2 := h5.bk SD.out A7.out n7))
  have F := hid0 ((K2.out.trans h1).trans h4)
  have F2 := hid0 h6
  clear h1 h2 h3 h4 h5 h6 s1 s2 SD P2 f0 f1 f2 A7 K2
  go_wp2
  go_ret
  exact ⟨rfl, F.out, F2.out⟩
set_option maxRecDepth 100000 in
set_option maxHeartbeats 4000000 in
theorem step_cut {B : Nat} {w : World} {d h pb mb : Nat} {v : Value} {l : List Du} {m : Pf} {most r : Nat} {rv : Value} {L : List Du} (P : Pr B w d h pb mb v l m most r rv L) (x : Du) (hx : okD x) :
    Calls Try.prog 9 #[.pointer (some ⟨d, 0, none⟩), .pointer (some ⟨r, 0, none⟩), .agg #[.int .i64 2, .int .u32 x.1, .int .u32 x.2.1, .int .u32 x.2.2]] w fun e w' => e = .returned (.bool true) ∧ Keeps B w w' ∧ Both B d h pb mb most r w' := by
  have hBw := P.ds.size
  have hrw := P.rf.blk.lt
  obtain ⟨xa, xo, xf⟩ := x
  have g := ((Gr.refl w).alloc (.cells #[.int .i64 2, .int .u32 xa, .int .u32 xo, .int .u32 xf] 34)).alloc (.cells #[.int .u32 xa, .int .u32 xo, .int .u32 xf] 32)
  have k7 := Bk.new (w.alloc (.cells #[.int .i64 2, .int .u32 xa, .int .u32 xo, .int .u32 xf] 34)) 32 [.int .u32 xa, .int .u32 xo, .int .u32 xf]
  rw [World.size_alloc] at k7
  have P1 := hid0 (P.gr g)
  have A7 := hid0 (P.ds.aside_new (b := w.heap.size + 1) (by omega))
  have K1 := hid0 (Keeps.gr g hBw)
  clear P g
  dsimp only
  go_enter Try.func9, Try.ntmps9
  have k5 := (Bk.new w 34 [.int .i64 2, .int .u32 xa, .int .u32 xo, .int .u32 xf]).alloc (.cells #[.int .u32 xa, .int .u32 xo, .int .u32 xf] 32)
  go_upto_region 2 with fail
  generalize World.alloc _ _ = W at *
  obtain ⟨b7, e7⟩ : ∃ b7, b7 = w.heap.size + 1 := ⟨_, rfl⟩
  obtain ⟨b5, e5⟩ : ∃ b5, b5 = w.heap.size := ⟨_, rfl⟩
  have n7 : b7 ≠ r := by omega
  rw [← e7] at k7 A7 ⊢
  rw [← e5] at k5 ⊢
  clear e5 e7
  have y5 := k5.at 0
  simp only [List.getElem?_cons_zero] at y5
  go_wp2_with fail
  have P2 := hid0 (cuts_any (P1.out.gr ((Gr.refl W).drew)) (xo, xf) hx.2)
  have K2 := hid0 (K1.out.trans (Keeps.gr ((Gr.refl W).drew) (P1.out.ds.size)))
  have SD := hid0 (k7.gr ((Gr.refl W).drew))
  have f0 : ∀ V, Bk V b7 32 [.int .u32 xa, .int .u32 xo, .int .u32 xf] → V.cell? ⟨b7, 0, none⟩ = some (.int .u32 xa) := fun V hV => hV.at 0
  have f1 : ∀ V, Bk V b7 32 [.int .u32 xa, .int .u32 xo, .int .u32 xf] → V.cell? ⟨b7, 1, none⟩ = some (.int .u32 xo) := fun V hV => hV.at 1
  have f2 : ∀ V, Bk V b7 32 [.int .u32 xa, .int .u32 xo, .int .u32 xf] → V.cell? ⟨b7, 2, none⟩ = some (.int .u32 xf) := fun V hV => hV.at 2
  clear k5 y5 k7 P1 K1 hx
  go_region_held3 (fun V => Bk V b7 32 [.int .u32 xa, .int .u32 xo, .int .u32 xf])
    (first
      | assumption
      | exact SD.out)
    (first
      | (go_at_call 22; refine P2.out.mono ?_; rintro e v1 ⟨q, rfl, h1, h2, h3⟩; have s1 := h2.bk SD.out A7.out n7)
      | (go_at_call 23; refine h3.mono ?_; rintro e v2 ⟨c, rfl, hq, h4, h5, h6⟩; have hq2 : q = (c == 1) := (by rw [hq]; by_cases hc : c = 1 <;> simp [hc]); clear hq; subst hq2; have s2 := h5.bk SD.out A7.out n7))
  have F := hid0 ((K2.out.trans h1).trans h4)
  have F2 := hid0 h6
  clear h1 h2 h3 h4 h5 h6 s1 s2 SD P2 f0 f1 f2 A7 K2
  go_wp2
  go_ret
  exact ⟨rfl, F.out, F2.out⟩
set_option maxRecDepth 100000 in
set_option maxHeartbeats 4000000 in
theorem step_cutOb {B : Nat} {w : World} {d h pb mb : Nat} {v : Value} {l : List Du} {m : Pf} {most r : Nat} {rv : Value} {L : List Du} (P : Pr B w d h pb mb v l m most r rv L) (x : Du) (hx : okD x) :
    Calls Try.prog 9 #[.pointer (some ⟨d, 0, none⟩), .pointer (some ⟨r, 0, none⟩), .agg #[.int .i64 3, .int .u32 x.1, .int .u32 x.2.1, .int .u32 x.2.2]] w fun e w' => e = .returned (.bool true) ∧ Keeps B w w' ∧ Both B d h pb mb most r w' := by
  have hBw := P.ds.size
  have hrw := P.rf.blk.lt
  obtain ⟨xa, xo, xf⟩ := x
  have g := ((Gr.refl w).alloc (.cells #[.int .i64 3, .int .u32 xa, .int .u32 xo, .int .u32 xf] 34)).alloc (.cells #[.int .u32 xa, .int .u32 xo, .int .u32 xf] 32)
  have k7 := Bk.new (w.alloc (.cells #[.int .i64 3, .int .u32 xa, .int .u32 xo, .int .u32 xf] 34)) 32 [.int .u32 xa, .int .u32 xo, .int .u32 xf]
  rw [World.size_alloc] at k7
  have P1 := hid0 (P.gr g)
  have A7 := hid0 (P.ds.aside_new (b := w.heap.size + 1) (by omega))
  have K1 := hid0 (Keeps.gr g hBw)
  clear P g
  dsimp only
  go_enter Try.func9, Try.ntmps9
  have k5 := (Bk.new w 34 [.int .i64 3, .int .u32 xa, .int .u32 xo, .int .u32 xf]).alloc (.cells #[.int .u32 xa, .int .u32 xo, .int .u32 xf] 32)
  go_upto_region 2 with fail
  generalize World.alloc _ _ = W at *
  obtain ⟨b7, e7⟩ : ∃ b7, b7 = w.heap.size + 1 := ⟨_, rfl⟩
  obtain ⟨b5, e5⟩ : ∃ b5, b5 = w.heap.size := ⟨_, rfl⟩
  have n7 : b7 ≠ r := by omega
  rw [← e7] at k7 A7 ⊢
  rw [← e5] at k5 ⊢
  clear e5 e7
  have y5 := k5.at 0
  simp only [List.getElem?_cons_zero] at y5
  go_wp2_with fail
  have P2 := hid0 (cutObs_any (P1.out.gr ((Gr.refl W).drew)) xo)
  have K2 := hid0 (K1.out.trans (Keeps.gr ((Gr.refl W).drew) (P1.out.ds.size)))
  have SD := hid0 (k7.gr ((Gr.refl W).drew))
  have f0 : ∀ V, Bk V b7 32 [.int .u32 xa, .int .u32 xo, .int .u32 xf] → V.cell? ⟨b7, 0, none⟩ = some (.int .u32 xa) := fun V hV => hV.at 0
  have f1 : ∀ V, Bk V b7 32 [.int .u32 xa, .int .u32 xo, .int .u32 xf] → V.cell? ⟨b7, 1, none⟩ = some (.int .u32 xo) := fun V hV => hV.at 1
  have f2 : ∀ V, Bk V b7 32 [.int .u32 xa, .int .u32 xo, .int .u32 xf] → V.cell? ⟨b7, 2, none⟩ = some (.int .u32 xf) := fun V hV => hV.at 2
  clear k5 y5 k7 P1 K1 hx
  go_region_held3 (fun V => Bk V b7 32 [.int .u32 xa, .int .u32 xo, .int .u32 xf])
    (first
      | assumption
      | exact SD.out)
    (first
      | (go_at_call 24; refine P2.out.mono ?_; rintro e v1 ⟨c, rfl, h1, h2, h3⟩; have s1 := h2.bk SD.out A7.out n7)
      | (go_at_call 23; refine h3.mono ?_; rintro e v2 ⟨rfl, h4, h5, h6⟩; have s2 := h5.bk SD.out A7.out n7))
  have F := hid0 ((K2.out.trans h1).trans h4)
  have F2 := hid0 h6
  clear h1 h2 h3 h4 h5 h6 s1 s2 SD P2 f0 f1 f2 A7 K2
  go_wp2
  go_ret
  exact ⟨rfl, F.out, F2.out⟩
set_option maxRecDepth 100000 in
set_option maxHeartbeats 4000000 in
theorem step_cutFe {B : Nat} {w : World} {d h pb mb : Nat} {v : Value} {l : List Du} {m : Pf} {most r : Nat} {rv : Value} {L : List Du} (P : Pr B w d h pb mb v l m most r rv L) (x : Du) (hx : okD x) :
    Calls Try.prog 9 #[.pointer (some ⟨d, 0, none⟩), .pointer (some ⟨r, 0, none⟩), .agg #[.int .i64 4, .int .u32 x.1, .int .u32 x.2.1, .int .u32 x.2.2]] w fun e w' => e = .returned (.bool true) ∧ Keeps B w w' ∧ Both B d h pb mb most r w' := by
  have hBw := P.ds.size
  have hrw := P.rf.blk.lt
  obtain ⟨xa, xo, xf⟩ := x
  have g := ((Gr.refl w).alloc (.cells #[.int .i64 4, .int .u32 xa, .int .u32 xo, .int .u32 xf] 34)).alloc (.cells #[.int .u32 xa, .int .u32 xo, .int .u32 xf] 32)
  have k7 := Bk.new (w.alloc (.cells #[.int .i64 4, .int .u32 xa, .int .u32 xo, .int .u32 xf] 34)) 32 [.int .u32 xa, .int .u32 xo, .int .u32 xf]
  rw [World.size_alloc] at k7
  have P1 := hid0 (P.gr g)
  have A7 := hid0 (P.ds.aside_new (b := w.heap.size + 1) (by omega))
  have K1 := hid0 (Keeps.gr g hBw)
  clear P g
  dsimp only
  go_enter Try.func9, Try.ntmps9
  have k5 := (Bk.new w 34 [.int .i64 4, .int .u32 xa, .int .u32 xo, .int .u32 xf]).alloc (.cells #[.int .u32 xa, .int .u32 xo, .int .u32 xf] 32)
  go_upto_region 2 with fail
  generalize World.alloc _ _ = W at *
  obtain ⟨b7, e7⟩ : ∃ b7, b7 = w.heap.size + 1 := ⟨_, rfl⟩
  obtain ⟨b5, e5⟩ : ∃ b5, b5 = w.heap.size := ⟨_, rfl⟩
  have n7 : b7 ≠ r := by omega
  rw [← e7] at k7 A7 ⊢
  rw [← e5] at k5 ⊢
  clear e5 e7
  have y5 := k5.at 0
  simp only [List.getElem?_cons_zero] at y5
  go_wp2_with fail
  have P2 := hid0 (cutFes_any (P1.out.gr ((Gr.refl W).drew)) xf)
  have K2 := hid0 (K1.out.trans (Keeps.gr ((Gr.refl W).drew) (P1.out.ds.size)))
  have SD := hid0 (k7.gr ((Gr.refl W).drew))
  have f0 : ∀ V, Bk V b7 32 [.int .u32 xa, .int .u32 xo, .int .u32 xf] → V.cell? ⟨b7, 0, none⟩ = some (.int .u32 xa) := fun V hV => hV.at 0
  have f1 : ∀ V, Bk V b7 32 [.int .u32 xa, .int .u32 xo, .int .u32 xf] → V.cell? ⟨b7, 1, none⟩ = some (.int .u32 xo) := fun V hV => hV.at 1
  have f2 : ∀ V, Bk V b7 32 [.int .u32 xa, .int .u32 xo, .int .u32 xf] → V.cell? ⟨b7, 2, none⟩ = some (.int .u32 xf) := fun V hV => hV.at 2
  clear k5 y5 k7 P1 K1 hx
  go_region_held3 (fun V => Bk V b7 32 [.int .u32 xa, .int .u32 xo, .int .u32 xf])
    (first
      | assumption
      | exact SD.out)
    (first
      | (go_at_call 25; refine P2.out.mono ?_; rintro e v1 ⟨c, rfl, h1, h2, h3⟩; have s1 := h2.bk SD.out A7.out n7)
      | (go_at_call 23; refine h3.mono ?_; rintro e v2 ⟨rfl, h4, h5, h6⟩; have s2 := h5.bk SD.out A7.out n7))
  have F := hid0 ((K2.out.trans h1).trans h4)
  have F2 := hid0 h6
  clear h1 h2 h3 h4 h5 h6 s1 s2 SD P2 f0 f1 f2 A7 K2
  go_wp2
  go_ret
  exact ⟨rfl, F.out, F2.out⟩
set_option maxRecDepth 100000 in
set_option maxHeartbeats 4000000 in
theorem step_ready {B : Nat} {w : World} {d h pb mb : Nat} {v : Value} {l : List Du} {m : Pf} {most r : Nat} {rv : Value} {L : List Du} (P : Pr B w d h pb mb v l m most r rv L) (x : Du) (hx : okD x) :
    Calls Try.prog 9 #[.pointer (some ⟨d, 0, none⟩), .pointer (some ⟨r, 0, none⟩), .agg #[.int .i64 6, .int .u32 x.1, .int .u32 x.2.1, .int .u32 x.2.2]] w fun e w' => e = .returned (.bool true) ∧ Keeps B w w' ∧ Both B d h pb mb most r w' := by
  have hBw := P.ds.size
  have hrw := P.rf.blk.lt
  obtain ⟨xa, xo, xf⟩ := x
  have g := ((Gr.refl w).alloc (.cells #[.int .i64 6, .int .u32 xa, .int .u32 xo, .int .u32 xf] 34)).alloc (.cells #[.int .u32 xa, .int .u32 xo, .int .u32 xf] 32)
  have k7 := Bk.new (w.alloc (.cells #[.int .i64 6, .int .u32 xa, .int .u32 xo, .int .u32 xf] 34)) 32 [.int .u32 xa, .int .u32 xo, .int .u32 xf]
  rw [World.size_alloc] at k7
  have P1 := hid0 (P.gr g)
  have A7 := hid0 (P.ds.aside_new (b := w.heap.size + 1) (by omega))
  have K1 := hid0 (Keeps.gr g hBw)
  clear P g
  dsimp only
  go_enter Try.func9, Try.ntmps9
  have k5 := (Bk.new w 34 [.int .i64 6, .int .u32 xa, .int .u32 xo, .int .u32 xf]).alloc (.cells #[.int .u32 xa, .int .u32 xo, .int .u32 xf] 32)
  go_upto_region 2 with fail
  generalize World.alloc _ _ = W at *
  obtain ⟨b7, e7⟩ : ∃ b7, b7 = w.heap.size + 1 := ⟨_, rfl⟩
  obtain ⟨b5, e5⟩ : ∃ b5, b5 = w.heap.size := ⟨_, rfl⟩
  have n7 : b7 ≠ r := by omega
  rw [← e7] at k7 A7 ⊢
  rw [← e5] at k5 ⊢
  clear e5 e7
  have y5 := k5.at 0
  simp only [List.getElem?_cons_zero] at y5
  go_wp2_with fail
  have PD := hid0 (P1.out.gr ((Gr.refl W).drew))
  have P2 := hid0 (ready_yes PD.out.ds xa)
  have K2 := hid0 (K1.out.trans (Keeps.gr ((Gr.refl W).drew) (P1.out.ds.size)))
  have SD := hid0 (k7.gr ((Gr.refl W).drew))
  have f0 : ∀ V, Bk V b7 32 [.int .u32 xa, .int .u32 xo, .int .u32 xf] → V.cell? ⟨b7, 0, none⟩ = some (.int .u32 xa) := fun V hV => hV.at 0
  have f1 : ∀ V, Bk V b7 32 [.int .u32 xa, .int .u32 xo, .int .u32 xf] → V.cell? ⟨b7, 1, none⟩ = some (.int .u32 xo) := fun V hV => hV.at 1
  have f2 : ∀ V, Bk V b7 32 [.int .u32 xa, .int .u32 xo, .int .u32 xf] → V.cell? ⟨b7, 2, none⟩ = some (.int .u32 xf) := fun V hV => hV.at 2
  clear k5 y5 k7 P1 K1 hx
  go_region_held3 (fun V => Bk V b7 32 [.int .u32 xa, .int .u32 xo, .int .u32 xf])
    (first
      | assumption
      | exact SD.out)
    (first
      | (go_at_call 28; refine P2.out.mono ?_; rintro e v1 ⟨rfl, h1⟩; have s1 := SD.out.gr h1)
      | (go_at_call 29; refine (readys_any (PD.out.gr h1) xa).mono ?_; rintro e v2 ⟨rfl, hv⟩; subst hv; have s2 := SD.out.gr h1))
  have F := hid0 (K2.out.trans (Keeps.gr h1 PD.out.ds.size))
  have F2 := hid0 (show Both B d h pb mb most r _ from ⟨_, _, _, _, _, PD.out.gr h1⟩)
  clear h1 SD P2 PD f0 f1 f2 A7 K2
  go_wp2
  go_ret
  exact ⟨rfl, F.out, F2.out⟩
end Go.Proofs.Ytaapdkjmlplhgaa
