/- same: three passes over one All, the second left early. -/
import Derived.Test.YtaapdkjmlplhgaaJa
import Derived.Test.YtaapdkjmlplhgaaQr
import Derived.Lib.QuietBelowIn
set_option linter.unusedSimpArgs false
set_option linter.unusedVariables false
namespace Go.Proofs.Ytaapdkjmlplhgaa
open Go.RowKit Go.Sort Go.Shelf
attribute [local go_sem] Oper.semAt_some wide_fn
attribute [local simp] wide_fn

theorem wp_then' {P : Program} {c : Code} {K : Act → World → Prop} {Q : Exit → Act → World → Prop} {a : Act} {w : World} (h : c.wp P (Exit.then K (fun _ _ _ => False)) a w) : c.wp P (Exit.then K Q) a w :=
  Code.wp_mono (fun e a w h => by cases e <;> first | exact h | exact h.elim) h
set_option maxRecDepth 100000 in
set_option maxHeartbeats 8000000 in
theorem same_in {B : Nat} {w : World} {d h pb mb : Nat} {v : Value} {l : List Du} {m : Pf} {most r : Nat} {rv : Value} {L : List Du} (P : Pr B w d h pb mb v l m most r rv L) :
    CallsIn Fence.wide 20 Try.prog 11 #[.pointer (some ⟨d, 0, none⟩), .pointer (some ⟨r, 0, none⟩)] w fun e w' => e = .returned (.bool true) ∧ Below w.heap.size w w' := by
  have hLl := P.so.len P.ds.pd
  have hLm : L.length ≤ 4096 := by have := P.ds.mo; omega
  have AL := hid0 (fun W => all_any (some ⟨d, 0, none⟩) W)
  have hE := run_eqf 34
  have E34 : Hid (∀ args w, (callFunc 34 args).run Try.prog w = .ok (.enter 34 args) w) := enters_of Try.func34 (by kernel_rfl) rfl
  have k3 := (Bk.new w 27 [.pointer (some ⟨r, 0, none⟩)]).alloc (.cells #[.bool false] 4)
  have k4 := Bk.new (w.alloc (.cells #[.pointer (some ⟨r, 0, none⟩)] 27)) 4 [.bool false]
  rw [World.size_alloc] at k4
  have g0 := ((Gr.refl w).alloc (.cells #[.pointer (some ⟨r, 0, none⟩)] 27)).alloc (.cells #[.bool false] 4)
  obtain ⟨ra, rcp, rfl⟩ : ∃ ra rcp, rv = .slice ra L.length rcp := by
    rcases P.rf.shape with ⟨h1, h2⟩ | ⟨g, cp, h1, _⟩
    · exact ⟨none, 0, by rw [h1, h2]; rfl⟩
    · exact ⟨_, cp, h1⟩
  have HP := hid0 P
  clear P
  refine callsIn_of_wp_marks Try.func11 rfl trivial ?_ rfl
  simp only [Try.ntmps11, List.size_toArray, List.length_cons, List.length_nil, Nat.reduceAdd, Nat.reduceSub, Array.replicate_succ, Array.replicate_zero, List.push_toArray, List.append_toArray, List.nil_append, List.cons_append]
  refine wpIn_wide.2 ?_
  go_wp2_with fail
  refine (AL.out _).mono ?_
  rintro e w1 ⟨bt, rfl, hbt, kt, g1⟩
  replace k3 := k3.gr g1
  replace k4 := k4.gr g1
  have bel := (g0.trans g1).below
  have hw1 := bel.size
  have k6 := Bk.new w1 3 [.int .i64 0]
  have g6 := (Gr.refl w1).alloc (.cells #[.int .i64 0] 3)
  clear g0 g1 AL
  obtain ⟨b3, e3⟩ : ∃ b3, b3 = w.heap.size := ⟨_, rfl⟩
  obtain ⟨b4, e4⟩ : ∃ b4, b4 = w.heap.size + 1 := ⟨_, rfl⟩
  have hb4 : w.heap.size ≤ b4 := by omega
  rw [← e4] at k4 ⊢
  rw [← e3] at k3 ⊢
  clear e3 e4
  go_wp2_with fail
  replace k3 := k3.gr g6
  replace k4 := k4.gr g6
  replace kt := kt.gr g6
  replace bel := bel.trans (g6.below.mono bel.size)
  generalize w1.alloc _ = X at *
  obtain ⟨b6, e6⟩ : ∃ b6, b6 = w1.heap.size := ⟨_, rfl⟩
  rw [← e6] at k6 ⊢
  have hb6 : w.heap.size ≤ b6 := by omega
  clear e6 g6 hbt hw1
  refine wp_loop_rounds 4 ?_
  rw [rounds_succ]
  -- pass 0
  have y6 := k6.one
  have k7 := Bk.new X 3 [.int .i64 0]
  have g7 := (Gr.refl X).alloc (.cells #[.int .i64 0] 3)
  have n6 : b6 ≠ X.heap.size := by have := k6.lt; omega
  have hX0 := bel.size
  go_wp2_with fail
  replace k3 := k3.gr g7
  replace k4 := k4.gr g7
  replace kt := kt.gr g7
  replace k6 := k6.gr g7
  replace bel := bel.trans (g7.below.mono bel.size)
  generalize X.alloc _ = Y at *
  obtain ⟨b7, e7⟩ : ∃ b7, b7 = X.heap.size := ⟨_, rfl⟩
  rw [← e7] at k7 n6 ⊢
  have hb7 : w.heap.size ≤ b7 := by omega
  clear e7 g7 y6 hX0
  have hY := bel.size
  have PX := HP.out.below bel
  have SQ := all1_seq 19 bt (by omega) (.pointer (some ⟨d, 0, none⟩)) L hLm Y kt (fun _ => False) (fun W g => sorted_yes (PX.ds.gr g) L PX.so)
  have I0 : Ps w Y r b3 b4 b6 b7 bt d 0 (fun _ => False) [] Y := ⟨Chg.refl _ _, k3, k4, k6, k7, kt, bel, fun _ h => h.elim, n6, hb7, k7.lt, hY⟩
  have e34 := E34.out
  clear PX k6 kt k4 k3 bel
  refine (wpIn_wide (n := 20)).1 ?_
  refine range_brk (p0 := fun _ => False) (L := L) (I := Ps w Y r b3 b4 b6 b7 bt d 0) (Ix := fun c pre A => c = .exit 2 ∧ False ∧ Ps w Y r b3 b4 b6 b7 bt d 0 (fun _ => False) pre A) 2
    rfl e34 SQ ?owes (fun _ => False) (fun _ h => h) (fun _ h => h.elim) I0 (fun A => ∃ pre, Ps w Y r b3 b4 b6 b7 bt d 0 (fun _ => False) pre A ∧ (pre = L ∨ False)) (fun q A hI => ⟨L, hI.nop, .inl rfl⟩) (fun c pre A hx => ⟨hx.1, pre, hx.2.2, .inr hx.2.1⟩) (fun _ _ h => by simpa [Exit.inBlock] using h) ?done
  case owes =>
    clear SQ e34 hE I0 hLl k7
    refine ⟨ps_con, fun c s A A' row h hg hr => ⟨h.1, h.2.1, ps_con.own _ _ _ _ _ h.2.2 hg hr⟩, fun x a' _ A A' row h hg hr => ?_, fun _ => rfl, ?_, ?_⟩
    · obtain ⟨b8, h1, h2⟩ := h
      exact ⟨b8, h1.chg (Chg.grownR hg) (fun e => by
        obtain ⟨o, h3, h4⟩ := (hr b8 e).2
        unfold Bk at h1
        rw [h1] at h3
        cases h3
        cases h4), h2⟩
    · intro li p pre x W K hp hpb hI hs hK
      obtain ⟨xa, xo, xf⟩ := x
      have HK := hid0 hK
      have HI := hid0 hI
      clear hK hI
      simp only [dE, dV]
      gi_wp2_with fail
      have g := (Gr.refl W).alloc (.cells #[.int .u32 xa, .int .u32 xo, .int .u32 xf] 32)
      exact HK.out _ _ (g.from _) (Kp.gr hpb g) (ps_con.gr HI.out g) ⟨W.heap.size, Bk.new _ _ _, rfl⟩
    · intro li p pre x a' W hli hrl hp hpb hI hA hpre
      obtain ⟨b8, k8, rfl⟩ := hA
      simp only [List.setIfInBounds_toArray, List.set_cons_succ, List.set_cons_zero]
      obtain ⟨n, hn⟩ : ∃ n, n = pre.length := ⟨_, rfl⟩
      obtain ⟨hnL, hnx⟩ : n < L.length ∧ nth L n = x := by
        obtain ⟨t, ht⟩ := hpre
        rw [← ht, hn]
        refine ⟨by simp, ?_⟩
        simp [nth, List.getD]
      have PW := HP.out.below hI.bel
      obtain ⟨g, cp, e0, _, RG, _⟩ : ∃ g cp, Value.slice ra L.length rcp = .slice (some ⟨g, 0, none⟩) L.length cp ∧ B ≤ g ∧ RowG W g cp L ∧ L.length ≤ cp := by
        rcases PW.rf.shape with ⟨_, h⟩ | h
        · subst h; simp at hnL
        · exact h
      have hnL' : (n : Int) < (L.length : Int) := by omega
      have hge : ¬ (n : Int) ≥ (L.length : Int) := by omega
      have hgd : decide (L.length ≤ n) = false := decide_eq_false (by omega)
      have c7 := fun q => below_cell hI.k7.one ((Gr.refl W).drewN q).below
      rw [← hn] at c7
      have c3 := fun q => below_cell hI.k3.one ((Gr.refl W).drewN q).below
      have cr := fun q => below_cell PW.rf.cells.2 ((Gr.refl W).drewN q).below
      rw [e0] at cr
      have p0 := fun q => below_cell (RG.at.cell hnL).1 ((Gr.refl W).drewN q).below
      have p1 := fun q => below_cell (RG.at.cell hnL).2.1 ((Gr.refl W).drewN q).below
      have p2 := fun q => below_cell (RG.at.cell hnL).2.2 ((Gr.refl W).drewN q).below
      rw [show L.getD n (0, 0, 0) = x from hnx] at p0 p1 p2
      have x0 := fun q => below_cell (k8.at 0) ((Gr.refl W).drewN q).below
      have x1 := fun q => below_cell (k8.at 1) ((Gr.refl W).drewN q).below
      have x2 := fun q => below_cell (k8.at 2) ((Gr.refl W).drewN q).below
      have EQ := run_neD x x
      simp only [decide_true, Bool.not_true] at EQ
      have HN := hid0 hn
      have HI := hid0 hI
      clear hnx hn hpre PW RG e0 hI k8
      obtain ⟨xa, xo, xf⟩ := x
      dsimp only [dV] at EQ
      dsimp only at p0 p1 p2
      gi_wp2_with fail
      refine quiet_round rfl (by kernel_rfl) (by kernel_rfl) (by kernel_rfl) ?_
      repeat (gi_big_quiet_step (fail))
      refine wpQuietIn_nil ?_
      rintro _ ⟨nq, rfl⟩
      have I2 := HI.out.gr ((Gr.refl W).drewN nq)
      have K1 := hid0 (((Gr.refl W).drewN nq).from Y.heap.size)
      have K2 := hid0 (Kp.gr hpb ((Gr.refl W).drewN nq))
      clear c7 c3 cr p0 p1 p2 x0 x1 x2 EQ HI
      generalize W.drewN nq = W2 at *
      have y7 := I2.k7.one
      rw [← HN.out] at y7
      have f7 := I2.k7.frozen 0
      obtain ⟨I3, K3, K4⟩ := I2.store (xa, xo, xf) HN.out
      have hwn : wrap64 ((n : Int) + 1) = (n : Int) + 1 := by unfold wrap64; omega
      have K5 := hid0 (K1.out.trans K3)
      have K6 := hid0 (K2.out.t K4)
      have y6 := I3.k6.one
      have I4 := hid0 I3
      clear I2 I3 K3 K4 K1 K2
      gi_wp2
      exact ⟨K5.out, K6.out, I4.out⟩
  case done =>
    rintro D0 A hD0 ⟨pre, I, hpre⟩ e0
    have hl0 : A.heap.size ≥ w.heap.size := I.bel.size
    replace hD0 : w.heap.size ≤ D0 := by omega
    have k3 := I.k3
    have k4 := I.k4
    have k6 := I.k6
    replace k7 := I.k7
    have kt := I.kt
    have bel := I.bel
    clear SQ e34 I0 hY n6 hb7
    have hpl : pre = L := by
      rcases hpre with h | h
      · exact h
      · exact h.elim
    rw [hpl] at k7
    clear I hpre hpl
    have hdd : decide (L.length = L.length) = true := decide_eq_true rfl
    have PA := HP.out.below bel
    have c6 := fun q => below_cell k6.one ((Gr.refl A).drewN q).below
    have c7 := fun q => below_cell k7.one ((Gr.refl A).drewN q).below
    have c3 := fun q => below_cell k3.one ((Gr.refl A).drewN q).below
    have cr := fun q => below_cell PA.rf.cells.2 ((Gr.refl A).drewN q).below
    clear PA
    go_wp2_with fail
    go_quiet (fail)
    have gd := (Gr.refl A).drewN nq
    replace k3 := k3.gr gd
    replace k4 := k4.gr gd
    replace kt := kt.gr gd
    replace k6 := k6.gr gd
    replace bel := bel.trans (gd.below.mono bel.size)
    replace e0 := (gd.below.block D0 (lt_of_block e0)).trans e0
    clear c6 c7 c3 cr k7 hl0 gd
    generalize A.drewN nq = X at *
    have y6 := k6.one
    have k6' := Bk.new X 3 [.int .i64 0]
    have y6' := k6'.one
    have f6' := k6'.frozen 0
    go_wp2
    clear y6' f6' k6' k6 y6
    have g6 := (Gr.refl X).alloc (.cells #[.int .i64 1] 3)
    have k6 := Bk.new X 3 [.int .i64 1]
    have hl0 := bel.size
    replace k3 := k3.gr g6
    replace k4 := k4.gr g6
    replace kt := kt.gr g6
    replace bel := bel.trans (g6.below.mono bel.size)
    replace e0 := (g6.below.block D0 (lt_of_block e0)).trans e0
    obtain ⟨b6, e6⟩ : ∃ b6, b6 = X.heap.size := ⟨_, rfl⟩
    rw [← e6] at k6 ⊢
    have hb6 : w.heap.size ≤ b6 := by omega
    generalize X.alloc _ = X at *
    clear e6 g6 hl0
    rw [rounds_succ]
    -- pass 1
    have y6 := k6.one
    have k7 := Bk.new X 3 [.int .i64 0]
    have g7 := (Gr.refl X).alloc (.cells #[.int .i64 0] 3)
    have n6 : b6 ≠ X.heap.size := by have := k6.lt; omega
    have hX0 := bel.size
    go_wp2_with fail
    replace k3 := k3.gr g7
    replace k4 := k4.gr g7
    replace kt := kt.gr g7
    replace k6 := k6.gr g7
    replace bel := bel.trans (g7.below.mono bel.size)
    replace e0 := ((g7.below.block D0 (lt_of_block e0)).trans e0)
    generalize X.alloc _ = Y at *
    obtain ⟨b7, e7⟩ : ∃ b7, b7 = X.heap.size := ⟨_, rfl⟩
    rw [← e7] at k7 n6 ⊢
    have hb7 : w.heap.size ≤ b7 := by omega
    clear e7 g7 y6 hX0
    have hY := bel.size
    have PX := HP.out.below bel
    have SQ := all1_seq 19 bt (by omega) (.pointer (some ⟨d, 0, none⟩)) L hLm Y kt (fun _ => False) (fun W g => sorted_yes (PX.ds.gr g) L PX.so)
    have I0 : Ps w Y r b3 b4 b6 b7 bt d 1 (fun _ => False) [] Y := ⟨Chg.refl _ _, k3, k4, k6, k7, kt, bel, fun _ h => h.elim, n6, hb7, k7.lt, hY⟩
    have e34 := E34.out
    clear PX k6 kt k4 k3 bel
    refine (wpIn_wide (n := 20)).1 ?_
    refine range_brk (p0 := fun _ => False) (L := L) (I := Ps w Y r b3 b4 b6 b7 bt d 1) (Ix := fun c pre A => c = .exit 2 ∧ True ∧ Ps w Y r b3 b4 b6 b7 bt d 1 (fun _ => False) pre A) 2
      rfl e34 SQ ?owes (fun _ => False) (fun _ h => h) (fun _ h => h.elim) I0 (fun A => ∃ pre, Ps w Y r b3 b4 b6 b7 bt d 1 (fun _ => False) pre A ∧ (pre = L ∨ True)) (fun q A hI => ⟨L, hI.nop, .inl rfl⟩) (fun c pre A hx => ⟨hx.1, pre, hx.2.2, .inr hx.2.1⟩) (fun _ _ h => by simpa [Exit.inBlock] using h) ?done
    case owes =>
      clear SQ e34 hE I0 hLl k7
      refine ⟨ps_con, fun c s A A' row h hg hr => ⟨h.1, h.2.1, ps_con.own _ _ _ _ _ h.2.2 hg hr⟩, fun x a' _ A A' row h hg hr => ?_, fun _ => rfl, ?_, ?_⟩
      · obtain ⟨b8, h1, h2⟩ := h
        exact ⟨b8, h1.chg (Chg.grownR hg) (fun e => by
          obtain ⟨o, h3, h4⟩ := (hr b8 e).2
          unfold Bk at h1
          rw [h1] at h3
          cases h3
          cases h4), h2⟩
      · intro li p pre x W K hp hpb hI hs hK
        obtain ⟨xa, xo, xf⟩ := x
        have HK := hid0 hK
        have HI := hid0 hI
        clear hK hI
        simp only [dE, dV]
        gi_wp2_with fail
        have g := (Gr.refl W).alloc (.cells #[.int .u32 xa, .int .u32 xo, .int .u32 xf] 32)
        exact HK.out _ _ (g.from _) (Kp.gr hpb g) (ps_con.gr HI.out g) ⟨W.heap.size, Bk.new _ _ _, rfl⟩
      · intro li p pre x a' W hli hrl hp hpb hI hA hpre
        obtain ⟨b8, k8, rfl⟩ := hA
        simp only [List.setIfInBounds_toArray, List.set_cons_succ, List.set_cons_zero]
        obtain ⟨n, hn⟩ : ∃ n, n = pre.length := ⟨_, rfl⟩
        obtain ⟨hnL, hnx⟩ : n < L.length ∧ nth L n = x := by
          obtain ⟨t, ht⟩ := hpre
          rw [← ht, hn]
          refine ⟨by simp, ?_⟩
          simp [nth, List.getD]
        have PW := HP.out.below hI.bel
        obtain ⟨g, cp, e0, _, RG, _⟩ : ∃ g cp, Value.slice ra L.length rcp = .slice (some ⟨g, 0, none⟩) L.length cp ∧ B ≤ g ∧ RowG W g cp L ∧ L.length ≤ cp := by
          rcases PW.rf.shape with ⟨_, h⟩ | h
          · subst h; simp at hnL
          · exact h
        have hnL' : (n : Int) < (L.length : Int) := by omega
        have hge : ¬ (n : Int) ≥ (L.length : Int) := by omega
        have hgd : decide (L.length ≤ n) = false := decide_eq_false (by omega)
        have c7 := fun q => below_cell hI.k7.one ((Gr.refl W).drewN q).below
        rw [← hn] at c7
        have c3 := fun q => below_cell hI.k3.one ((Gr.refl W).drewN q).below
        have cr := fun q => below_cell PW.rf.cells.2 ((Gr.refl W).drewN q).below
        rw [e0] at cr
        have p0 := fun q => below_cell (RG.at.cell hnL).1 ((Gr.refl W).drewN q).below
        have p1 := fun q => below_cell (RG.at.cell hnL).2.1 ((Gr.refl W).drewN q).below
        have p2 := fun q => below_cell (RG.at.cell hnL).2.2 ((Gr.refl W).drewN q).below
        rw [show L.getD n (0, 0, 0) = x from hnx] at p0 p1 p2
        have x0 := fun q => below_cell (k8.at 0) ((Gr.refl W).drewN q).below
        have x1 := fun q => below_cell (k8.at 1) ((Gr.refl W).drewN q).below
        have x2 := fun q => below_cell (k8.at 2) ((Gr.refl W).drewN q).below
        have EQ := run_neD x x
        simp only [decide_true, Bool.not_true] at EQ
        have HN := hid0 hn
        have HI := hid0 hI
        clear hnx hn hpre PW RG e0 hI k8
        obtain ⟨xa, xo, xf⟩ := x
        dsimp only [dV] at EQ
        dsimp only at p0 p1 p2
        gi_wp2_with fail
        refine quiet_round rfl (by kernel_rfl) (by kernel_rfl) (by kernel_rfl) ?_
        repeat (gi_big_quiet_step (fail))
        refine wpQuietIn_nil ?_
        rintro _ ⟨nq, rfl⟩
        have I2 := HI.out.gr ((Gr.refl W).drewN nq)
        have K1 := hid0 (((Gr.refl W).drewN nq).from Y.heap.size)
        have K2 := hid0 (Kp.gr hpb ((Gr.refl W).drewN nq))
        clear c7 c3 cr p0 p1 p2 x0 x1 x2 EQ HI
        generalize W.drewN nq = W2 at *
        have y7 := I2.k7.one
        rw [← HN.out] at y7
        have f7 := I2.k7.frozen 0
        obtain ⟨I3, K3, K4⟩ := I2.store (xa, xo, xf) HN.out
        have hwn : wrap64 ((n : Int) + 1) = (n : Int) + 1 := by unfold wrap64; omega
        have K5 := hid0 (K1.out.trans K3)
        have K6 := hid0 (K2.out.t K4)
        have y6 := I3.k6.one
        have I4 := hid0 I3
        clear I2 I3 K3 K4 K1 K2
        gi_wp2
        exact ⟨K5.out, rfl, trivial, I4.out.nop⟩
    case done =>
      rintro D1 A hD1 ⟨pre, I, hpre⟩ e1
      have hl0 : A.heap.size ≥ w.heap.size := I.bel.size
      have n01 : D0 ≠ D1 := by have := lt_of_block e0; omega
      replace e0 := ((I.ch.block D0 (lt_of_block e0) (fun q => by
        have kk := k7
        rw [← q] at kk
        unfold Bk at kk
        rw [e0] at kk
        cases kk)).trans e0)
      replace hD1 : w.heap.size ≤ D1 := by omega
      have k3 := I.k3
      have k4 := I.k4
      have k6 := I.k6
      replace k7 := I.k7
      have kt := I.kt
      have bel := I.bel
      clear SQ e34 I0 hY n6 hb7
      clear I hpre
      have PA := HP.out.below bel
      have c6 := fun q => below_cell k6.one ((Gr.refl A).drewN q).below
      have c7 := fun q => below_cell k7.one ((Gr.refl A).drewN q).below
      have c3 := fun q => below_cell k3.one ((Gr.refl A).drewN q).below
      have cr := fun q => below_cell PA.rf.cells.2 ((Gr.refl A).drewN q).below
      clear PA
      go_wp2_with fail
      go_quiet (fail)
      have gd := (Gr.refl A).drewN nq
      replace k3 := k3.gr gd
      replace k4 := k4.gr gd
      replace kt := kt.gr gd
      replace k6 := k6.gr gd
      replace bel := bel.trans (gd.below.mono bel.size)
      replace e0 := (gd.below.block D0 (lt_of_block e0)).trans e0
      replace e1 := (gd.below.block D1 (lt_of_block e1)).trans e1
      clear c6 c7 c3 cr k7 hl0 gd
      generalize A.drewN nq = X at *
      have y6 := k6.one
      have k6' := Bk.new X 3 [.int .i64 1]
      have y6' := k6'.one
      have f6' := k6'.frozen 0
      go_wp2
      clear y6' f6' k6' k6 y6
      have g6 := (Gr.refl X).alloc (.cells #[.int .i64 2] 3)
      have k6 := Bk.new X 3 [.int .i64 2]
      have hl0 := bel.size
      replace k3 := k3.gr g6
      replace k4 := k4.gr g6
      replace kt := kt.gr g6
      replace bel := bel.trans (g6.below.mono bel.size)
      replace e0 := (g6.below.block D0 (lt_of_block e0)).trans e0
      replace e1 := (g6.below.block D1 (lt_of_block e1)).trans e1
      obtain ⟨b6, e6⟩ : ∃ b6, b6 = X.heap.size := ⟨_, rfl⟩
      rw [← e6] at k6 ⊢
      have hb6 : w.heap.size ≤ b6 := by omega
      generalize X.alloc _ = X at *
      clear e6 g6 hl0
      rw [rounds_succ]
      -- pass 2
      have y6 := k6.one
      have k7 := Bk.new X 3 [.int .i64 0]
      have g7 := (Gr.refl X).alloc (.cells #[.int .i64 0] 3)
      have n6 : b6 ≠ X.heap.size := by have := k6.lt; omega
      have hX0 := bel.size
      go_wp2_with fail
      replace k3 := k3.gr g7
      replace k4 := k4.gr g7
      replace kt := kt.gr g7
      replace k6 := k6.gr g7
      replace bel := bel.trans (g7.below.mono bel.size)
      replace e0 := ((g7.below.block D0 (lt_of_block e0)).trans e0)
      replace e1 := ((g7.below.block D1 (lt_of_block e1)).trans e1)
      generalize X.alloc _ = Y at *
      obtain ⟨b7, e7⟩ : ∃ b7, b7 = X.heap.size := ⟨_, rfl⟩
      rw [← e7] at k7 n6 ⊢
      have hb7 : w.heap.size ≤ b7 := by omega
      clear e7 g7 y6 hX0
      have hY := bel.size
      have PX := HP.out.below bel
      have SQ := all1_seq 19 bt (by omega) (.pointer (some ⟨d, 0, none⟩)) L hLm Y kt (fun _ => False) (fun W g => sorted_yes (PX.ds.gr g) L PX.so)
      have I0 : Ps w Y r b3 b4 b6 b7 bt d 2 (fun _ => False) [] Y := ⟨Chg.refl _ _, k3, k4, k6, k7, kt, bel, fun _ h => h.elim, n6, hb7, k7.lt, hY⟩
      have e34 := E34.out
      clear PX k6 kt k4 k3 bel
      refine (wpIn_wide (n := 20)).1 ?_
      refine range_brk (p0 := fun _ => False) (L := L) (I := Ps w Y r b3 b4 b6 b7 bt d 2) (Ix := fun c pre A => c = .exit 2 ∧ False ∧ Ps w Y r b3 b4 b6 b7 bt d 2 (fun _ => False) pre A) 2
        rfl e34 SQ ?owes (fun _ => False) (fun _ h => h) (fun _ h => h.elim) I0 (fun A => ∃ pre, Ps w Y r b3 b4 b6 b7 bt d 2 (fun _ => False) pre A ∧ (pre = L ∨ False)) (fun q A hI => ⟨L, hI.nop, .inl rfl⟩) (fun c pre A hx => ⟨hx.1, pre, hx.2.2, .inr hx.2.1⟩) (fun _ _ h => by simpa [Exit.inBlock] using h) ?done
      case owes =>
        clear SQ e34 hE I0 hLl k7
        refine ⟨ps_con, fun c s A A' row h hg hr => ⟨h.1, h.2.1, ps_con.own _ _ _ _ _ h.2.2 hg hr⟩, fun x a' _ A A' row h hg hr => ?_, fun _ => rfl, ?_, ?_⟩
        · obtain ⟨b8, h1, h2⟩ := h
          exact ⟨b8, h1.chg (Chg.grownR hg) (fun e => by
            obtain ⟨o, h3, h4⟩ := (hr b8 e).2
            unfold Bk at h1
            rw [h1] at h3
            cases h3
            cases h4), h2⟩
        · intro li p pre x W K hp hpb hI hs hK
          obtain ⟨xa, xo, xf⟩ := x
          have HK := hid0 hK
          have HI := hid0 hI
          clear hK hI
          simp only [dE, dV]
          gi_wp2_with fail
          have g := (Gr.refl W).alloc (.cells #[.int .u32 xa, .int .u32 xo, .int .u32 xf] 32)
          exact HK.out _ _ (g.from _) (Kp.gr hpb g) (ps_con.gr HI.out g) ⟨W.heap.size, Bk.new _ _ _, rfl⟩
        · intro li p pre x a' W hli hrl hp hpb hI hA hpre
          obtain ⟨b8, k8, rfl⟩ := hA
          simp only [List.setIfInBounds_toArray, List.set_cons_succ, List.set_cons_zero]
          obtain ⟨n, hn⟩ : ∃ n, n = pre.length := ⟨_, rfl⟩
          obtain ⟨hnL, hnx⟩ : n < L.length ∧ nth L n = x := by
            obtain ⟨t, ht⟩ := hpre
            rw [← ht, hn]
            refine ⟨by simp, ?_⟩
            simp [nth, List.getD]
          have PW := HP.out.below hI.bel
          obtain ⟨g, cp, e0, _, RG, _⟩ : ∃ g cp, Value.slice ra L.length rcp = .slice (some ⟨g, 0, none⟩) L.length cp ∧ B ≤ g ∧ RowG W g cp L ∧ L.length ≤ cp := by
            rcases PW.rf.shape with ⟨_, h⟩ | h
            · subst h; simp at hnL
            · exact h
          have hnL' : (n : Int) < (L.length : Int) := by omega
          have hge : ¬ (n : Int) ≥ (L.length : Int) := by omega
          have hgd : decide (L.length ≤ n) = false := decide_eq_false (by omega)
          have c7 := fun q => below_cell hI.k7.one ((Gr.refl W).drewN q).below
          rw [← hn] at c7
          have c3 := fun q => below_cell hI.k3.one ((Gr.refl W).drewN q).below
          have cr := fun q => below_cell PW.rf.cells.2 ((Gr.refl W).drewN q).below
          rw [e0] at cr
          have p0 := fun q => below_cell (RG.at.cell hnL).1 ((Gr.refl W).drewN q).below
          have p1 := fun q => below_cell (RG.at.cell hnL).2.1 ((Gr.refl W).drewN q).below
          have p2 := fun q => below_cell (RG.at.cell hnL).2.2 ((Gr.refl W).drewN q).below
          rw [show L.getD n (0, 0, 0) = x from hnx] at p0 p1 p2
          have x0 := fun q => below_cell (k8.at 0) ((Gr.refl W).drewN q).below
          have x1 := fun q => below_cell (k8.at 1) ((Gr.refl W).drewN q).below
          have x2 := fun q => below_cell (k8.at 2) ((Gr.refl W).drewN q).below
          have EQ := run_neD x x
          simp only [decide_true, Bool.not_true] at EQ
          have HN := hid0 hn
          have HI := hid0 hI
          clear hnx hn hpre PW RG e0 hI k8
          obtain ⟨xa, xo, xf⟩ := x
          dsimp only [dV] at EQ
          dsimp only at p0 p1 p2
          gi_wp2_with fail
          refine quiet_round rfl (by kernel_rfl) (by kernel_rfl) (by kernel_rfl) ?_
          repeat (gi_big_quiet_step (fail))
          refine wpQuietIn_nil ?_
          rintro _ ⟨nq, rfl⟩
          have I2 := HI.out.gr ((Gr.refl W).drewN nq)
          have K1 := hid0 (((Gr.refl W).drewN nq).from Y.heap.size)
          have K2 := hid0 (Kp.gr hpb ((Gr.refl W).drewN nq))
          clear c7 c3 cr p0 p1 p2 x0 x1 x2 EQ HI
          generalize W.drewN nq = W2 at *
          have y7 := I2.k7.one
          rw [← HN.out] at y7
          have f7 := I2.k7.frozen 0
          obtain ⟨I3, K3, K4⟩ := I2.store (xa, xo, xf) HN.out
          have hwn : wrap64 ((n : Int) + 1) = (n : Int) + 1 := by unfold wrap64; omega
          have K5 := hid0 (K1.out.trans K3)
          have K6 := hid0 (K2.out.t K4)
          have y6 := I3.k6.one
          have I4 := hid0 I3
          clear I2 I3 K3 K4 K1 K2
          gi_wp2
          exact ⟨K5.out, K6.out, I4.out⟩
      case done =>
        rintro D2 A hD2 ⟨pre, I, hpre⟩ e2
        have hl0 : A.heap.size ≥ w.heap.size := I.bel.size
        have n02 : D0 ≠ D2 := by have := lt_of_block e0; omega
        have n12 : D1 ≠ D2 := by have := lt_of_block e1; omega
        replace e0 := ((I.ch.block D0 (lt_of_block e0) (fun q => by
          have kk := k7
          rw [← q] at kk
          unfold Bk at kk
          rw [e0] at kk
          cases kk)).trans e0)
        replace e1 := ((I.ch.block D1 (lt_of_block e1) (fun q => by
          have kk := k7
          rw [← q] at kk
          unfold Bk at kk
          rw [e1] at kk
          cases kk)).trans e1)
        replace hD2 : w.heap.size ≤ D2 := by omega
        have k3 := I.k3
        have k4 := I.k4
        have k6 := I.k6
        replace k7 := I.k7
        have kt := I.kt
        have bel := I.bel
        clear SQ e34 I0 hY n6 hb7
        have hpl : pre = L := by
          rcases hpre with h | h
          · exact h
          · exact h.elim
        rw [hpl] at k7
        clear I hpre hpl
        have hdd : decide (L.length = L.length) = true := decide_eq_true rfl
        have PA := HP.out.below bel
        have c6 := fun q => below_cell k6.one ((Gr.refl A).drewN q).below
        have c7 := fun q => below_cell k7.one ((Gr.refl A).drewN q).below
        have c3 := fun q => below_cell k3.one ((Gr.refl A).drewN q).below
        have cr := fun q => below_cell PA.rf.cells.2 ((Gr.refl A).drewN q).below
        clear PA
        go_wp2_with fail
        go_quiet (fail)
        have gd := (Gr.refl A).drewN nq
        replace k3 := k3.gr gd
        replace k4 := k4.gr gd
        replace kt := kt.gr gd
        replace k6 := k6.gr gd
        replace bel := bel.trans (gd.below.mono bel.size)
        replace e0 := (gd.below.block D0 (lt_of_block e0)).trans e0
        replace e1 := (gd.below.block D1 (lt_of_block e1)).trans e1
        replace e2 := (gd.below.block D2 (lt_of_block e2)).trans e2
        clear c6 c7 c3 cr k7 hl0 gd
        generalize A.drewN nq = X at *
        have y6 := k6.one
        have k6' := Bk.new X 3 [.int .i64 2]
        have y6' := k6'.one
        have f6' := k6'.frozen 0
        go_wp2
        clear y6' f6' k6' k6 y6
        have g6 := (Gr.refl X).alloc (.cells #[.int .i64 3] 3)
        have k6 := Bk.new X 3 [.int .i64 3]
        have hl0 := bel.size
        replace k3 := k3.gr g6
        replace k4 := k4.gr g6
        replace kt := kt.gr g6
        replace bel := bel.trans (g6.below.mono bel.size)
        replace e0 := (g6.below.block D0 (lt_of_block e0)).trans e0
        replace e1 := (g6.below.block D1 (lt_of_block e1)).trans e1
        replace e2 := (g6.below.block D2 (lt_of_block e2)).trans e2
        obtain ⟨b6, e6⟩ : ∃ b6, b6 = X.heap.size := ⟨_, rfl⟩
        rw [← e6] at k6 ⊢
        have hb6 : w.heap.size ≤ b6 := by omega
        generalize X.alloc _ = X at *
        clear e6 g6 hl0
        rw [rounds_succ]
        have y6 := k6.one
        have PA := HP.out.below bel
        have LN := hid0 (fun W' (g : Gr X W') => len_yes (PA.ds.gr g))
        have nd : ∀ q o, X.heap[q]? = some (.deferred o) → q ≠ b4 := fun q o e e2 => by
          rw [e2] at e
          unfold Bk at k4
          rw [k4] at e
          cases e
        have nd0 := hid0 (nd D0 _ e0)
        have nd1 := hid0 (nd D1 _ e1)
        have nd2 := hid0 (nd D2 _ e2)
        have rc1 := PA.rf.cells.2
        have hdd : decide (L.length = L.length) = true := decide_eq_true rfl
        have c3 := k3.one
        have c4 := k4.one
        have f4 := k4.frozen 0
        have K4 := hid0 k4
        have hB := hid0 bel
        have E0 := hid0 e0
        have E1 := hid0 e1
        have E2 := hid0 e2
        clear nd PA k3 k4 bel e0 e1 e2 hE k6 kt
        go_wp2_with fail
        refine wp_then' ?_
        go_region_with (go_at_call 10; refine (LN.out _ ((Gr.refl X).drew)).mono ?_; rintro e w' ⟨rfl, hw⟩; cases hw)
        all_goals
          have k0 := K4.out.set 0 (.bool true)
          have B0 : Below w.heap.size w (X.setCell ⟨b4, 0, none⟩ (.bool true)) := Below.setCell (p := ⟨b4, 0, none⟩) hB.out hb4 (.bool true)
          have e0 : (X.setCell ⟨b4, 0, none⟩ (.bool true)).heap[D0]? = some (.deferred (some [])) := (Below.heap_setCell _ _ _ _ nd0.out).trans E0.out
          have e1 : (X.setCell ⟨b4, 0, none⟩ (.bool true)).heap[D1]? = some (.deferred (some [])) := (Below.heap_setCell _ _ _ _ nd1.out).trans E1.out
          have e2 : (X.setCell ⟨b4, 0, none⟩ (.bool true)).heap[D2]? = some (.deferred (some [])) := (Below.heap_setCell _ _ _ _ nd2.out).trans E2.out
          have gd := (Gr.refl (X.setCell ⟨b4, 0, none⟩ (.bool true))).drew
          have k1 := hid0 (k0.gr gd)
          have B1 := hid0 (B0.trans (gd.below.mono B0.size))
          have e3 := hid0 ((gd.below.block D0 (lt_of_block e0)).trans e0)
          have e4 := hid0 ((gd.below.block D1 (lt_of_block e1)).trans e1)
          have e5 := hid0 ((gd.below.block D2 (lt_of_block e2)).trans e2)
          clear k0 B0 e0 e1 e2 gd K4 hB E0 E1 E2 LN c4 f4 c3 rc1 y6
          generalize World.drew _ = Y at *
          have g1 := grownBy_putObj' Y D2 (.deferred none)
          have k2 : Bk (Y.putObj D2 (.deferred none)) b4 4 [.bool true] := (g1.block b4 k1.out.lt (fun e => nd2.out (by cases e; rfl))).trans k1.out
          have e6 : (Y.putObj D2 (.deferred none)).heap[D1]? = some (.deferred (some [])) := (World.putObj_heap_other n12).trans e4.out
          have e7 : (Y.putObj D2 (.deferred none)).heap[D0]? = some (.deferred (some [])) := (World.putObj_heap_other n02).trans e3.out
          have B2 := B1.out.trans (belowK_b (w := w) (Nat.le_refl _) Y D2 _ (.deferred none) hD2 e5.out rfl rfl)
          have g2 := grownBy_putObj' (Y.putObj D2 (.deferred none)) D1 (.deferred none)
          have k3 : Bk ((Y.putObj D2 (.deferred none)).putObj D1 (.deferred none)) b4 4 [.bool true] := (g2.block b4 k2.lt (fun e => nd1.out (by cases e; rfl))).trans k2
          have e8 : ((Y.putObj D2 (.deferred none)).putObj D1 (.deferred none)).heap[D0]? = some (.deferred (some [])) := (World.putObj_heap_other n01).trans e7
          have B3 := B2.trans (belowK_b (w := w) (Nat.le_refl _) (Y.putObj D2 (.deferred none)) D1 _ (.deferred none) hD1 e6 rfl rfl)
          have g3 := grownBy_putObj' ((Y.putObj D2 (.deferred none)).putObj D1 (.deferred none)) D0 (.deferred none)
          have k4 : Bk (((Y.putObj D2 (.deferred none)).putObj D1 (.deferred none)).putObj D0 (.deferred none)) b4 4 [.bool true] := (g3.block b4 k3.lt (fun e => nd0.out (by cases e; rfl))).trans k3
          have B4 := hid0 (B3.trans (belowK_b (w := w) (Nat.le_refl _) ((Y.putObj D2 (.deferred none)).putObj D1 (.deferred none)) D0 _ (.deferred none) hD0 e8 rfl rfl))
          have q0 := hid0 k4.one
          have e6 := hid0 e6
          have e8 := hid0 e8
          clear g1 k2 B2 g2 k3 g3 k4 B3 e7
          go_wp2
          have q0 := q0.out
          exact ⟨by simp, .inl ⟨_, _, rfl, run_takeDeferred e5.out, by simp, .inl ⟨_, _, rfl, run_takeDeferred e6.out, by simp, .inl ⟨_, _, rfl, run_takeDeferred e8.out, .bool true, by simp [results, Try.results11, go_sem, q0], rfl, B4.out⟩⟩⟩⟩
theorem same_any {B : Nat} {w : World} {d h pb mb : Nat} {v : Value} {l : List Du} {m : Pf} {most r : Nat} {rv : Value} {L : List Du} (P : Pr B w d h pb mb v l m most r rv L) :
    Calls Try.prog 11 #[.pointer (some ⟨d, 0, none⟩), .pointer (some ⟨r, 0, none⟩)] w fun e w' => e = .returned (.bool true) ∧ Below w.heap.size w w' := callsIn_wide.1 (same_in P)
end Go.Proofs.Ytaapdkjmlplhgaa
