/- A Tree's Put. -/
import Derived.Test.YtpikhdfndnpidaaTu
import Derived.Test.YtpikhdfndnpidaaRg
set_option linter.unusedSimpArgs false
set_option linter.unusedVariables false
namespace Go.Proofs.Ytpikhdfndnpidaa
open Go.RowKit Go.Sort

set_option maxRecDepth 20000 in
set_option maxHeartbeats 4000000 in
theorem put_any (T : Nat) (t : At) (i : Int) (q : Q4) (w : World) (h : TreeIs w T t) : Calls Try.prog 13 #[.pointer (some ⟨T, 0, none⟩), .int .u32 i, bv q] w fun e w' => ∃ t' : At, e = .returned (.int .i64 (putE i q t.er.toL)) ∧ TreeIs w' T t' ∧ t'.er.toL = putL i q t.er.toL ∧ w.grownBy w' (some T) := by
  obtain ⟨W, hW⟩ : ∃ W, W = w.alloc (.cells #[.int .i32 q.1, .int .i32 q.2.1, .int .i32 q.2.2.1, .int .i32 q.2.2.2] 36) := ⟨_, rfl⟩
  have g0 : Gr w W := hW ▸ (Gr.refl w).alloc _
  have kb : Bk W w.heap.size 36 [.int .i32 q.1, .int .i32 q.2.1, .int .i32 q.2.2.1, .int .i32 q.2.2.2] := hW ▸ Bk.new w 36 _
  replace h := h.gr g0
  have C0 := hid0 (g0.ch T)
  have I := hid0 (isNone_yes T W h.made)
  have R := hid0 (right_any q.1 q.2.1 q.2.2.1 q.2.2.2 W)
  have H := hid0 h
  obtain ⟨y0, y1, y2, y3⟩ := kb.four
  have KB := hid0 kb
  clear kb g0
  have hR : rgB q.1 q.2.1 q.2.2.1 q.2.2.2 = rgQ q := rfl
  rw [hR] at R
  clear hR
  by_cases c1 : rgQ q = false
  · have e0 : putE i q t.er.toL = 142 := by simp [putE, c1]
    have e1 : Hid (putL i q t.er.toL = t.er.toL) := by unfold Hid putL; rw [e0]; rfl
    rw [e0]
    rw [c1] at R
    clear h e0
    go_enter Try.func13, Try.ntmps13
    go_upto_region 1 with fail
    rw [← hW]
    clear hW
    generalize w.heap.size = BE at *
    go_wp2_with (first
      | (go_at_call 25; refine I.out.mono ?_; rintro e w1 ⟨rfl, hw⟩; cases hw)
      | (go_at_call 31; refine R.out.mono ?_; rintro e w1 ⟨rfl, g⟩))
    go_ret
    exact ⟨t, rfl, H.out.gr g, e1.out.symm, World.grownBy.trans C0.out (g.ch T)⟩
  · have c1' : rgQ q = true := by simpa using c1
    rw [c1'] at R
    have F : Hid (∀ V, Gr W V → Calls Try.prog 32 #[t.ptr, .int .u32 i] V fun e w' => e = .returned (t.find i).ptr ∧ w' = V) := fun V g => find_any t i V (h.tr.gr g)
    have hF := find_has h.srt i
    rw [← At.er_find, At.er_nil] at hF
    by_cases c2 : hasI i t.er.toL = true
    · have e0 : putE i q t.er.toL = 140 := by simp [putE, c1', c2]
      have e1 : Hid (putL i q t.er.toL = t.er.toL) := by unfold Hid putL; rw [e0]; rfl
      rw [e0]
      rw [c2] at hF
      clear h e0
      generalize hfi : t.find i = u at *
      cases u using At.cas with
      | nil => cases hF
      | nd b i2 q2 l hh =>
        have FX : Hid (∀ V, Gr W V → Calls Try.prog 32 #[t.ptr, .int .u32 i] V fun e w' => e = .returned (.pointer (some ⟨b, 0, none⟩)) ∧ w' = V) := F.out
        replace F := FX
        clear FX
        have FT : Hid (TreeIs W T t) := H
        clear hF hfi
        obtain ⟨tp, htp⟩ : ∃ tp, t.ptr = tp := ⟨_, rfl⟩
        have RT : Hid (∀ V, Gr W V → V.cell? ⟨T, 1, none⟩ = some tp) := fun V g => htp ▸ (H.out.gr g).root
        have F' : Hid (∀ V, Gr W V → Calls Try.prog 32 #[tp, .int .u32 i] V fun e w' => e = .returned (.pointer (some ⟨b, 0, none⟩)) ∧ w' = V) := htp ▸ F
        clear htp F
        go_enter Try.func13, Try.ntmps13
        go_upto_region 1 with fail
        rw [← hW]
        clear hW
        generalize w.heap.size = BE at *
        go_wp2_with (go_at_call 25; refine I.out.mono ?_; rintro e w1 ⟨rfl, hw⟩; cases hw)
        refine R.out.mono ?_
        rintro e V ⟨rfl, g⟩
        have r1 := RT.out V g
        have G := hid0 g
        have FV := hid0 (F'.out V g)
        clear g R y0 y1 y2 y3 F'
        go_wp2_with (go_at_call 32; refine FV.out.mono ?_; rintro e w1 ⟨rfl, hw⟩; cases hw)
        go_ret
        exact ⟨t, rfl, H.out.gr G.out, e1.out.symm, World.grownBy.trans C0.out (G.out.ch T)⟩
    · have c2' : hasI i t.er.toL = false := by simpa using c2
      rw [c2'] at hF
      generalize hfi : t.find i = u at *
      cases u using At.cas with
      | nd => cases hF
      | nil =>
        have F' : Hid (∀ V, Gr W V → Calls Try.prog 32 #[t.ptr, .int .u32 i] V fun e w' => e = .returned (.pointer none) ∧ w' = V) := F.out
        replace F := F'
        clear hF hfi F'
        have CT : Hid (∀ V, Gr W V → V.cell? ⟨T, 2, none⟩ = some (.int .i64 (t.er.toL.length : Nat))) := fun V g => (h.gr g).count
        have BK0 : Hid (∀ V, Gr W V → Bk V T 64 [.bool true, t.ptr, .int .i64 (t.er.toL.length : Nat)]) := fun V g => (h.gr g).blk
        have WO : Hid (∀ V, Gr W V → Calls Try.prog 33 #[t.ptr, ent i q] V fun e w' => ∃ t' : At, e = .returned t'.ptr ∧ Hid (TrAt w' t') ∧ Hid (t'.er = PT.ins i q t.er) ∧ Gr V w') := fun V g => with_any i q c1' t h.ok (by have := h.few; omega) V (h.tr.gr g)
        obtain ⟨tp, htp⟩ : ∃ tp, t.ptr = tp := ⟨_, rfl⟩
        have RT : Hid (∀ V, Gr W V → V.cell? ⟨T, 1, none⟩ = some tp) := fun V g => htp ▸ (H.out.gr g).root
        rw [htp] at F WO BK0
        clear htp
        by_cases c3 : 65536 ≤ t.er.toL.length
        · have e0 : putE i q t.er.toL = 5 := by simp [putE, c1', c2', c3]
          have e1 : Hid (putL i q t.er.toL = t.er.toL) := by unfold Hid putL; rw [e0]; rfl
          rw [e0]
          have c3' : (65536 : Int) ≤ ((t.er.toL.length : Nat) : Int) := by omega
          clear h e0 c3 WO BK0
          generalize ((t.er.toL.length : Nat) : Int) = LL at *
          go_enter Try.func13, Try.ntmps13
          go_upto_region 1 with fail
          rw [← hW]
          clear hW
          generalize w.heap.size = BE at *
          go_wp2_with (go_at_call 25; refine I.out.mono ?_; rintro e w1 ⟨rfl, hw⟩; cases hw)
          refine R.out.mono ?_
          rintro e V ⟨rfl, g⟩
          have r1 := RT.out V g
          have r2 := CT.out V g
          have G := hid0 g
          have FV := hid0 (F.out V g)
          clear g R y0 y1 y2 y3 F
          go_wp2_with (go_at_call 32; refine FV.out.mono ?_; rintro e w1 ⟨rfl, hw⟩; cases hw)
          go_ret
          exact ⟨t, rfl, H.out.gr G.out, e1.out.symm, World.grownBy.trans C0.out (G.out.ch T)⟩
        · have e0 : putE i q t.er.toL = 0 := by simp [putE, c1', c2', c3]
          have e1 : Hid (putL i q t.er.toL = insL i q t.er.toL) := by unfold Hid putL; rw [e0]; rfl
          rw [e0]
          have c3' : ¬ (65536 : Int) ≤ ((t.er.toL.length : Nat) : Int) := by omega
          have hw1 : wrap64 (((t.er.toL.length : Nat) : Int) + 1) = ((t.er.toL.length + 1 : Nat) : Int) := by unfold wrap64; omega
          have C3 := hid0 c3
          clear h e0 c3
          obtain ⟨LM, hLM⟩ : ∃ LM, LM = ((t.er.toL.length + 1 : Nat) : Int) := ⟨_, rfl⟩
          have HM := hid0 hLM
          rw [← hLM] at hw1
          clear hLM
          generalize ((t.er.toL.length : Nat) : Int) = LL at *
          go_enter Try.func13, Try.ntmps13
          go_upto_region 1 with fail
          rw [← hW]
          clear hW
          generalize w.heap.size = BE at *
          go_wp2_with (go_at_call 25; refine I.out.mono ?_; rintro e w1 ⟨rfl, hw⟩; cases hw)
          refine R.out.mono ?_
          rintro e V ⟨rfl, g⟩
          have r1 := RT.out V g
          have r2 := CT.out V g
          have G := hid0 g
          have FV := hid0 (F.out V g)
          have kb := KB.out.gr g
          clear g R y0 y1 y2 y3 F
          go_wp2_with (go_at_call 32; refine FV.out.mono ?_; rintro e w1 ⟨rfl, hw⟩; cases hw)
          obtain ⟨y0, y1, y2, y3⟩ := kb.four
          have BLK := hid0 (BK0.out V G.out)
          go_region_with (go_at_call 33; refine (WO.out _ (G.out.trans (by first | exact Gr.refl _ | exact (Gr.refl _).drew))).mono ?_; rintro e v ⟨t', rfl, X, Y, g⟩; have B2 := BLK.out.gr (Gr.trans ((Gr.refl _).drew) g); have z1 := B2.at 1; have f1 := B2.frozen 1; simp only [List.getElem?_cons_zero, List.getElem?_cons_succ] at z1; obtain ⟨po, hp⟩ := t'.ptr_eq; have HP := hid0 hp; rw [hp]; clear hp)
          all_goals
            have gg : Gr V v := Gr.trans ((Gr.refl _).drew) g
            have B2 := BLK.out.gr gg
            have k1 := B2.set 1 (.pointer po)
            have z2 := k1.at 2
            have f2 := k1.frozen 2
            simp only [List.set_cons_zero, List.set_cons_succ, List.getElem?_cons_zero, List.getElem?_cons_succ] at z2
            have k2 := hid0 (k1.set 2 (.int .i64 LM))
            have CC := hid0 (World.grownBy.trans (World.grownBy.trans (gg.ch T) (ch_set v T 1 (.pointer po))) (ch_set _ T 2 (.int .i64 LM)))
            have NN := hid0 ((Nk.set (i := 1) B2 (by decide) (.pointer po)).trans (Nk.set (i := 2) k1 (by decide) (.int .i64 LM)))
            clear B2 k1 gg g r1 r2 z1 f1 kb y0 y1 y2 y3
            generalize v.setCell ⟨T, 1, none⟩ (.pointer po) = V1 at *
            go_wp2
            go_ret
            have hL : t'.er.toL = insL i q t.er.toL := by rw [Y.out]; exact PT.toL_ins i q _ H.out.srt
            have nh : ∀ x ∈ t.er.toL, x.1 ≠ i := fun x hx e => by have := hasI_iff.2 ⟨x.2, (show (i, x.2) ∈ t.er.toL by rw [← e]; exact hx)⟩; rw [c2'] at this; cases this
            refine ⟨t', rfl, ⟨?_, X.out.nk NN.out, by rw [hL]; exact PT.srt_insL i q _ H.out.srt nh, by rw [Y.out]; exact (PT.bal_ins i q _ H.out.bal).1, by rw [Y.out]; exact PT.rg_ins H.out.srt H.out.rg c1', by rw [hL, PT.length_insL]; have := C3.out; omega⟩, hL.trans e1.out.symm, World.grownBy.trans C0.out (World.grownBy.trans (G.out.ch T) CC.out)⟩
            rw [hL, HP.out, PT.length_insL, ← HM.out]
            exact k2.out
end Go.Proofs.Ytpikhdfndnpidaa
