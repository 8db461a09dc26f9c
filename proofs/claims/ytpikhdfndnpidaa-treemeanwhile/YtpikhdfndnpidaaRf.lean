/- The reference's Put in every case. -/
import Derived.Test.YtpikhdfndnpidaaRe
set_option linter.unusedSimpArgs false
set_option linter.unusedVariables false
namespace Go.Proofs.Ytpikhdfndnpidaa
open Go.RowKit Go.Sort Go.Shelf

set_option maxRecDepth 20000 in
set_option maxHeartbeats 4000000 in
theorem rput_any (base R : Nat) (l : List E) (i : Int) (q : Q4) (w : World) (h : RefIs w base R l) (s : PT.Srt l) (hl : l.length ≤ 65536) (hbw : base ≤ w.heap.size) :
    Calls Try.prog 14 #[.pointer (some ⟨R, 0, none⟩), .int .u32 i, bv q] w fun e w' => e = .returned (.int .i64 (putE i q l)) ∧ RefIs w' base R (putL i q l) ∧ RCh w w' base R := by
  by_cases hz : putE i q l = 0
  · rw [hz, putL_ok hz]
    exact rput_ok base R l i q w h s hz hbw
  · rw [putL_no hz]
    obtain ⟨W, hW⟩ : ∃ W, W = w.alloc (.cells #[.int .i32 q.1, .int .i32 q.2.1, .int .i32 q.2.2.1, .int .i32 q.2.2.2] 36) := ⟨_, rfl⟩
    have g0 : Gr w W := hW ▸ (Gr.refl w).alloc _
    have kb : Bk W w.heap.size 36 [.int .i32 q.1, .int .i32 q.2.1, .int .i32 q.2.2.1, .int .i32 q.2.2.2] := hW ▸ Bk.new w 36 _
    have FIN : Hid (∀ V, Gr w V → RefIs V base R l ∧ RCh w V base R) := fun V g => by
      have h' := h
      obtain ⟨_, _, _, kR, _⟩ := h'
      exact ⟨RefIs.gr h g, RCh.gr kR g hbw⟩
    have RR := hid0 (rright_any q.1 q.2.1 q.2.2.1 q.2.2.2 W)
    rw [show rgB q.1 q.2.1 q.2.2.1 q.2.2.2 = rgQ q from rfl] at RR
    have PL : Hid (∀ V, Gr W V → Calls Try.prog 35 #[.pointer (some ⟨R, 0, none⟩), .int .u32 i] V fun e w' => e = .returned (.tuple #[.int .i64 (posL i l : Nat), .bool (hasI i l)]) ∧ Gr V w') := fun V g => place_any base R l i V ((h.gr g0).gr g) s (by omega)
    have IDR : Hid (∀ V, Gr W V → ∃ ao c, V.cell? ⟨R, 0, none⟩ = some (.slice ao l.length c)) := fun V g => by
      obtain ⟨ao, c, h1, _⟩ := ((h.gr g0).gr g).id
      exact ⟨ao, c, h1⟩
    have G0 := hid0 g0
    obtain ⟨y0, y1, y2, y3⟩ := kb.four
    have PE : putE i q l = if rgQ q = false then 142 else if hasI i l then 140 else if 65536 ≤ l.length then 5 else 0 := rfl
    have HL := hid0 hl
    clear h s hbw kb g0 hl
    generalize hpe : putE i q l = pe at *
    generalize rgQ q = rq at *
    generalize hasI i l = hs at *
    generalize posL i l = pp at *
    cases rq with
    | false =>
      simp at PE
      subst PE
      clear hpe
      go_enter Try.func14, Try.ntmps14
      go_upto_region 1 with fail
      rw [← hW]
      clear hW
      generalize w.heap.size = BE at *
      go_wp2_with (go_at_call 34; refine RR.out.mono ?_; rintro e v1 ⟨rfl, g1⟩)
      go_ret
      exact ⟨rfl, FIN.out _ (G0.out.trans g1)⟩
    | true =>
      cases hs with
      | true =>
        simp at PE
        subst PE
        clear hpe
        go_enter Try.func14, Try.ntmps14
        go_upto_region 1 with fail
        rw [← hW]
        clear hW
        generalize w.heap.size = BE at *
        go_wp2_with fail
        refine RR.out.mono ?_
        rintro e v1 ⟨rfl, g1⟩
        have P1 := hid0 (PL.out v1 g1)
        have G1 := hid0 g1
        clear RR PL g1 y0 y1 y2 y3
        go_wp2_with (go_at_call 35; refine P1.out.mono ?_; rintro e v2 ⟨rfl, g2⟩)
        go_ret
        exact ⟨rfl, FIN.out _ ((G0.out.trans G1.out).trans g2)⟩
      | false =>
        have hbig : 65536 ≤ l.length := by
          by_cases c : 65536 ≤ l.length
          · exact c
          · rw [if_neg c] at PE; simp at PE; exact absurd PE hz
        rw [if_pos hbig] at PE
        simp at PE
        subst PE
        have hN : l.length = 65536 := by have := HL.out; omega
        clear hpe hbig
        go_enter Try.func14, Try.ntmps14
        go_upto_region 1 with fail
        rw [← hW]
        clear hW
        generalize w.heap.size = BE at *
        go_wp2_with fail
        refine RR.out.mono ?_
        rintro e v1 ⟨rfl, g1⟩
        have P1 := hid0 (PL.out v1 g1)
        have G1 := hid0 g1
        clear RR PL g1 y0 y1 y2 y3
        go_wp2_with fail
        refine P1.out.mono ?_
        rintro e v2 ⟨rfl, g2⟩
        obtain ⟨ao, cc, r0⟩ := IDR.out v2 (G1.out.trans g2)
        rw [hN] at r0
        have G2 := hid0 g2
        clear P1 g2 hN
        go_wp2
        go_ret
        exact ⟨rfl, FIN.out _ ((G0.out.trans G1.out).trans G2.out)⟩
end Go.Proofs.Ytpikhdfndnpidaa
