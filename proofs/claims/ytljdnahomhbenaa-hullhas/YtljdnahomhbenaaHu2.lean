/- The reference's Convex and Has; the law HullHas, walked. -/
import Derived.Test.YtljdnahomhbenaaHt
set_option linter.unusedSimpArgs false
namespace Go.Proofs.Ytljdnahomhbenaa
open Go.RowKit Go.Sort Go.Lib Go.Shelf

set_option maxRecDepth 20000 in
set_option maxHeartbeats 4000000 in
theorem rconvex_any (vo : Option Addr) (cv : Nat) (l : List (Int × Int)) (w : World) (hl : l.length ≤ 8796093021952) (h32 : ∀ p ∈ l, in2 p) (hP : Pts w vo l) :
    Calls Try.prog 35 #[.slice vo l.length cv] w fun e w' => e = .returned (.bool (decide (l = hullL (srt l)))) ∧ Below w.heap.size w w' := by
  have L1 := hid0 (rhull_any vo cv l w hl h32 hP)
  have HP := hid0 hP
  generalize hullL (srt l) = H at *
  clear hP h32
  go_enter Try.func35, Try.ntmps35
  go_wp2_with fail
  refine L1.out.mono ?_
  rintro e w1 ⟨sv, rfl, O, hb⟩
  obtain ⟨ro, rc, rfl, PR, hRl, _⟩ := own_pts O
  have E := hid0 (same36_any vo ro cv rc l H w1 (by omega) (HP.out.mono hb) PR)
  clear L1 O PR HP
  go_wp2_with fail
  refine E.out.mono ?_
  rintro e w2 ⟨rfl, g⟩
  go_wp2
  go_ret
  exact ⟨rfl, hb.trans (g.below.mono hb.size)⟩

set_option maxRecDepth 20000 in
set_option maxHeartbeats 8000000 in
theorem rhas_any10 (vo : Option Addr) (cv : Nat) (l : List (Int × Int)) (p : Int × Int) (w : World) (hl : l.length ≤ 80) (h32 : ∀ q ∈ l, in2 q) (hp : in2 p) (hP : Pts w vo l) :
    Calls Try.prog 17 #[.slice vo l.length cv, pt p.1 p.2] w fun e w' => e = .returned (.bool (hasH l p)) ∧ Below w.heap.size w w' := by
  obtain ⟨i0, hi, hz0, hz1, hz2⟩ := info_parts Try.info28
  have HP := hid0 hP
  have H32 : Hid (∀ q ∈ l ++ [p], in2 q) := fun q hq => by
    rcases List.mem_append.mp hq with h | h
    · exact h32 q h
    · have : q = p := by simpa using h
      rw [this]; exact hp
  have N0 := hid0 (@has_not l p)
  have N1 := hid0 (@has_nil l p)
  have N2 := hid0 (@has_ref l p)
  obtain ⟨W, hW, x0, x1, gW⟩ := one_new w (.int .i32 p.1) (.int .i32 p.2)
  have C := hid0 (rconvex_any vo cv l W (by omega) h32 (hP.mono gW))
  obtain ⟨F, hF⟩ : ∃ F, hasH l p = F := ⟨_, rfl⟩
  obtain ⟨D, hD⟩ : ∃ D, decide (l = hullL (srt l)) = D := ⟨_, rfl⟩
  rw [hF] at N0 N1 N2 ⊢
  rw [hD] at N0 N2 C
  clear hF hD hP h32 hp
  go_enter Try.func17, Try.ntmps17
  go_upto_region 1 with fail
  rw [← hW]
  clear hW
  have hWs := gW.size
  obtain ⟨B1, hB1⟩ : ∃ B1, B1 = w.heap.size := ⟨_, rfl⟩
  rw [← hB1] at x0 x1 ⊢
  clear hB1
  by_cases h0 : l.length = 0
  · have e := N1.out h0
    subst e
    have d0 : ((l.length : Int) == 0) = true := by rw [h0]; rfl
    go_wp2
    go_ret
    exact ⟨rfl, gW⟩
  have d0 : ((l.length : Int) == 0) = false := beq_eq_false_iff_ne.mpr (by omega)
  go_wp2_with fail
  refine C.out.mono ?_
  rintro e w1 ⟨rfl, hb1⟩
  have hb := gW.trans (hb1.mono hWs)
  have y0 := below_cell x0 hb1
  have y1 := below_cell x1 hb1
  have P1 := hid0 (HP.out.mono hb)
  clear C hb1 x0 x1 gW HP hWs N1
  cases D with
  | false =>
    have e := N0.out rfl
    subst e
    go_wp2
    go_ret
    exact ⟨rfl, hb⟩
  | true =>
    have eF := N2.out (by omega) rfl
    clear N0 N2
    obtain ⟨b, off, rfl, -, -⟩ := P1.out 0 (by omega)
    have fl := flat_len l
    have hsz := hb.size
    go_wp2_with (at_builtin; refine wpList_append_own _ rfl (.tmp 14) (.tmp 15) 22 rfl w1.heap.size 28 i0 (.agg #[.int .i32 0, .int .i32 0]) 2 8 Try.underlying22 hi hz0 hz1 hz2 rfl (by decide) (.slice none 0 0) 0 [] rfl (World.ownsRow_nil _ _ _ _) ⟨b, off, none⟩ l.length cv (flat l) rfl fl (Pts.cellsA P1.out) (flat_cell l) (by unfold maxLen; omega) (by omega) (Nat.le_refl _) ?_)
    intro sv w2 hown hgrow _
    have hb2 : Below w1.heap.size w1 w2 := (Below.refl _ _).grown hgrow (Nat.le_refl _) (fun k hk => by cases hk)
    have O2 : w2.ownsRow w1.heap.size 28 2 sv l.length (flat l) := by simpa using hown
    clear hgrow hown
    have z0 := below_cell y0 hb2
    have z1 := below_cell y1 hb2
    have hsz2 := hb2.size
    clear y0 y1
    go_wp2_with (at_builtin; refine wpList_append_own _ rfl (.tmp 17) (.tmp 19) 22 rfl w1.heap.size 28 i0 (.agg #[.int .i32 0, .int .i32 0]) 2 8 Try.underlying22 hi hz0 hz1 hz2 rfl (by decide) _ l.length _ rfl (O2.alloc _) ⟨w2.heap.size, 0, none⟩ 1 1 [.int .i32 p.1, .int .i32 p.2] rfl rfl (one_cells _ _ _) (fun u hu => by simp at hu; rcases hu with rfl | rfl <;> rfl) (by unfold maxLen; omega) (by omega) (by simp; omega) ?_)
    intro sv3 w3 hown3 hgrow3 _
    have hb3 : Below w1.heap.size w1 w3 := (hb2.alloc hsz2 _).grown hgrow3 (by simp; omega) (fun j hj => (O2.lt j hj).1)
    have O3 : w3.ownsRow w1.heap.size 28 2 sv3 (l.length + 1) (flat (l ++ [p])) := by rw [flat_one]; exact hown3
    have P3 := hid0 (P1.out.mono hb3)
    obtain ⟨so, sc, rfl, PS, hSl, -, -⟩ := own_all O3
    have L := hid0 (rhull_any so sc (l ++ [p]) w3 (by simp; omega) H32.out PS)
    rw [hSl] at L
    have hsz3 := hb3.size
    have hHl : (hullL (srt (l ++ [p]))).length ≤ 81 := Nat.le_trans (hull_len (srt_asc _)) (Nat.le_trans (srt_len _) (by simp; omega))
    have EF := hid0 eF
    clear hown3 hgrow3 O2 O3 z0 z1 P1 PS hb2 eF
    obtain ⟨H, hH⟩ : ∃ H, hullL (srt (l ++ [p])) = H := ⟨_, rfl⟩
    rw [hH] at L EF hHl
    clear hH
    go_wp2_with fail
    refine L.out.mono ?_
    rintro e w4 ⟨sv4, rfl, O4, hb4⟩
    obtain ⟨ro, rc, rfl, PR, hRl, _⟩ := own_pts O4
    have E := hid0 (same36_any ro (some ⟨b, off, none⟩) rc cv H l w4 (by omega) PR (P3.out.mono hb4))
    rw [← EF.out] at E
    clear L O4 PR P3
    go_wp2_with fail
    refine E.out.mono ?_
    rintro e w5 ⟨rfl, g⟩
    go_wp2
    go_ret
    have hbA := hb.trans (hb3.mono hsz)
    have hbB := hbA.trans (hb4.mono hbA.size)
    exact ⟨rfl, hbB.trans (g.below.mono hbB.size)⟩

set_option maxRecDepth 20000 in
set_option maxHeartbeats 16000000 in
theorem has_walk (vo : Option Addr) (cv : Nat) (l : List (Int × Int)) (p : Int × Int) (w : World) (hl : l.length ≤ 17592186043904) (hn : vo = none → l.length = 0 ∧ cv = 0) (h32 : ∀ q ∈ l, in2 q) (hp : in2 p) (hP : Pts w vo l) :
    Calls Try.prog 4 #[.slice vo l.length cv, pt p.1 p.2] w fun e w' => e = .returned (.bool true) ∧ Below w.heap.size w w' := by
  obtain ⟨W, hW, x0, x1, gW⟩ := one_new w (.int .i32 p.1) (.int .i32 p.2)
  by_cases h80 : 80 < l.length
  · go_enter Try.func4, Try.ntmps4
    go_wp2
    go_ret
    refine ⟨rfl, ?_⟩
    rw [← hW]; exact gW
  have h80' : l.length ≤ 80 := by omega
  have L1 := hid0 (lent_any vo cv l W (by omega) hn (hP.mono gW))
  have HP := hid0 (hP.mono gW)
  have H32 := hid0 h32
  have HPp := hid0 hp
  have HI := hid0 (hull_in h32)
  have HL : (hullL (srt l)).length ≤ 80 := Nat.le_trans (hull_len (srt_asc l)) (Nat.le_trans (srt_len l) h80')
  obtain ⟨H, hH⟩ : ∃ H, hullL (srt l) = H := ⟨_, rfl⟩
  have HH := hid0 hH
  rw [hH] at HI HL
  clear hH hn hP h32 h80 hl hp
  go_enter Try.func4, Try.ntmps4
  go_upto_region 1 with fail
  rw [← hW]
  clear hW
  have hWs := gW.size
  obtain ⟨B1, hB1⟩ : ∃ B1, B1 = w.heap.size := ⟨_, rfl⟩
  rw [← hB1] at x0 x1 ⊢
  clear hB1
  go_wp2_with fail
  refine L1.out.mono ?_
  rintro e w1 ⟨g1, cap1, rfl, O1, hb1⟩
  have P1 : Hid (Pts w1 (some ⟨g1, 0, none⟩) (l ++ marks 20)) := Pts.of_own O1
  obtain ⟨_, _, hc1, hm1, _⟩ := OwnP.shape O1
  have hc1' : l.length + 20 ≤ cap1 := by rw [List.length_append, marks_len] at hc1; exact hc1
  have PV1 : Hid (Pts w1 vo l) := HP.out.mono hb1
  have L2 := hid0 (rhull_any vo cv l w1 (by omega) H32.out PV1.out)
  rw [HH.out] at L2
  clear L1 HP O1 hc1
  go_wp2_with fail
  refine L2.out.mono ?_
  rintro e w2 ⟨sv, rfl, O2, hb2⟩
  obtain ⟨ro, rc, rfl, PR, -, hrn, hrs⟩ := own_all O2
  have hW2 := hb1.trans (hb2.mono hb1.size)
  have hw := gW.trans (hW2.mono hWs)
  have P2 := P1.out.mono hb2
  have PV2 := PV1.out.mono hb2
  have Q16 : Hid (∀ d os, Calls Try.prog 16 #[.slice (some ⟨g1, 0, none⟩) l.length cap1, pt p.1 p.2] (grow (redrawn w2 d) os) fun e w' => e = .returned (.bool (hasH l p)) ∧ ∃ p : Regrown, w' = grow (redrawn w2 p.d) p.os) := fun d os => Calls.regrown_of (has_any10 (some ⟨g1, 0, none⟩) cap1 l p _ (by omega) (fun h => by cases h) (fun a h => by cases h; rfl) H32.out HPp.out (P2.left.mono (below_regrown w2 d os)))
  have Q17 : Hid (∀ d os, Calls Try.prog 17 #[.slice vo l.length cv, pt p.1 p.2] (grow (redrawn w2 d) os) fun e w' => e = .returned (.bool (hasH l p)) ∧ ∃ p : Regrown, w' = grow (redrawn w2 p.d) p.os) := fun d os => Calls.regrown_of (rhas_any10 vo cv l p _ (by omega) H32.out HPp.out (PV2.mono (below_regrown w2 d os)))
  have R16 : Hid (∀ d os, Calls Try.prog 16 #[.slice ro H.length rc, pt p.1 p.2] (grow (redrawn w2 d) os) fun e w' => e = .returned (.bool (hasH H p)) ∧ ∃ p : Regrown, w' = grow (redrawn w2 p.d) p.os) := fun d os => Calls.regrown_of (has_any10 ro rc H p _ (by omega) hrn hrs HI.out HPp.out (PR.mono (below_regrown w2 d os)))
  have R17 : Hid (∀ d os, Calls Try.prog 17 #[.slice ro H.length rc, pt p.1 p.2] (grow (redrawn w2 d) os) fun e w' => e = .returned (.bool (hasH H p)) ∧ ∃ p : Regrown, w' = grow (redrawn w2 p.d) p.os) := fun d os => Calls.regrown_of (rhas_any10 ro rc H p _ (by omega) HI.out HPp.out (PR.mono (below_regrown w2 d os)))
  have Q14 : Hid (∀ d os, Calls Try.prog 14 #[.slice (some ⟨g1, 0, none⟩) l.length cap1, .slice vo l.length cv] (grow (redrawn w2 d) os) fun e w' => e = .returned (.bool true) ∧ ∃ p : Regrown, w' = grow (redrawn w2 p.d) p.os) := fun d os => Calls.regrown_of ((left_true g1 cap1 vo cv l _ (by omega) hc1' hm1 (P2.mono (below_regrown w2 d os)) (PV2.mono (below_regrown w2 d os))).mono fun e w' h => ⟨h.1, h.2.below⟩)
  have y0 := fun d os => cell_regrown (below_cell x0 hW2) d os
  have y1 := fun d os => cell_regrown (below_cell x1 hW2) d os
  generalize hasH l p = F1 at *
  generalize hasH H p = F2 at *
  clear P1 PV1 L2 O2 PR hb2 hb1 P2 PV2 hm1 hc1' hrn hrs HI HH H32 x0 x1 gW hW2 HPp hWs
  have e1 : (F1 == F1) = true := by simp
  have e2 : (F2 == F2) = true := by simp
  go_upto_region 5 with fail
  refine wp_region_quiet_below (by kernel_rfl) (by kernel_rfl) ?_
  repeat (go_big_quiet_step (fail))
  go_big_quiet_step (exact Q16.out _ _)
  repeat (go_big_quiet_step (fail))
  go_big_quiet_step (exact Q17.out _ _)
  repeat (go_big_quiet_step (fail))
  go_big_quiet_step (exact R16.out _ _)
  repeat (go_big_quiet_step (fail))
  go_big_quiet_step (exact R17.out _ _)
  repeat (go_big_quiet_step (fail))
  go_big_quiet_step (exact Q14.out _ _)
  repeat (go_big_quiet_step (fail))
  refine wpQuiet_nil ?_
  rintro _ ⟨⟨dq, osq⟩, rfl⟩
  go_wp2
  go_ret
  exact ⟨by simp, hw.trans ((below_regrown w2 dq osq).mono hw.size)⟩
end Go.Proofs.Ytljdnahomhbenaa
