/- Contracts of the reference's difference of two sizes, and of their order. -/
import Derived.Test.YtljdnahomhbenaaSize
namespace Go.Proofs.Ytljdnahomhbenaa
section
open Go.RowKit Go.Sort

set_option maxHeartbeats 2000000 in
theorem less_any (s t : Bool) (ao bo : Option Addr) (ca cb : Nat) (a b : List Int) (w : World) (ha : Rd w ao ca a) (hb : Rd w bo cb b) (hnb : nrm b) (hba : vals b ≤ vals a) :
    Calls Try.prog 118 #[.agg #[.bool s, .slice ao a.length ca], .agg #[.bool t, .slice bo b.length cb]] w fun e w' => ∃ ao cap l, e = .returned (.agg #[.bool false, .slice ao l.length cap]) ∧ Rd w' ao cap l ∧ nrm l ∧ vals l = vals a - vals b ∧ Below w.heap.size w w' := by
  obtain ⟨i0, hi, hz0, hz1, hz2⟩ := info_parts Try.info69
  have hda := allD_of ha.dig
  have hdb := allD_of hb.dig
  go_enter Try.func118, Try.ntmps118
  go_wp2
  go_loopw [6, 7] (fun c i wr => ∃ (k : Nat) (sv : Value), k ≤ a.length ∧ c = .int .u64 (difB (dg a) (dg b) k) ∧ i = .int .i64 k ∧ wr.ownsRow (w.heap.size + 1 + 1 + 1 + 1) 69 1 sv k ((difD (dg a) (dg b) k).map (Value.int .u64)) ∧
      Bk wr (w.heap.size + 1 + 1 + 1) (.bool false) sv ∧ Below (w.heap.size + 1 + 1 + 1) (((w.alloc (.cells #[.bool s, .slice ao a.length ca] 53)).alloc (.cells #[.bool t, .slice bo b.length cb] 53)).alloc (.cells #[.bool false, .slice none 0 0] 53)) wr) (fun _ i _ => a.length - (intOf i).toNat)
  case atStart => exact ⟨0, _, by omega, rfl, rfl, World.ownsRow_nil _ _ _ _, by simpa using Bk.new (((w.alloc (.cells #[.bool s, .slice ao a.length ca] 53)).alloc (.cells #[.bool t, .slice bo b.length cb] 53)).alloc (.cells #[.bool false, .slice none 0 0] 53)) (.bool false) (.slice none 0 0), (Below.refl _ _).alloc (by simp) _⟩
  case round =>
    obtain ⟨k, sv, hk, rfl, rfl, hown, hB, hbl⟩ := hrel
    have c1 := hB.c1
    obtain ⟨n1, n2⟩ := hda k
    obtain ⟨n3, n4⟩ := hdb k
    obtain ⟨n5, n6⟩ := difB_bd hda hdb k
    have p0 : wr.cell? ⟨w.heap.size, 0, none⟩ = some (.bool s) := (hbl.cell (p := ⟨w.heap.size, 0, none⟩) (by simp only []; omega)).trans (by go_simp)
    have p1 : wr.cell? ⟨w.heap.size, 1, none⟩ = some (.slice ao a.length ca) := (hbl.cell (p := ⟨w.heap.size, 1, none⟩) (by simp only []; omega)).trans (by go_simp)
    have p2 : wr.cell? ⟨w.heap.size + 1, 0, none⟩ = some (.bool t) := (hbl.cell (p := ⟨w.heap.size + 1, 0, none⟩) (by simp only []; omega)).trans (by go_simp)
    have p3 : wr.cell? ⟨w.heap.size + 1, 1, none⟩ = some (.slice bo b.length cb) := (hbl.cell (p := ⟨w.heap.size + 1, 1, none⟩) (by simp only []; omega)).trans (by go_simp)
    have hfew := ha.few
    by_cases hgo : k < a.length
    · skip
      all_goals
        go_wp2
        have r70 : ∀ n os, (grow (wr.drewN n) os).cell? ⟨w.heap.size, 0, none⟩ = some (.bool s) := cell_grown (by have := hB.lt; simp only []; omega) p0
        have r71 : ∀ n os, (grow (wr.drewN n) os).cell? ⟨w.heap.size, 1, none⟩ = some (.slice ao a.length ca) := cell_grown (by have := hB.lt; simp only []; omega) p1
        have r80 : ∀ n os, (grow (wr.drewN n) os).cell? ⟨w.heap.size + 1, 0, none⟩ = some (.bool t) := cell_grown (by have := hB.lt; simp only []; omega) p2
        have r81 : ∀ n os, (grow (wr.drewN n) os).cell? ⟨w.heap.size + 1, 1, none⟩ = some (.slice bo b.length cb) := cell_grown (by have := hB.lt; simp only []; omega) p3
        have HA : Hid (∀ n os, Rd (grow (wr.drewN n) os) ao ca a) := fun n os => ha.mono ((below3 _ _ _ _).trans (hbl.mono (by omega)) |>.trans ((Gr.below ⟨n, os, rfl⟩).mono (by have := hB.lt; omega)))
        have HB : Hid (∀ n os, Rd (grow (wr.drewN n) os) bo cb b) := fun n os => hb.mono ((below3 _ _ _ _).trans (hbl.mono (by omega)) |>.trans ((Gr.below ⟨n, os, rfl⟩).mono (by have := hB.lt; omega)))
        refine wp_region_quiet_grown (by kernel_rfl) (by kernel_rfl) ?_
        repeat (go_big_quiet_step (first | (go_at_call_of 99 (Value.slice ao a.length ca); refine Calls.grown_of (digit_any s ao ca a k _ (HA.out _ _))) | (go_at_call_of 99 (Value.slice bo b.length cb); refine Calls.grown_of (digit_any t bo cb b k _ (HB.out _ _)))))
        refine wpQuiet_nil ?_
        intro _ hw'
        obtain ⟨⟨nq, osq⟩, hw''⟩ := hw'
        subst hw''
        have g2 : Gr wr (grow (wr.drewN nq) osq) := ⟨nq, osq, rfl⟩
        have hX := hB.lt
        replace hown := own_gr hown g2
        replace hbl := hbl.trans (g2.below.mono (by omega))
        replace hB := hB.mono g2.below hX
        replace hX := hB.lt
        clear r70 r71 r80 r81 HA HB p0 p1 p2 p3 c1 g2
        generalize grow (wr.drewN nq) osq = W2 at *
        have c1 := hB.c1
        go_wp2_with (at_builtin; refine wpList_append_own _ rfl (.tmp 27) (.tmp 30) 51 rfl (w.heap.size + 1 + 1 + 1 + 1) 69 i0 (.int .u64 0) 1 8 Try.underlying51 hi hz0 hz1 hz2 rfl (by decide) sv k _ rfl (hown.alloc _) ⟨W2.heap.size, 0, none⟩ 1 1 [.int .u64 ((dg a k + 65536 - dg b k - difB (dg a) (dg b) k) % 65536)] rfl rfl (ints_cells _ _) (fun u hu => by simp at hu; subst hu; rfl) (by unfold maxLen; omega) (by omega) (by simp; omega) ?_)
        intro sv' w1 hown' hgrow _
        obtain ⟨g', cap', rfl⟩ := own_shape hown'
        obtain ⟨hB1, r1, r2, r3⟩ := push_step hown hB hbl hown' hgrow
        have d1 := hB1.c1
        have d2 := hB1.f1
        clear hown' hgrow hown c1 hbl hB hB1
        go_wp2
        go_roundw
        case rel => exact ⟨k + 1, _, by omega, rfl, by go_num, by rw [difD_succ, List.map_append]; exact r1, r2, r3⟩
        case measure => simp [intOf]; omega
    · have hka : k = a.length := by omega
      have E : Hid (vals (trim (difD (dg a) (dg b) k)) = vals a - vals b) := by
        unfold Hid
        rw [trim_vals, hka]; exact dif_end hda hdb hnb hba
      clear hka
      have hl := difD_len (dg a) (dg b) k
      obtain ⟨ao', cap', rfl, hRd, hbk⟩ := Rd.of_own (l := difD (dg a) (dg b) k) (by rw [hl]; exact hown) (difD_isD _ _ k) (by omega)
      have c0 := hB.c0
      have hX := hB.lt
      clear hl
      go_wp2_with fail
      refine (trim_num _ _ _ _ _ hRd).mono ?_
      rintro e w1 ⟨rfl, hg⟩
      have hbl1 := hbl.trans (hg.below.mono (by omega))
      have hRd1 := hRd.trim.mono hg.below
      have hn := trim_nrm (difD (dg a) (dg b) k)
      have q0 : w1.cell? ⟨w.heap.size + 1 + 1, 0, none⟩ = some (.bool false) := (hbl1.cell (p := ⟨w.heap.size + 1 + 1, 0, none⟩) (by simp only []; omega)).trans (by go_simp)
      have q1 : w1.cell? ⟨w.heap.size + 1 + 1, 1, none⟩ = some (.slice none 0 0) := (hbl1.cell (p := ⟨w.heap.size + 1 + 1, 1, none⟩) (by simp only []; omega)).trans (by go_simp)
      have q2 : w1.frozen? ⟨w.heap.size + 1 + 1, 0, none⟩ = false := (hbl1.frozen (p := ⟨w.heap.size + 1 + 1, 0, none⟩) (by simp only []; omega)).trans (by go_simp)
      have q3 : w1.frozen? ⟨w.heap.size + 1 + 1, 1, none⟩ = false := (hbl1.frozen (p := ⟨w.heap.size + 1 + 1, 1, none⟩) (by simp only []; omega)).trans (by go_simp)
      generalize trim (difD (dg a) (dg b) k) = L at *
      go_wp2
      refine bodyPost_ret (v := .agg #[.bool false, .slice ao' L.length cap']) (by simp [results, Try.results118, go_sem, q0, q1]) rfl ⟨ao', cap', L, rfl, ?_, hn, E.out, ?_⟩
      · exact (hRd1.set (fun a ha => by have := hbk a ha; simp; omega) _).set (fun a ha => by have := hbk a ha; simp; omega) _
      · exact (((below3 _ _ _ _).trans (hbl1.mono (by omega))).setCell (by simp only []; omega) _).setCell (by simp only []; omega) _

theorem regr1 {W w1 : World} {a : Addr} {v : Value} (h : ∀ n os, (grow (W.drewN n) os).cell? a = some v) (g : Gr W w1) : ∀ n os, (grow (w1.drewN n) os).cell? a = some v := by
  obtain ⟨q, o, rfl⟩ := g
  intro n os
  have e : grow ((grow (W.drewN q) o).drewN n) os = grow (W.drewN (q + n)) (o ++ os) := by
    show grow (grow ((W.drewN q).drewN n) o) os = _
    rw [grow_grow, World.drewN_drewN]
  rw [e]; exact h _ _
theorem at0 {W : World} {a : Addr} {v : Value} (h : ∀ n os, (grow (W.drewN n) os).cell? a = some v) : W.cell? a = some v := by simpa using h 0 #[]
/-- Four cells of the two boxes, in every world that has grown out of this one. -/
structure Boxes (W : World) (B : Nat) (x0 x1 y0 y1 : Value) : Prop where
  a0 : ∀ n os, (grow (W.drewN n) os).cell? ⟨B, 0, none⟩ = some x0
  a1 : ∀ n os, (grow (W.drewN n) os).cell? ⟨B, 1, none⟩ = some x1
  b0 : ∀ n os, (grow (W.drewN n) os).cell? ⟨B + 1, 0, none⟩ = some y0
  b1 : ∀ n os, (grow (W.drewN n) os).cell? ⟨B + 1, 1, none⟩ = some y1
theorem Boxes.mono {W w1 : World} {B : Nat} {x0 x1 y0 y1 : Value} (h : Boxes W B x0 x1 y0 y1) (g : Gr W w1) : Boxes w1 B x0 x1 y0 y1 :=
  ⟨regr1 h.a0 g, regr1 h.a1 g, regr1 h.b0 g, regr1 h.b1 g⟩
theorem Boxes.new (w : World) (x0 x1 y0 y1 : Value) : Boxes ((w.alloc (.cells #[x0, x1] 53)).alloc (.cells #[y0, y1] 53)) w.heap.size x0 x1 y0 y1 :=
  ⟨cell_grown (by simp only [World.size_alloc]; omega) (by go_simp), cell_grown (by simp only [World.size_alloc]; omega) (by go_simp), cell_grown (by simp only [World.size_alloc]; omega) (by go_simp), cell_grown (by simp only [World.size_alloc]; omega) (by go_simp)⟩

set_option maxHeartbeats 2000000 in
theorem cmps_any (s t : Bool) (ao bo : Option Addr) (ca cb : Nat) (a b : List Int) (w : World) (ha : Rd w ao ca a) (hb : Rd w bo cb b) :
    Calls Try.prog 72 #[.agg #[.bool s, .slice ao a.length ca], .agg #[.bool t, .slice bo b.length cb]] w fun e w' => e = .returned (.int .i64 (cmpI (vals a) (vals b))) ∧ Gr w w' := by
  have hda := allD_of ha.dig
  have hdb := allD_of hb.dig
  have f1 := ha.few
  have f2 := hb.few
  by_cases hlen : a.length < b.length
  all_goals
    go_enter Try.func72, Try.ntmps72
    go_wp2
    go_loopw [6] (fun i wr => ∃ k : Nat, k ≤ max a.length b.length ∧ i = .int .i64 ((k : Int) - 1) ∧ Hid (∀ j, k ≤ j → dg a j = dg b j) ∧ Gr ((w.alloc (.cells #[.bool s, .slice ao a.length ca] 53)).alloc (.cells #[.bool t, .slice bo b.length cb] 53)) wr) (fun i _ => (intOf i + 1).toNat)
    case atStart => exact ⟨max a.length b.length, Nat.le_refl _, by first | rfl | (congr 1; omega), fun j hj => by rw [dg_out a j (by omega), dg_out b j (by omega)], Gr.refl _⟩
    case round =>
      obtain ⟨k, hk, rfl, he, hg⟩ := hrel
      have hbx := (Boxes.new w (.bool s) (.slice ao a.length ca) (.bool t) (.slice bo b.length cb)).mono hg
      have HA : Hid (∀ n os, Rd (grow (wr.drewN n) os) ao ca a) := fun n os => ha.mono (((((Gr.refl _).alloc _).alloc _).trans hg).trans ⟨n, os, rfl⟩).below
      have HB : Hid (∀ n os, Rd (grow (wr.drewN n) os) bo cb b) := fun n os => hb.mono (((((Gr.refl _).alloc _).alloc _).trans hg).trans ⟨n, os, rfl⟩).below
      by_cases h0 : k = 0
      · subst h0
        have E : Hid (cmpI (vals a) (vals b) = 0) := (cmpI_zero _ _).2 (size_eq fun j => he.out j (Nat.zero_le _))
        go_wp2
        go_ret
        exact ⟨by rw [E.out]; rfl, (((Gr.refl _).alloc _).alloc _).trans hg⟩
      · obtain ⟨m, rfl⟩ := Nat.exists_eq_succ_of_ne_zero h0
        rw [show ((m.succ : Nat) : Int) - 1 = (m : Int) from by omega]
        obtain ⟨r70, r71, r80, r81⟩ := hbx
        have n1 := (hda m).1
        have n3 := (hdb m).1
        rcases Int.lt_trichotomy (dg a m) (dg b m) with h | h | h
        · have E : Hid (cmpI (vals a) (vals b) = -1) := by
            unfold Hid cmpI; rw [if_pos (size_lt hda hdb m h fun j hj => he.out j hj)]
          go_wp2
          refine wp_region_quiet_grown (by kernel_rfl) (by kernel_rfl) ?_
          repeat (go_big_quiet_step (first | (go_at_call_of 99 (Value.slice ao a.length ca); refine Calls.grown_of (digit_any s ao ca a m _ (HA.out _ _))) | (go_at_call_of 99 (Value.slice bo b.length cb); refine Calls.grown_of (digit_any t bo cb b m _ (HB.out _ _)))))
          refine wpQuiet_nil ?_
          intro _ hw'
          obtain ⟨⟨nq, osq⟩, hw''⟩ := hw'
          subst hw''
          have g2 := hg.trans ⟨nq, osq, rfl⟩
          clear r70 r71 r80 r81 HA HB
          generalize grow (wr.drewN nq) osq = W2 at *
          go_wp2
          go_ret
          exact ⟨by rw [E.out]; rfl, (((Gr.refl _).alloc _).alloc _).trans g2⟩
        · have h3 : ¬ dg a m < dg b m := by omega
          have h4 : ¬ dg b m < dg a m := by omega
          have H : Hid (dg a m = dg b m) := h
          clear h
          go_wp2
          refine wp_region_quiet_grown (by kernel_rfl) (by kernel_rfl) ?_
          repeat (go_big_quiet_step (first | (go_at_call_of 99 (Value.slice ao a.length ca); refine Calls.grown_of (digit_any s ao ca a m _ (HA.out _ _))) | (go_at_call_of 99 (Value.slice bo b.length cb); refine Calls.grown_of (digit_any t bo cb b m _ (HB.out _ _)))))
          refine wpQuiet_nil ?_
          intro _ hw'
          obtain ⟨⟨nq, osq⟩, hw''⟩ := hw'
          subst hw''
          have g2 := hg.trans ⟨nq, osq, rfl⟩
          replace r70 := regr1 r70 ⟨nq, osq, rfl⟩
          replace r71 := regr1 r71 ⟨nq, osq, rfl⟩
          replace r80 := regr1 r80 ⟨nq, osq, rfl⟩
          replace r81 := regr1 r81 ⟨nq, osq, rfl⟩
          clear HA HB
          generalize grow (wr.drewN nq) osq = W2 at *
          have HA : Hid (∀ n os, Rd (grow (W2.drewN n) os) ao ca a) := fun n os => ha.mono (((((Gr.refl _).alloc _).alloc _).trans g2).trans ⟨n, os, rfl⟩).below
          have HB : Hid (∀ n os, Rd (grow (W2.drewN n) os) bo cb b) := fun n os => hb.mono (((((Gr.refl _).alloc _).alloc _).trans g2).trans ⟨n, os, rfl⟩).below
          go_wp2
          refine wp_region_quiet_grown (by kernel_rfl) (by kernel_rfl) ?_
          repeat (go_big_quiet_step (first | (go_at_call_of 99 (Value.slice ao a.length ca); refine Calls.grown_of (digit_any s ao ca a m _ (HA.out _ _))) | (go_at_call_of 99 (Value.slice bo b.length cb); refine Calls.grown_of (digit_any t bo cb b m _ (HB.out _ _)))))
          refine wpQuiet_nil ?_
          intro _ hw'
          obtain ⟨⟨nq2, osq2⟩, hw''⟩ := hw'
          subst hw''
          have g3 := g2.trans ⟨nq2, osq2, rfl⟩
          clear r70 r71 r80 r81 HA HB
          generalize grow (W2.drewN nq2) osq2 = W3 at *
          go_wp2
          go_roundw
          case rel => exact ⟨m, by omega, rfl, fun j hj => by rcases Nat.lt_or_eq_of_le hj with h | h; exact he.out j h; exact h ▸ H.out, g3⟩
          case measure => simp [intOf]
        · have E : Hid (cmpI (vals a) (vals b) = 1) := by
            have := size_lt hdb hda m h fun j hj => (he.out j hj).symm
            unfold Hid cmpI; rw [if_neg (by omega), if_pos this]
          go_wp2
          refine wp_region_quiet_grown (by kernel_rfl) (by kernel_rfl) ?_
          repeat (go_big_quiet_step (first | (go_at_call_of 99 (Value.slice ao a.length ca); refine Calls.grown_of (digit_any s ao ca a m _ (HA.out _ _))) | (go_at_call_of 99 (Value.slice bo b.length cb); refine Calls.grown_of (digit_any t bo cb b m _ (HB.out _ _)))))
          refine wpQuiet_nil ?_
          intro _ hw'
          obtain ⟨⟨nq, osq⟩, hw''⟩ := hw'
          subst hw''
          have g2 := hg.trans ⟨nq, osq, rfl⟩
          replace r70 := regr1 r70 ⟨nq, osq, rfl⟩
          replace r71 := regr1 r71 ⟨nq, osq, rfl⟩
          replace r80 := regr1 r80 ⟨nq, osq, rfl⟩
          replace r81 := regr1 r81 ⟨nq, osq, rfl⟩
          clear HA HB
          generalize grow (wr.drewN nq) osq = W2 at *
          have HA : Hid (∀ n os, Rd (grow (W2.drewN n) os) ao ca a) := fun n os => ha.mono (((((Gr.refl _).alloc _).alloc _).trans g2).trans ⟨n, os, rfl⟩).below
          have HB : Hid (∀ n os, Rd (grow (W2.drewN n) os) bo cb b) := fun n os => hb.mono (((((Gr.refl _).alloc _).alloc _).trans g2).trans ⟨n, os, rfl⟩).below
          go_wp2
          refine wp_region_quiet_grown (by kernel_rfl) (by kernel_rfl) ?_
          repeat (go_big_quiet_step (first | (go_at_call_of 99 (Value.slice ao a.length ca); refine Calls.grown_of (digit_any s ao ca a m _ (HA.out _ _))) | (go_at_call_of 99 (Value.slice bo b.length cb); refine Calls.grown_of (digit_any t bo cb b m _ (HB.out _ _)))))
          refine wpQuiet_nil ?_
          intro _ hw'
          obtain ⟨⟨nq2, osq2⟩, hw''⟩ := hw'
          subst hw''
          have g3 := g2.trans ⟨nq2, osq2, rfl⟩
          clear r70 r71 r80 r81 HA HB
          generalize grow (W2.drewN nq2) osq2 = W3 at *
          go_wp2
          go_ret
          exact ⟨by rw [E.out]; rfl, (((Gr.refl _).alloc _).alloc _).trans g3⟩
end
end Go.Proofs.Ytljdnahomhbenaa
