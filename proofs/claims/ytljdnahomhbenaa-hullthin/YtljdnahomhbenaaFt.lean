/- The law's fits: the kept points are found in the line, one behind the other. -/
import Derived.Test.YtljdnahomhbenaaBw
namespace Go.Proofs.Ytljdnahomhbenaa
section
set_option linter.unusedSimpArgs false
set_option linter.unusedVariables false
open Go.RowKit Go.Sort Go.Lib Go.Shelf

theorem Try.info4 : (Try.prog.info? 4).map (fun i => (i.zero, i.size, i.bytes)) = some (some (.bool false), 1, 1) := by kernel_rfl
/-- A row of bools. -/
abbrev BR (w : World) (g : Nat) (C : List Bool) : Prop := Hs w g 4 (C.map Value.bool).toArray
theorem BR.at {w : World} {g : Nat} {C : List Bool} (h : BR w g C) {i : Nat} (hi : i < C.length) : w.cell? ⟨g, i, none⟩ = some (.bool (C.getD i false)) :=
  Hs.cell h (by simp [List.getD, hi])
theorem BR.set {w : World} {g : Nat} {C : List Bool} (h : BR w g C) (i : Nat) (x : Bool) : BR (w.setCell ⟨g, i, none⟩ (.bool x)) g (C.set i x) := by
  have := Hs.setAt h i (.bool x)
  rw [show (C.map Value.bool).toArray.setIfInBounds i (.bool x) = ((C.set i x).map Value.bool).toArray by simp [List.map_set]] at this
  exact this
theorem BR.new {w : World} {base g n : Nat} (h : w.ownsRow base 4 1 (.slice (some ⟨g, 0, none⟩) n n) n (madeCells #[.bool false] n).toList) : BR w g (List.replicate n false) := by
  rcases h.2 with ⟨e, _⟩ | ⟨g', cap, cur, e, _, hh, _, _, hs, ht⟩
  · cases e
  · cases e
    unfold BR Hs
    rw [hh]
    have e1 : cur.toList = (madeCells #[.bool false] n).toList := by rw [← ht, List.take_of_length_le (by simp [hs])]
    have e2 : cur = (madeCells #[.bool false] n) := Array.toList_inj.1 e1
    rw [e2]
    congr 2
    apply Array.ext
    · simp [madeCells]
    · intro i h1 h2
      simp [madeCells, Nat.mod_one]
theorem set_keeps {N : List Bool} {j q : Nat} (h : N.getD q false = true) : (N.set j true).getD q false = true := by
  by_cases hq : q < N.length
  · by_cases e : j = q
    · subst e; simp [List.getD, hq]
    · rw [List.getD_eq_getElem?_getD, List.getElem?_set_ne e, ← List.getD_eq_getElem?_getD]; exact h
  · rw [List.getD_eq_getElem?_getD, List.getElem?_eq_none (by omega)] at h
    simp at h
theorem set_here {N : List Bool} {j : Nat} (h : j < N.length) : (N.set j true).getD j false = true := by simp [List.getD, h]
theorem between_re (b off cap : Nat) (V : List (Int × Int)) (i j : Nat) (tol : Int) (hl : V.length ≤ 4096) (hij : i < j) (hj : j < V.length) (hV : ∀ p ∈ V, latP p) (ht : 0 ≤ tol ∧ tol ≤ 3037000498) (w : World) (hP : Pts w (some ⟨b, off, none⟩) V) : ∀ d os, Calls Try.prog 54 #[.slice (some ⟨b, off, none⟩) V.length cap, .int .i64 i, .int .i64 j, .int .i64 tol] (grow (redrawn w d) os) fun e w' => e = .returned (.bool (btwB V i j tol)) ∧ ∃ p : Regrown, w' = grow (redrawn w p.d) p.os :=
  fun d os => Calls.regrown_of (between_any b off cap V i j tol hl hij hj hV ht (grow (redrawn w d) os) (hP.mono (below_regrown w d os)))

set_option maxRecDepth 20000 in
set_option maxHeartbeats 16000000 in
theorem fits_any (b off cap b2 off2 c2 : Nat) (V T : List (Int × Int)) (tol : Int) (p : Nat → Nat) (hl : V.length ≤ 80) (h1 : 1 ≤ V.length) (hm : 1 ≤ T.length) (hml : T.length ≤ 80) (hV : ∀ q ∈ V, latP q) (ht : 0 ≤ tol ∧ tol ≤ 3037000498)
    (p0 : p 0 = 0) (pL : p (T.length - 1) = V.length - 1) (pS : ∀ k, k + 1 < T.length → p k < p (k + 1) ∧ p (k + 1) < V.length ∧ btwB V (p k) (p (k + 1)) tol = true) (pT : ∀ k, k < T.length → T.getD k (0, 0) = V.getD (p k) (0, 0))
    (w : World) (hP : Pts w (some ⟨b, off, none⟩) V) (hT : Pts w (some ⟨b2, off2, none⟩) T) :
    Calls Try.prog 26 #[.slice (some ⟨b, off, none⟩) V.length cap, .slice (some ⟨b2, off2, none⟩) T.length c2, .int .i64 tol] w fun e w' => e = .returned (.tuple #[.int .i64 ((V.length : Int) - 1), .bool true]) ∧ Below w.heap.size w w' := by
  obtain ⟨i0, hi, hz0, hz1, hz2⟩ := info_parts Try.info4
  have HP := hid0 hP
  have HT := hid0 hT
  have BW : Hid (∀ i j, i < j → j < V.length → ∀ w', Below w.heap.size w w' → ∀ d os, Calls Try.prog 54 #[.slice (some ⟨b, off, none⟩) V.length cap, .int .i64 i, .int .i64 j, .int .i64 tol] (grow (redrawn w' d) os) fun e w'' => e = .returned (.bool (btwB V i j tol)) ∧ ∃ p : Regrown, w'' = grow (redrawn w' p.d) p.os) := fun i j hij hj w' hb => between_re b off cap V i j tol (by omega) hij hj hV ht w' (hP.mono hb)
  have PS := hid0 pS
  have PT := hid0 pT
  have PL := hid0 pL
  have P0 := hid0 p0
  clear hP hT hV ht pS pT pL p0
  obtain ⟨n, hn⟩ : ∃ n, V.length = n := ⟨_, rfl⟩
  obtain ⟨m, hm'⟩ : ∃ m, T.length = m := ⟨_, rfl⟩
  rw [hn] at hl h1 BW PS PL ⊢
  rw [hm'] at hm hml PS PT PL ⊢
  have HN := hid0 hn
  have HM := hid0 hm'
  clear hn hm'
  go_enter Try.func26, Try.ntmps26
  go_wp2_with (at_make; refine wpList_make_full _ rfl (.tmp 14) (.tmp 14) 59 rfl w.heap.size 4 i0 (.bool false) 1 Try.underlying59 hi hz0 hz1 .i64 .i64 _ _ n rfl rfl (by omega) (by omega) (by rw [hz2]; omega) (by unfold maxLen; omega) (Nat.le_refl _) ?_)
  intro w1 hown hgrow
  have hb1 : Below w.heap.size w w1 := (Below.refl w.heap.size w).grown hgrow (Nat.le_refl _) (fun j hj => by cases hj)
  have B1 := BR.new hown
  clear hown hgrow
  have B2 := B1.set 0 true
  have c0 := B1.at (i := 0) (by simp; omega)
  have f0 := B1.froz 0
  have hb2 := hb1.setCell (p := ⟨w.heap.size, 0, none⟩) (Nat.le_refl _) (.bool true)
  clear B1 hb1
  have hC0 : Hid (((List.replicate n false).set 0 true).getD (p (1 - 1)) false = true) := by
    unfold Hid
    rw [show 1 - 1 = 0 from rfl, P0.out]
    exact set_here (by simp; omega)
  have hCl : ((List.replicate n false).set 0 true).length = n := by simp
  go_wp2
  generalize (List.replicate n false).set 0 true = C0 at *
  generalize w1.setCell ⟨w.heap.size, 0, none⟩ (.bool true) = W2 at *
  clear c0 f0
  go_loopw [8, 9] (fun cv kv wr => ∃ (k g : Nat) (C : List Bool), 1 ≤ k ∧ k ≤ m ∧ kv = .int .i64 k ∧ cv = .slice (some ⟨g, 0, none⟩) n n ∧ w.heap.size ≤ g ∧ Hid (BR wr g C) ∧ Hid (C.length = n) ∧ Hid (C.getD (p (k - 1)) false = true) ∧ Below w.heap.size w wr) (fun _ kv _ => m - (intOf kv).toNat)
  case atStart => exact ⟨1, w.heap.size, C0, Nat.le_refl _, hm, rfl, rfl, Nat.le_refl _, B2, hCl, hC0, hb2⟩
  case round =>
    clear B2 hCl hC0 hb2
    obtain ⟨k, g, C, hk1, hkm, rfl, rfl, hg, BC, HCl, HCp, hb⟩ := hrel
    by_cases hlt : k < m
    · have hlt' : (k : Int) < (m : Int) := by omega
      have hsz := hb.size
      obtain ⟨pq1, pq2, pq3⟩ := PS.out (k - 1) (by omega)
      rw [show k - 1 + 1 = k by omega] at pq1 pq2 pq3
      obtain ⟨a0, ha0⟩ : ∃ a0, p (k - 1) = a0 := ⟨_, rfl⟩
      obtain ⟨q0, hq0⟩ : ∃ q0, p k = q0 := ⟨_, rfl⟩
      have EK : Hid (T.getD k (0, 0) = V.getD q0 (0, 0)) := by unfold Hid; rw [PT.out k hlt, hq0]
      rw [ha0, hq0] at pq1 pq3
      rw [hq0] at pq2
      rw [ha0] at HCp
      replace pq3 := hid0 pq3
      have HQ0 := hid0 hq0
      clear ha0 hq0
      have gl := lt_of_block BC.out
      go_wp2_with (at_make; refine wpList_make_full _ rfl (.tmp 25) (.tmp 25) 59 rfl w.heap.size 4 i0 (.bool false) 1 Try.underlying59 hi hz0 hz1 .i64 .i64 _ _ n rfl rfl (by omega) (by omega) (by rw [hz2]; omega) (by unfold maxLen; omega) hsz ?_)
      intro w3 hown hgrow
      have hbg : Below wr.heap.size wr w3 := (Below.refl wr.heap.size wr).grown hgrow (Nat.le_refl _) (fun j hj => by cases hj)
      have B3 := hid0 (BR.new hown)
      replace BC := hid0 (BC.out.bl hbg)
      replace hb := hb.trans (hbg.mono hb.size)
      clear hown hgrow hbg
      obtain ⟨g2, hg2⟩ : ∃ g2, g2 = wr.heap.size := ⟨_, rfl⟩
      rw [← hg2] at B3 hsz gl ⊢
      clear hg2
      have hne : g ≠ g2 := by omega
      have hNl : Hid ((List.replicate n false).length = n) := by unfold Hid; simp
      go_wp2
      generalize List.replicate n false = N0 at *
      go_loopw [11] (fun iv wm => ∃ (i : Nat) (N : List Bool), i ≤ n ∧ iv = .int .i64 i ∧ Hid (BR wm g C) ∧ Hid (BR wm g2 N) ∧ Hid (N.length = n) ∧ Hid (a0 < i → N.getD q0 false = true) ∧ Below w.heap.size w wm) (fun iv _ => n - (intOf iv).toNat)
      case atStart => exact ⟨0, N0, Nat.zero_le _, rfl, BC, B3, hNl, (fun h => by omega), hb⟩
      case round =>
        clear B3 hNl hb BC
        obtain ⟨i, N, hin, rfl, BC, BN, HNl, HNq, hb⟩ := hrel
        by_cases hilt : i < n
        · have hilt' : (i : Int) < (n : Int) := by omega
          have ci := BC.out.at (i := i) (by rw [HCl.out]; exact hilt)
          obtain ⟨x, hx⟩ : ∃ x, C.getD i false = x := ⟨_, rfl⟩
          rw [hx] at ci
          cases x with
          | false =>
            have hia : i ≠ a0 := fun e => by
              rw [e, HCp.out] at hx
              cases hx
            clear hx
            go_wp2
            go_roundw
            case rel => exact ⟨i + 1, N, by omega, by go_num, BC, BN, HNl, (fun h => HNq.out (by omega)), hb⟩
            case measure => simp [intOf]; omega
          | true =>
            clear hx
            go_wp2
            clear ci
            go_loopw [12] (fun jv wj => ∃ (j : Nat) (N' : List Bool), i < j ∧ j ≤ n ∧ jv = .int .i64 j ∧ Hid (BR wj g C) ∧ Hid (BR wj g2 N') ∧ Hid (N'.length = n) ∧ Hid (a0 < i → N'.getD q0 false = true) ∧ Hid (a0 = i → q0 < j → N'.getD q0 false = true) ∧ Below w.heap.size w wj) (fun jv _ => n - (intOf jv).toNat)
            case atStart => exact ⟨i + 1, N, by omega, by omega, by go_num, BC, BN, HNl, HNq, (fun h h2 => by omega), hb⟩
            case round =>
              clear BN HNl HNq hb BC
              obtain ⟨j, N', hij, hjn, rfl, BC, BN, HNl, HNq, HNj, hb⟩ := hrel
              by_cases hjlt : j < n
              · have hjlt' : (j : Int) < (n : Int) := by omega
                obtain ⟨_, _, e, v0, v1⟩ := HP.out j (by rw [HN.out]; exact hjlt)
                cases e
                obtain ⟨_, _, e, t0, t1⟩ := HT.out k (by rw [HM.out]; exact hlt)
                cases e
                have BJ := hid0 (BW.out i j hij hjlt wr hb)
                have JB : Hid (i = a0 → j = q0 → btwB V i j tol = true) := fun e1 e2 => by rw [e1, e2]; exact pq3.out
                have JV : Hid (j = q0 → T.getD k (0, 0) = V.getD j (0, 0)) := fun e => by rw [e]; exact EK.out
                obtain ⟨vj, hvj⟩ : ∃ vj, V.getD j (0, 0) = vj := ⟨_, rfl⟩
                obtain ⟨tk, htk⟩ : ∃ tk, T.getD k (0, 0) = tk := ⟨_, rfl⟩
                rw [hvj] at v0 v1 JV
                rw [htk] at t0 t1 JV
                clear hvj htk
                have y0 := fun d os => cell_regrown (below_cell v0 hb) d os
                have y1 := fun d os => cell_regrown (below_cell v1 hb) d os
                have y2 := fun d os => cell_regrown (below_cell t0 hb) d os
                have y3 := fun d os => cell_regrown (below_cell t1 hb) d os
                clear v0 v1 t0 t1
                by_cases hv : vj = tk
                · rw [← hv] at y2 y3
                  clear hv JV
                  obtain ⟨x, hx⟩ : ∃ x, btwB V i j tol = x := ⟨_, rfl⟩
                  rw [hx] at BJ JB
                  clear hx
                  go_upto_region 14 with fail
                  refine wp_region_quiet_below (by kernel_rfl) (by kernel_rfl) ?_
                  repeat (go_big_quiet_step (fail))
                  go_big_quiet_step (exact BJ.out _ _)
                  repeat (go_big_quiet_step (fail))
                  refine wpQuiet_nil ?_
                  rintro _ ⟨⟨dq, osq⟩, rfl⟩
                  have hc := below_regrown wr dq osq
                  replace BC := hid0 (BC.out.bl hc)
                  replace BN := hid0 (BN.out.bl hc)
                  replace hb := hb.trans (hc.mono hb.size)
                  clear y0 y1 y2 y3 BJ hc
                  generalize grow (redrawn wr dq) osq = W4 at *
                  cases x with
                  | true =>
                    have cj := BR.at BN.out (i := j) (by rw [HNl.out]; exact hjlt)
                    have fj := Hs.froz BN.out j
                    have BS := hid0 (BR.set BN.out j true)
                    have BD := hid0 (Hs.other BC.out (p := ⟨g2, j, none⟩) hne (.bool true))
                    have hbS := hb.setCell (p := ⟨g2, j, none⟩) hsz (.bool true)
                    clear JB
                    go_wp2
                    go_roundw
                    case rel =>
                      refine ⟨j + 1, N'.set j true, by omega, by omega, by go_num, BD, BS, (by unfold Hid; rw [List.length_set]; exact HNl.out), (fun h => set_keeps (HNq.out h)), (fun e1 e2 => ?_), hbS⟩
                      by_cases c : q0 = j
                      · rw [c]; exact set_here (by rw [HNl.out]; exact hjlt)
                      · exact set_keeps (HNj.out e1 (by omega))
                    case measure => simp [intOf]; omega
                  | false =>
                    have hno : ¬ (a0 = i ∧ q0 = j) := fun ⟨e1, e2⟩ => by
                      have := JB.out e1.symm e2.symm
                      cases this
                    clear JB
                    go_wp2
                    go_roundw
                    case rel => exact ⟨j + 1, N', by omega, by omega, by go_num, BC, BN, HNl, HNq, (fun e1 e2 => HNj.out e1 (by have : q0 ≠ j := fun e => hno ⟨e1, e⟩; omega)), hb⟩
                    case measure => simp [intOf]; omega
                · have hjq : q0 ≠ j := fun e => hv (JV.out e.symm).symm
                  clear JV JB
                  by_cases hx : vj.1 = tk.1
                  · have hy : (vj.2 == tk.2) = false := beq_eq_false_iff_ne.2 (fun e => hv (Prod.ext hx e))
                    rw [← hx] at y2
                    clear hx hv
                    go_upto_region 14 with fail
                    refine wp_region_quiet_below (by kernel_rfl) (by kernel_rfl) ?_
                    repeat (go_big_quiet_step (fail))
                    refine wpQuiet_nil ?_
                    rintro _ ⟨⟨dq, osq⟩, rfl⟩
                    have hc := below_regrown wr dq osq
                    replace BC := hid0 (BC.out.bl hc)
                    replace BN := hid0 (BN.out.bl hc)
                    replace hb := hb.trans (hc.mono hb.size)
                    clear y0 y1 y2 y3 BJ hc
                    generalize grow (redrawn wr dq) osq = W4 at *
                    go_wp2
                    go_roundw
                    case rel => exact ⟨j + 1, N', by omega, by omega, by go_num, BC, BN, HNl, HNq, (fun e1 e2 => HNj.out e1 (by have := hjq; omega)), hb⟩
                    case measure => simp [intOf]; omega
                  · have hx' : (vj.1 == tk.1) = false := beq_eq_false_iff_ne.2 hx
                    clear hx hv
                    go_upto_region 14 with fail
                    refine wp_region_quiet_below (by kernel_rfl) (by kernel_rfl) ?_
                    repeat (go_big_quiet_step (fail))
                    refine wpQuiet_nil ?_
                    rintro _ ⟨⟨dq, osq⟩, rfl⟩
                    have hc := below_regrown wr dq osq
                    replace BC := hid0 (BC.out.bl hc)
                    replace BN := hid0 (BN.out.bl hc)
                    replace hb := hb.trans (hc.mono hb.size)
                    clear y0 y1 y2 y3 BJ hc
                    generalize grow (redrawn wr dq) osq = W4 at *
                    go_wp2
                    go_roundw
                    case rel => exact ⟨j + 1, N', by omega, by omega, by go_num, BC, BN, HNl, HNq, (fun e1 e2 => HNj.out e1 (by have := hjq; omega)), hb⟩
                    case measure => simp [intOf]; omega
              · have hjlt' : ¬ (j : Int) < (n : Int) := by omega
                go_wp2
                go_roundw
                case rel =>
                  refine ⟨i + 1, N', by omega, by go_num, BC, BN, HNl, (fun h => ?_), hb⟩
                  by_cases c : a0 < i
                  · exact HNq.out c
                  · exact HNj.out (by omega) (by omega)
                case measure => simp [intOf]; omega
        · have hilt' : ¬ (i : Int) < (n : Int) := by omega
          have fin := hid0 (HNq.out (by omega))
          go_wp2
          go_roundw
          case rel =>
            refine ⟨k + 1, g2, N, by omega, by omega, by go_num, rfl, by omega, BN, HNl, ?_, hb⟩
            rw [show k + 1 - 1 = k by omega, HQ0.out]
            exact fin.out
          case measure => simp [intOf]; omega
    · have hlt' : ¬ (k : Int) < (m : Int) := by omega
      have ek : k = m := by omega
      have cl := BC.out.at (i := n - 1) (by rw [HCl.out]; omega)
      rw [← PL.out, show m - 1 = k - 1 by omega, HCp.out, ← show m - 1 = k - 1 by omega, PL.out] at cl
      have y0 := cell_gr cl
      go_upto_region 17 with fail
      refine wp_region_quiet_grown (by kernel_rfl) (by kernel_rfl) ?_
      repeat (go_big_quiet_step (fail))
      refine wpQuiet_nil ?_
      intro _ hw'
      obtain ⟨⟨nq, osq⟩, hw''⟩ := hw'
      subst hw''
      have gg : Gr wr (grow (wr.drewN nq) osq) := ⟨nq, osq, rfl⟩
      go_wp2
      go_ret2
      exact ⟨rfl, hb.trans (gg.below.mono hb.size)⟩
end
end Go.Proofs.Ytljdnahomhbenaa
