/- The document's own With; Join, Cut and Meet beside it. -/
import Derived.Test.YtjnjpjpgokdciaaDoorJn
set_option linter.unusedSimpArgs false
set_option linter.unusedVariables false
namespace Go.Proofs.YtjnjpjpgokdciaaDoor
open Go.RowKit Go.Sort Go.Shelf
attribute [local go_sem] Oper.semAt_some wide_fn
attribute [local simp] wide_fn

structure Zq (h : Nat) (T U : List Bool) (k : Nat) (X : List Bool) : Prop where
  len : X.length = T.length
  done : ∀ j, j < k → X.getD j false = opB h (T.getD j false) (U.getD j false)
  rest : ∀ j, k ≤ j → X.getD j false = T.getD j false
theorem Zq.start (h : Nat) (T U : List Bool) : Zq h T U 0 T := ⟨rfl, fun j hj => absurd hj (Nat.not_lt_zero _), fun _ _ => rfl⟩
theorem Zq.step {h : Nat} {T U X : List Bool} {k : Nat} (a : Zq h T U k X) (hk : k < T.length) : Zq h T U (k + 1) (X.set k (opB h (T.getD k false) (U.getD k false))) := by
  have hl := a.len
  refine ⟨by rw [List.length_set]; exact a.len, fun j hj => ?_, fun j hj => ?_⟩
  · rw [getD_set _ _ _ _ (by omega)]
    split
    · rename_i e; rw [e]
    · exact a.done j (by omega)
  · rw [getD_set _ _ _ _ (by omega), if_neg (by omega)]
    exact a.rest j (by omega)
theorem Zq.fin {h : Nat} {T U X : List Bool} (a : Zq h T U T.length X) (hl : T.length = U.length) : X = zipT h T U := by
  apply List.ext_getElem?
  intro i
  have h1 := zipT_getD h hl i
  have h2 := zipT_len h hl
  have h3 := a.len
  by_cases hi : i < T.length
  · have h4 := a.done i hi
    rw [← h1] at h4
    simp only [List.getD_eq_getElem?_getD] at h4
    rw [List.getElem?_eq_getElem (by omega), List.getElem?_eq_getElem (by omega)] at *
    simp only [Option.getD_some] at h4
    rw [h4]
  · rw [List.getElem?_eq_none (by omega), List.getElem?_eq_none (by omega)]
theorem bV_inj {W V : List Bool} (h : W.map Value.bool = V.map Value.bool) : W = V := (List.map_inj_right (fun a b e => by cases e; rfl)).1 h
theorem bits_at {w wr : World} {c gc g k : Nat} {T U X : List Bool} {h : Nat} (hc : RBits w c gc U) (hg : Bk w g 4 (T.map Value.bool)) (hC : Chg (fun j => j = g) w wr) (hX : Bk wr g 4 (X.map Value.bool)) (hZ : Zq h T U k X) (hk : k < U.length) : wr.cell? ⟨gc, k, none⟩ = some (.bool (U.getD k false)) := by
  by_cases e : gc = g
  · subst e
    have hWV : T = U := bV_inj (bk_inj hg hc.row)
    subst hWV
    have hl := hZ.len
    rw [hX.at k, List.getElem?_map, List.getElem?_eq_getElem (by omega)]
    have := hZ.rest k (Nat.le_refl _)
    rw [List.getD_eq_getElem?_getD, List.getElem?_eq_getElem (by omega : k < X.length)] at this
    simp only [Option.getD_some] at this
    rw [← this]
    rfl
  · rw [(hc.row.chg hC e).at k, List.getElem?_map, List.getElem?_eq_getElem hk, List.getD_eq_getElem?_getD, List.getElem?_eq_getElem hk]
    rfl
section
variable {w : World} {r q s t : Nat} {T U : List Bool}
theorem with_arg (h : RBits w r q T) (k : RBits w s t U) (o : Int) (hne : T.length ≠ U.length) : Calls Tryd.prog 60 #[pT r, pT s, .int .i64 o] w fun e w' => e = .returned (.int .i64 2) ∧ Gr w w' := by
  have c0 := fun m => below_cell h.c0 ((Gr.refl w).drewN m).below
  have k0 := fun m => below_cell k.c0 ((Gr.refl w).drewN m).below
  have hne' : ((T.length : Int) != (U.length : Int)) = true := by simp; omega
  clear h k hne
  go_enter Tryd.func60, Tryd.ntmps60
  go_upto_region 1 with fail
  go_quiet (fail)
  go_wp2
  go_ret
  exact ⟨rfl, (Gr.refl w).drewN _⟩
set_option maxRecDepth 100000 in
set_option maxHeartbeats 4000000 in
theorem with_ok0 (h : RBits w r q T) (k : RBits w s t U) (he : T.length = U.length) (hl : T.length ≤ 65536) : Calls Tryd.prog 60 #[pT r, pT s, .int .i64 0] w fun e w' => e = .returned (.int .i64 0) ∧ RBits w' r q (zipT 0 T U) ∧ Chg (fun j => j = q) w w' := by
  have c0 := fun m => below_cell h.c0 ((Gr.refl w).drewN m).below
  have k0 := fun m => below_cell k.c0 ((Gr.refl w).drewN m).below
  have hne' : ((T.length : Int) != (U.length : Int)) = false := by simp; omega
  have HB := hid0 h
  have HC := hid0 k
  have HE := hid0 he
  clear h k
  go_enter Tryd.func60, Tryd.ntmps60
  go_upto_region 1 with fail
  go_quiet (fail)
  generalize hW1 : w.drewN _ = w1 at *
  have G1 := hid0 (hW1 ▸ (Gr.refl w).drewN _ : Gr w w1)
  have B1 := hid0 (HB.out.gr G1.out)
  have C1 := hid0 (HC.out.gr G1.out)
  clear c0 k0 hW1 HB HC
  generalize hK : T.length = K at *
  have HK := hid0 hK
  have HU : Hid (U.length = K) := he.symm
  clear hK hne' he
  have hKI : (K : Int) < 9223372036854775807 := by omega
  clear hl
  go_wp2
  go_loopg [7] K (fun kx s7 wr => ∃ (n : Nat) (X : List Bool), s7 = .int .i64 (n : Int) ∧ n ≤ K ∧ kx = K - n ∧ Hid (Bk wr q 4 (X.map Value.bool)) ∧ Hid (Zq 0 T U n X) ∧ Hid (Chg (fun j => j = q) w1 wr))
  case atStart => exact ⟨0, T, rfl, Nat.zero_le _, rfl, B1.out.row, Zq.start 0 T U, Chg.refl _ _⟩
  case round =>
    obtain ⟨n, X, rfl, hn, rfl, RX, ZX, CX⟩ := hrel
    have hrq : r ≠ q := B1.out.ne
    have hsq : s ≠ q := fun e => by have h1 := C1.out.blk; have h2 := B1.out.row; rw [e] at h1; have := bk_ty h1 h2; cases this
    have bb := B1.out.blk.chg CX.out hrq
    have cc := C1.out.blk.chg CX.out hsq
    rw [HK.out] at bb
    rw [HU.out] at cc
    have b0 := fun m => below_cell (bb.at 0) ((Gr.refl wr).drewN m).below
    have b0' := bb.at 0
    have s0 := fun m => below_cell (cc.at 0) ((Gr.refl wr).drewN m).below
    by_cases hlt : n < K
    · have hlt' : (n : Int) < (K : Int) := by omega
      have cw := fun m => below_cell (bits_at C1.out B1.out.row CX.out RX.out ZX.out (k := n) (by rw [HU.out]; exact hlt)) ((Gr.refl wr).drewN m).below
      have hXl : X.length = K := by rw [ZX.out.len]; exact HK.out
      have bw : wr.cell? ⟨q, n, none⟩ = some (.bool (T.getD n false)) := by
        rw [RX.out.at n, List.getElem?_map, List.getElem?_eq_getElem (by omega)]
        have := ZX.out.rest n (Nat.le_refl _)
        rw [List.getD_eq_getElem?_getD, List.getElem?_eq_getElem (by omega : n < X.length)] at this
        simp only [Option.getD_some] at this
        rw [← this]
        rfl
      have bwm := fun m => below_cell bw ((Gr.refl wr).drewN m).below
      have fzm := fun m => (RX.out.gr ((Gr.refl wr).drewN m)).frozen n
      have Z2 := hid0 (ZX.out.step (k := n) (by have := HK.out; omega))
      have R2 : Hid (∀ m, Bk ((wr.drewN m).setCell ⟨q, n, none⟩ (.bool (opB 0 (T.getD n false) (U.getD n false)))) q 4 ((X.set n (opB 0 (T.getD n false) (U.getD n false))).map Value.bool)) := fun m => by
        rw [List.map_set]
        exact (RX.out.gr ((Gr.refl wr).drewN m)).set n _
      have C2 : Hid (∀ m, Chg (fun j => j = q) w1 ((wr.drewN m).setCell ⟨q, n, none⟩ (.bool (opB 0 (T.getD n false) (U.getD n false))))) := fun m => (CX.out.gr ((Gr.refl wr).drewN m)).trans (Chg.set (p := fun j => j = q) _ (a := ⟨q, n, none⟩) rfl _)
      clear RX ZX CX bb cc bw hXl
      generalize U.getD n false = E at *
      cases hD : T.getD n false with
      | true =>
        rw [hD] at bwm Z2 R2 C2
        clear hD
        go_upto_region 8 with fail
        obtain ⟨nF, hnF⟩ : ∃ nF : Nat, 5 ≤ nF := ⟨5, by omega⟩
        refine (wpIn_wide (n := nF)).1 ?_
        refine region_head_lit 22 (by kernel_rfl) (by kernel_rfl) (by simp) (by kernel_rfl) ?_
        simp only [List.take_succ_cons, List.take_zero, List.drop_succ_cons, List.drop_zero]
        repeat (gi_big_quiet_step (fail))
        refine wpQuietIn_nil ?_
        intro _ hw'
        obtain ⟨z, rfl⟩ := hw'
        gi_wp2
        go_wp2
        go_roundg (K - (n + 1))
        case measure => omega
        case rel => exact ⟨n + 1, _, by simp, by omega, rfl, R2.out z, Z2, C2.out z⟩
      | false =>
        rw [hD] at bwm Z2 R2 C2
        clear hD
        go_upto_region 8 with fail
        obtain ⟨nF, hnF⟩ : ∃ nF : Nat, 5 ≤ nF := ⟨5, by omega⟩
        refine (wpIn_wide (n := nF)).1 ?_
        refine region_head_lit 22 (by kernel_rfl) (by kernel_rfl) (by simp) (by kernel_rfl) ?_
        simp only [List.take_succ_cons, List.take_zero, List.drop_succ_cons, List.drop_zero]
        repeat (gi_big_quiet_step (fail))
        refine wpQuietIn_nil ?_
        intro _ hw'
        obtain ⟨z, rfl⟩ := hw'
        gi_wp2
        go_wp2
        go_roundg (K - (n + 1))
        case measure => omega
        case rel => exact ⟨n + 1, _, by simp, by omega, rfl, R2.out z, Z2, C2.out z⟩
    · have hge : ¬ (n : Int) < (K : Int) := by omega
      obtain rfl : n = K := by omega
      have FB : Hid (RBits wr r q (zipT 0 T U)) := by
        have e : X = zipT 0 T U := by
          refine Zq.fin ?_ (HK.out.trans HE.out)
          rw [HK.out]
          exact ZX.out
        rw [← e]
        refine ⟨?_, RX.out⟩
        rw [ZX.out.len, HK.out]
        exact bb
      have FC := hid0 ((Chg.of_gr (p := fun j => j = q) G1.out).trans CX.out)
      clear RX ZX CX bb cc
      go_wp2
      go_ret
      exact ⟨rfl, FB.out, FC.out⟩
set_option maxRecDepth 100000 in
set_option maxHeartbeats 4000000 in
theorem with_ok1 (h : RBits w r q T) (k : RBits w s t U) (he : T.length = U.length) (hl : T.length ≤ 65536) : Calls Tryd.prog 60 #[pT r, pT s, .int .i64 1] w fun e w' => e = .returned (.int .i64 0) ∧ RBits w' r q (zipT 1 T U) ∧ Chg (fun j => j = q) w w' := by
  have c0 := fun m => below_cell h.c0 ((Gr.refl w).drewN m).below
  have k0 := fun m => below_cell k.c0 ((Gr.refl w).drewN m).below
  have hne' : ((T.length : Int) != (U.length : Int)) = false := by simp; omega
  have HB := hid0 h
  have HC := hid0 k
  have HE := hid0 he
  clear h k
  go_enter Tryd.func60, Tryd.ntmps60
  go_upto_region 1 with fail
  go_quiet (fail)
  generalize hW1 : w.drewN _ = w1 at *
  have G1 := hid0 (hW1 ▸ (Gr.refl w).drewN _ : Gr w w1)
  have B1 := hid0 (HB.out.gr G1.out)
  have C1 := hid0 (HC.out.gr G1.out)
  clear c0 k0 hW1 HB HC
  generalize hK : T.length = K at *
  have HK := hid0 hK
  have HU : Hid (U.length = K) := he.symm
  clear hK hne' he
  have hKI : (K : Int) < 9223372036854775807 := by omega
  clear hl
  go_wp2
  go_loopg [7] K (fun kx s7 wr => ∃ (n : Nat) (X : List Bool), s7 = .int .i64 (n : Int) ∧ n ≤ K ∧ kx = K - n ∧ Hid (Bk wr q 4 (X.map Value.bool)) ∧ Hid (Zq 1 T U n X) ∧ Hid (Chg (fun j => j = q) w1 wr))
  case atStart => exact ⟨0, T, rfl, Nat.zero_le _, rfl, B1.out.row, Zq.start 1 T U, Chg.refl _ _⟩
  case round =>
    obtain ⟨n, X, rfl, hn, rfl, RX, ZX, CX⟩ := hrel
    have hrq : r ≠ q := B1.out.ne
    have hsq : s ≠ q := fun e => by have h1 := C1.out.blk; have h2 := B1.out.row; rw [e] at h1; have := bk_ty h1 h2; cases this
    have bb := B1.out.blk.chg CX.out hrq
    have cc := C1.out.blk.chg CX.out hsq
    rw [HK.out] at bb
    rw [HU.out] at cc
    have b0 := fun m => below_cell (bb.at 0) ((Gr.refl wr).drewN m).below
    have b0' := bb.at 0
    have s0 := fun m => below_cell (cc.at 0) ((Gr.refl wr).drewN m).below
    by_cases hlt : n < K
    · have hlt' : (n : Int) < (K : Int) := by omega
      have cw := fun m => below_cell (bits_at C1.out B1.out.row CX.out RX.out ZX.out (k := n) (by rw [HU.out]; exact hlt)) ((Gr.refl wr).drewN m).below
      have hXl : X.length = K := by rw [ZX.out.len]; exact HK.out
      have bw : wr.cell? ⟨q, n, none⟩ = some (.bool (T.getD n false)) := by
        rw [RX.out.at n, List.getElem?_map, List.getElem?_eq_getElem (by omega)]
        have := ZX.out.rest n (Nat.le_refl _)
        rw [List.getD_eq_getElem?_getD, List.getElem?_eq_getElem (by omega : n < X.length)] at this
        simp only [Option.getD_some] at this
        rw [← this]
        rfl
      have bwm := fun m => below_cell bw ((Gr.refl wr).drewN m).below
      have fzm := fun m => (RX.out.gr ((Gr.refl wr).drewN m)).frozen n
      have Z2 := hid0 (ZX.out.step (k := n) (by have := HK.out; omega))
      have R2 : Hid (∀ m, Bk ((wr.drewN m).setCell ⟨q, n, none⟩ (.bool (opB 1 (T.getD n false) (U.getD n false)))) q 4 ((X.set n (opB 1 (T.getD n false) (U.getD n false))).map Value.bool)) := fun m => by
        rw [List.map_set]
        exact (RX.out.gr ((Gr.refl wr).drewN m)).set n _
      have C2 : Hid (∀ m, Chg (fun j => j = q) w1 ((wr.drewN m).setCell ⟨q, n, none⟩ (.bool (opB 1 (T.getD n false) (U.getD n false))))) := fun m => (CX.out.gr ((Gr.refl wr).drewN m)).trans (Chg.set (p := fun j => j = q) _ (a := ⟨q, n, none⟩) rfl _)
      clear RX ZX CX bb cc bw hXl
      generalize U.getD n false = E at *
      cases hD : T.getD n false with
      | true =>
        rw [hD] at bwm Z2 R2 C2
        clear hD
        go_upto_region 10 with fail
        obtain ⟨nF, hnF⟩ : ∃ nF : Nat, 5 ≤ nF := ⟨5, by omega⟩
        refine (wpIn_wide (n := nF)).1 ?_
        refine region_head_lit 23 (by kernel_rfl) (by kernel_rfl) (by simp) (by kernel_rfl) ?_
        simp only [List.take_succ_cons, List.take_zero, List.drop_succ_cons, List.drop_zero]
        repeat (gi_big_quiet_step (fail))
        refine wpQuietIn_nil ?_
        intro _ hw'
        obtain ⟨z, rfl⟩ := hw'
        gi_wp2
        go_wp2
        go_roundg (K - (n + 1))
        case measure => omega
        case rel => exact ⟨n + 1, _, by simp, by omega, rfl, R2.out z, Z2, C2.out z⟩
      | false =>
        rw [hD] at bwm Z2 R2 C2
        clear hD
        go_upto_region 10 with fail
        obtain ⟨nF, hnF⟩ : ∃ nF : Nat, 5 ≤ nF := ⟨5, by omega⟩
        refine (wpIn_wide (n := nF)).1 ?_
        refine region_head_lit 23 (by kernel_rfl) (by kernel_rfl) (by simp) (by kernel_rfl) ?_
        simp only [List.take_succ_cons, List.take_zero, List.drop_succ_cons, List.drop_zero]
        repeat (gi_big_quiet_step (fail))
        refine wpQuietIn_nil ?_
        intro _ hw'
        obtain ⟨z, rfl⟩ := hw'
        gi_wp2
        go_wp2
        go_roundg (K - (n + 1))
        case measure => omega
        case rel => exact ⟨n + 1, _, by simp, by omega, rfl, R2.out z, Z2, C2.out z⟩
    · have hge : ¬ (n : Int) < (K : Int) := by omega
      obtain rfl : n = K := by omega
      have FB : Hid (RBits wr r q (zipT 1 T U)) := by
        have e : X = zipT 1 T U := by
          refine Zq.fin ?_ (HK.out.trans HE.out)
          rw [HK.out]
          exact ZX.out
        rw [← e]
        refine ⟨?_, RX.out⟩
        rw [ZX.out.len, HK.out]
        exact bb
      have FC := hid0 ((Chg.of_gr (p := fun j => j = q) G1.out).trans CX.out)
      clear RX ZX CX bb cc
      go_wp2
      go_ret
      exact ⟨rfl, FB.out, FC.out⟩
set_option maxRecDepth 100000 in
set_option maxHeartbeats 4000000 in
theorem with_ok2 (h : RBits w r q T) (k : RBits w s t U) (he : T.length = U.length) (hl : T.length ≤ 65536) : Calls Tryd.prog 60 #[pT r, pT s, .int .i64 2] w fun e w' => e = .returned (.int .i64 0) ∧ RBits w' r q (zipT 2 T U) ∧ Chg (fun j => j = q) w w' := by
  have c0 := fun m => below_cell h.c0 ((Gr.refl w).drewN m).below
  have k0 := fun m => below_cell k.c0 ((Gr.refl w).drewN m).below
  have hne' : ((T.length : Int) != (U.length : Int)) = false := by simp; omega
  have HB := hid0 h
  have HC := hid0 k
  have HE := hid0 he
  clear h k
  go_enter Tryd.func60, Tryd.ntmps60
  go_upto_region 1 with fail
  go_quiet (fail)
  generalize hW1 : w.drewN _ = w1 at *
  have G1 := hid0 (hW1 ▸ (Gr.refl w).drewN _ : Gr w w1)
  have B1 := hid0 (HB.out.gr G1.out)
  have C1 := hid0 (HC.out.gr G1.out)
  clear c0 k0 hW1 HB HC
  generalize hK : T.length = K at *
  have HK := hid0 hK
  have HU : Hid (U.length = K) := he.symm
  clear hK hne' he
  have hKI : (K : Int) < 9223372036854775807 := by omega
  clear hl
  go_wp2
  go_loopg [7] K (fun kx s7 wr => ∃ (n : Nat) (X : List Bool), s7 = .int .i64 (n : Int) ∧ n ≤ K ∧ kx = K - n ∧ Hid (Bk wr q 4 (X.map Value.bool)) ∧ Hid (Zq 2 T U n X) ∧ Hid (Chg (fun j => j = q) w1 wr))
  case atStart => exact ⟨0, T, rfl, Nat.zero_le _, rfl, B1.out.row, Zq.start 2 T U, Chg.refl _ _⟩
  case round =>
    obtain ⟨n, X, rfl, hn, rfl, RX, ZX, CX⟩ := hrel
    have hrq : r ≠ q := B1.out.ne
    have hsq : s ≠ q := fun e => by have h1 := C1.out.blk; have h2 := B1.out.row; rw [e] at h1; have := bk_ty h1 h2; cases this
    have bb := B1.out.blk.chg CX.out hrq
    have cc := C1.out.blk.chg CX.out hsq
    rw [HK.out] at bb
    rw [HU.out] at cc
    have b0 := fun m => below_cell (bb.at 0) ((Gr.refl wr).drewN m).below
    have b0' := bb.at 0
    have s0 := fun m => below_cell (cc.at 0) ((Gr.refl wr).drewN m).below
    by_cases hlt : n < K
    · have hlt' : (n : Int) < (K : Int) := by omega
      have cw := fun m => below_cell (bits_at C1.out B1.out.row CX.out RX.out ZX.out (k := n) (by rw [HU.out]; exact hlt)) ((Gr.refl wr).drewN m).below
      have hXl : X.length = K := by rw [ZX.out.len]; exact HK.out
      have bw : wr.cell? ⟨q, n, none⟩ = some (.bool (T.getD n false)) := by
        rw [RX.out.at n, List.getElem?_map, List.getElem?_eq_getElem (by omega)]
        have := ZX.out.rest n (Nat.le_refl _)
        rw [List.getD_eq_getElem?_getD, List.getElem?_eq_getElem (by omega : n < X.length)] at this
        simp only [Option.getD_some] at this
        rw [← this]
        rfl
      have bwm := fun m => below_cell bw ((Gr.refl wr).drewN m).below
      have fzm := fun m => (RX.out.gr ((Gr.refl wr).drewN m)).frozen n
      have Z2 := hid0 (ZX.out.step (k := n) (by have := HK.out; omega))
      have R2 : Hid (∀ m, Bk ((wr.drewN m).setCell ⟨q, n, none⟩ (.bool (opB 2 (T.getD n false) (U.getD n false)))) q 4 ((X.set n (opB 2 (T.getD n false) (U.getD n false))).map Value.bool)) := fun m => by
        rw [List.map_set]
        exact (RX.out.gr ((Gr.refl wr).drewN m)).set n _
      have C2 : Hid (∀ m, Chg (fun j => j = q) w1 ((wr.drewN m).setCell ⟨q, n, none⟩ (.bool (opB 2 (T.getD n false) (U.getD n false))))) := fun m => (CX.out.gr ((Gr.refl wr).drewN m)).trans (Chg.set (p := fun j => j = q) _ (a := ⟨q, n, none⟩) rfl _)
      clear RX ZX CX bb cc bw hXl
      generalize U.getD n false = E at *
      cases hD : T.getD n false with
      | true =>
        rw [hD] at bwm Z2 R2 C2
        clear hD
        go_upto_region 12 with fail
        obtain ⟨nF, hnF⟩ : ∃ nF : Nat, 5 ≤ nF := ⟨5, by omega⟩
        refine (wpIn_wide (n := nF)).1 ?_
        refine region_head_lit 22 (by kernel_rfl) (by kernel_rfl) (by simp) (by kernel_rfl) ?_
        simp only [List.take_succ_cons, List.take_zero, List.drop_succ_cons, List.drop_zero]
        repeat (gi_big_quiet_step (fail))
        refine wpQuietIn_nil ?_
        intro _ hw'
        obtain ⟨z, rfl⟩ := hw'
        gi_wp2
        go_wp2
        go_roundg (K - (n + 1))
        case measure => omega
        case rel => exact ⟨n + 1, _, by simp, by omega, rfl, R2.out z, Z2, C2.out z⟩
      | false =>
        rw [hD] at bwm Z2 R2 C2
        clear hD
        go_upto_region 12 with fail
        obtain ⟨nF, hnF⟩ : ∃ nF : Nat, 5 ≤ nF := ⟨5, by omega⟩
        refine (wpIn_wide (n := nF)).1 ?_
        refine region_head_lit 22 (by kernel_rfl) (by kernel_rfl) (by simp) (by kernel_rfl) ?_
        simp only [List.take_succ_cons, List.take_zero, List.drop_succ_cons, List.drop_zero]
        repeat (gi_big_quiet_step (fail))
        refine wpQuietIn_nil ?_
        intro _ hw'
        obtain ⟨z, rfl⟩ := hw'
        gi_wp2
        go_wp2
        go_roundg (K - (n + 1))
        case measure => omega
        case rel => exact ⟨n + 1, _, by simp, by omega, rfl, R2.out z, Z2, C2.out z⟩
    · have hge : ¬ (n : Int) < (K : Int) := by omega
      obtain rfl : n = K := by omega
      have FB : Hid (RBits wr r q (zipT 2 T U)) := by
        have e : X = zipT 2 T U := by
          refine Zq.fin ?_ (HK.out.trans HE.out)
          rw [HK.out]
          exact ZX.out
        rw [← e]
        refine ⟨?_, RX.out⟩
        rw [ZX.out.len, HK.out]
        exact bb
      have FC := hid0 ((Chg.of_gr (p := fun j => j = q) G1.out).trans CX.out)
      clear RX ZX CX bb cc
      go_wp2
      go_ret
      exact ⟨rfl, FB.out, FC.out⟩
end
end Go.Proofs.YtjnjpjpgokdciaaDoor
