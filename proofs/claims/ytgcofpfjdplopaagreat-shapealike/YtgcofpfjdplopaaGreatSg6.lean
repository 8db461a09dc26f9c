/- Contracts: are all points of the lattice? What is near. -/
import Derived.Test.YtgcofpfjdplopaaGreatSg2
namespace Go.Proofs.YtgcofpfjdplopaaGreat
section
open Go.RowKit Go.Sort

theorem hid' {p : Prop} (h : p) : Hid p := h
def latP (p : P2) : Bool := latB p.1 && latB p.2
theorem latP_iff (p : P2) : latP p = true ↔ lat p := by unfold latP latB lat; simp

set_option maxRecDepth 20000 in
set_option maxHeartbeats 1000000 in
theorem ofLat_any (b off cap : Nat) (l : List P2) (w : World) (hl : l.length ≤ 1000) (hP : Pts w (some ⟨b, off, none⟩) l) :
    Calls Tryz.prog 134 #[.slice (some ⟨b, off, none⟩) l.length cap] w fun e w' => e = .returned (.bool (l.all latP)) ∧ Gr w w' := by
  have HP : Hid (Pts w (some ⟨b, off, none⟩) l) := hP
  clear hP
  go_enter Tryz.func134, Tryz.ntmps134
  go_wp2
  go_loopw [7] (fun i wr => ∃ k : Nat, k ≤ l.length ∧ i = .int .i64 k ∧ Hid ((l.take k).all latP = true) ∧ Gr w wr) (fun i _ => l.length - (intOf i).toNat)
  case atStart => exact ⟨0, by omega, rfl, by unfold Hid; simp, Gr.refl _⟩
  case round =>
    obtain ⟨k, hk, rfl, hall, hG⟩ := hrel
    by_cases hlt : k < l.length
    · obtain ⟨b', off', e, p0, p1⟩ := HP.out k hlt
      simp only [Option.some.injEq, Addr.mk.injEq] at e
      obtain ⟨rfl, rfl, _⟩ := e
      replace p0 := below_cell p0 hG.below
      replace p1 := below_cell p1 hG.below
      have ht : l.take (k + 1) = l.take k ++ [l.getD k (0, 0)] := by
        rw [List.take_add_one]; congr 1; simp [List.getD, List.getElem?_eq_getElem hlt]
      have hmem : l.getD k (0, 0) ∈ l := by simp [List.getD, List.getElem?_eq_getElem hlt]
      have H1 : Hid (latP (l.getD k (0, 0)) = true → (l.take (k + 1)).all latP = true) := fun h => by
        rw [ht, List.all_append, hall.out]; simp only [List.all_cons, List.all_nil, Bool.and_true, Bool.true_and]; exact h
      have H2 : Hid (latP (l.getD k (0, 0)) = false → l.all latP = false) := fun h => by
        rw [Bool.eq_false_iff]; intro q; rw [List.all_eq_true] at q; rw [q _ hmem] at h; cases h
      have hI : Hid (∀ w, Calls Tryz.prog 80 #[pt (l.getD k (0, 0)).1 (l.getD k (0, 0)).2] w fun e w' => e = .returned (.bool (latP (l.getD k (0, 0)))) ∧ Gr w w') := fun w => in_any _ _ w
      clear ht hmem hall
      generalize latP (l.getD k (0, 0)) = B at *
      generalize (l.getD k (0, 0)).1 = X at *
      generalize (l.getD k (0, 0)).2 = Y at *
      go_wp2_with fail
      refine (hI.out _).mono ?_
      rintro e w1 ⟨rfl, q1⟩
      have g1 : Gr wr (wr.alloc (.cells #[.int .i32 X, .int .i32 Y] 28)) := (Gr.refl _).alloc _
      replace hG := (hG.trans g1).trans q1
      clear q1 g1 hI p0 p1
      cases B with
      | false =>
        have E := H2.out rfl
        clear H1 H2
        go_wp2
        go_ret
        exact ⟨by rw [E]; rfl, hG⟩
      | true =>
        have E := hid' (H1.out rfl)
        clear H1 H2
        go_wp2
        go_roundw
        case rel => exact ⟨k + 1, by omega, by go_num, E, hG⟩
        case measure => simp [intOf]; omega
    · have hkn : k = l.length := by omega
      subst hkn
      rw [List.take_length] at hall
      go_wp2
      go_ret
      exact ⟨by rw [hall.out]; rfl, hG⟩

def farI : Int := 3037000498
/-- Is some point of the segment from a to b no farther than r from p? -/
def nearB (p a b : P2) (r : Int) : Bool := if dtt a b p ≤ 0 then decide (dd p a ≤ min r farI * min r farI) else if dd a b ≤ dtt a b p then decide (dd p b ≤ min r farI * min r farI) else decide (crs a b p * crs a b p ≤ min r farI * min r farI * dd a b)
theorem cmp_le (m n : Int) : decide (cmpI m n ≤ 0) = decide (m ≤ n) := by rw [decide_eq_decide]; unfold cmpI; split <;> (try split) <;> omega
set_option maxHeartbeats 2000000 in
theorem near_any (p a b : P2) (r : Int) (hp : lat p) (ha : lat a) (hb : lat b) (h0 : 0 ≤ r) (w : World) :
    Calls Tryz.prog 198 #[ptv p, ptv a, ptv b, .int .i64 r] w fun e w' => e = .returned (.bool (nearB p a b r)) ∧ Gr w w' := by
  have D : Hid (∀ w, Calls Tryz.prog 152 #[ptv a, ptv b, ptv p] w fun e w' => e = .returned (.int .i64 (dtt a b p)) ∧ Gr w w') := dot_lat a b p ha hb hp
  have F : Hid (∀ w, Calls Tryz.prog 153 #[ptv a, ptv b] w fun e w' => e = .returned (.int .i64 (dd a b)) ∧ Gr w w') := dist_lat a b ha hb
  have G1 : Hid (∀ w, Calls Tryz.prog 153 #[ptv p, ptv a] w fun e w' => e = .returned (.int .i64 (dd p a)) ∧ Gr w w') := dist_lat p a hp ha
  have G2 : Hid (∀ w, Calls Tryz.prog 153 #[ptv p, ptv b] w fun e w' => e = .returned (.int .i64 (dd p b)) ∧ Gr w w') := dist_lat p b hp hb
  have C : Hid (∀ w, Calls Tryz.prog 144 #[ptv a, ptv b, ptv p] w fun e w' => e = .returned (.int .i64 (crs a b p)) ∧ Gr w w') := cross_lat a b p ha hb hp
  have cb := crs_bd ha hb hp
  have nb := dd_bd ha hb
  have kb : 0 ≤ min r farI ∧ min r farI ≤ 3037000498 := by unfold farI; omega
  have sq : 0 ≤ min r farI * min r farI ∧ min r farI * min r farI ≤ 9223372024852248004 := by
    have := prod_bd (x := min r farI) (y := min r farI) (M := 3037000498) (by omega) (by omega)
    exact ⟨sq_nn _, this.2⟩
  have wS : wrap64 (min r farI * min r farI) = min r farI * min r farI := by unfold wrap64; omega
  have M : Hid (∀ w, Calls Tryz.prog 150 #[.int .i64 (crs a b p), .int .i64 (crs a b p), .int .i64 (min r farI * min r farI), .int .i64 (dd a b)] w fun e w' => e = .returned (.int .i64 (cmpI (crs a b p * crs a b p) (min r farI * min r farI * dd a b))) ∧ Gr w w') := fun w => cmpmul_any _ _ _ _ w (by omega) (by omega) (by omega) (by omega) (by omega) (by omega) (by omega) (by omega)
  have E : Hid (nearB p a b r = if dtt a b p ≤ 0 then decide (dd p a ≤ min r farI * min r farI) else if dd a b ≤ dtt a b p then decide (dd p b ≤ min r farI * min r farI) else decide (cmpI (crs a b p * crs a b p) (min r farI * min r farI * dd a b) ≤ 0)) := by
    unfold Hid; rw [cmp_le]; rfl
  generalize cmpI (crs a b p * crs a b p) (min r farI * min r farI * dd a b) = CM at *
  generalize crs a b p = CR at *
  generalize dtt a b p = T at *
  generalize dd a b = N at *
  generalize dd p a = D1 at *
  generalize dd p b = D2 at *
  clear sq cb nb hp ha hb
  obtain ⟨px, py⟩ := p
  obtain ⟨ax, ay⟩ := a
  obtain ⟨bx, by_⟩ := b
  show Calls Tryz.prog 198 #[pt px py, pt ax ay, pt bx by_, .int .i64 r] w _
  by_cases hr : r ≤ 3037000498
  · have hm : min r farI = r := by unfold farI; omega
    rw [hm] at wS M E
    clear hm kb
    go_enter Tryz.func198, Tryz.ntmps198
    go_wp2
    have hG : Gr w (((w.alloc (.cells #[.int .i32 px, .int .i32 py] 28)).alloc (.cells #[.int .i32 ax, .int .i32 ay] 28)).alloc (.cells #[.int .i32 bx, .int .i32 by_] 28)) := ((((Gr.refl _).alloc _).alloc _).alloc _)
    have x0 := cell_gr (show (((w.alloc (.cells #[.int .i32 px, .int .i32 py] 28)).alloc (.cells #[.int .i32 ax, .int .i32 ay] 28)).alloc (.cells #[.int .i32 bx, .int .i32 by_] 28)).cell? ⟨w.heap.size, 0, none⟩ = some (.int .i32 px) by go_simp)
    have x1 := cell_gr (show (((w.alloc (.cells #[.int .i32 px, .int .i32 py] 28)).alloc (.cells #[.int .i32 ax, .int .i32 ay] 28)).alloc (.cells #[.int .i32 bx, .int .i32 by_] 28)).cell? ⟨w.heap.size, 1, none⟩ = some (.int .i32 py) by go_simp)
    have x2 := cell_gr (show (((w.alloc (.cells #[.int .i32 px, .int .i32 py] 28)).alloc (.cells #[.int .i32 ax, .int .i32 ay] 28)).alloc (.cells #[.int .i32 bx, .int .i32 by_] 28)).cell? ⟨w.heap.size + 1, 0, none⟩ = some (.int .i32 ax) by go_simp)
    have x3 := cell_gr (show (((w.alloc (.cells #[.int .i32 px, .int .i32 py] 28)).alloc (.cells #[.int .i32 ax, .int .i32 ay] 28)).alloc (.cells #[.int .i32 bx, .int .i32 by_] 28)).cell? ⟨w.heap.size + 1, 1, none⟩ = some (.int .i32 ay) by go_simp)
    have x4 := cell_gr (show (((w.alloc (.cells #[.int .i32 px, .int .i32 py] 28)).alloc (.cells #[.int .i32 ax, .int .i32 ay] 28)).alloc (.cells #[.int .i32 bx, .int .i32 by_] 28)).cell? ⟨w.heap.size + 1 + 1, 0, none⟩ = some (.int .i32 bx) by go_simp)
    have x5 := cell_gr (show (((w.alloc (.cells #[.int .i32 px, .int .i32 py] 28)).alloc (.cells #[.int .i32 ax, .int .i32 ay] 28)).alloc (.cells #[.int .i32 bx, .int .i32 by_] 28)).cell? ⟨w.heap.size + 1 + 1, 1, none⟩ = some (.int .i32 by_) by go_simp)
    generalize (((w.alloc (.cells #[.int .i32 px, .int .i32 py] 28)).alloc (.cells #[.int .i32 ax, .int .i32 ay] 28)).alloc (.cells #[.int .i32 bx, .int .i32 by_] 28)) = W at *
    refine wp_region_quiet_grown (by kernel_rfl) (by kernel_rfl) ?_
    repeat (go_big_quiet_step (first | (go_at_call 152; exact Calls.grown_of (D.out _)) | (go_at_call 153; exact Calls.grown_of (F.out _))))
    refine wpQuiet_nil ?_
    intro _ hw'
    obtain ⟨⟨nq, osq⟩, hw''⟩ := hw'
    subst hw''
    have g := hG.trans ⟨nq, osq, rfl⟩
    have z0 := x0 nq osq
    have z1 := x1 nq osq
    have z2 := x2 nq osq
    have z3 := x3 nq osq
    have z4 := x4 nq osq
    have z5 := x5 nq osq
    clear x0 x1 x2 x3 x4 x5 hG D F
    generalize grow (W.drewN nq) osq = W1 at *
    by_cases h1 : T ≤ 0
    · rw [if_pos h1] at E
      go_wp2_with fail
      refine (G1.out _).mono ?_
      rintro e w1 ⟨rfl, q1⟩
      go_wp2
      go_ret
      exact ⟨by rw [E.out]; rfl, g.trans q1⟩
    · rw [if_neg h1] at E
      by_cases h2 : N ≤ T
      · rw [if_pos h2] at E
        go_wp2_with fail
        refine (G2.out _).mono ?_
        rintro e w1 ⟨rfl, q1⟩
        go_wp2
        go_ret
        exact ⟨by rw [E.out]; rfl, g.trans q1⟩
      · rw [if_neg h2] at E
        go_wp2_with fail
        refine (C.out _).mono ?_
        rintro e w1 ⟨rfl, q1⟩
        go_wp2_with fail
        refine (M.out _).mono ?_
        rintro e w2 ⟨rfl, q2⟩
        go_wp2
        go_ret
        exact ⟨by rw [E.out]; rfl, (g.trans q1).trans q2⟩
  · have hm : min r farI = 3037000498 := by unfold farI; omega
    rw [hm, show (3037000498 : Int) * 3037000498 = 9223372024852248004 from rfl] at M E
    clear hm kb wS
    go_enter Tryz.func198, Tryz.ntmps198
    go_wp2
    have hG : Gr w (((w.alloc (.cells #[.int .i32 px, .int .i32 py] 28)).alloc (.cells #[.int .i32 ax, .int .i32 ay] 28)).alloc (.cells #[.int .i32 bx, .int .i32 by_] 28)) := ((((Gr.refl _).alloc _).alloc _).alloc _)
    have x0 := cell_gr (show (((w.alloc (.cells #[.int .i32 px, .int .i32 py] 28)).alloc (.cells #[.int .i32 ax, .int .i32 ay] 28)).alloc (.cells #[.int .i32 bx, .int .i32 by_] 28)).cell? ⟨w.heap.size, 0, none⟩ = some (.int .i32 px) by go_simp)
    have x1 := cell_gr (show (((w.alloc (.cells #[.int .i32 px, .int .i32 py] 28)).alloc (.cells #[.int .i32 ax, .int .i32 ay] 28)).alloc (.cells #[.int .i32 bx, .int .i32 by_] 28)).cell? ⟨w.heap.size, 1, none⟩ = some (.int .i32 py) by go_simp)
    have x2 := cell_gr (show (((w.alloc (.cells #[.int .i32 px, .int .i32 py] 28)).alloc (.cells #[.int .i32 ax, .int .i32 ay] 28)).alloc (.cells #[.int .i32 bx, .int .i32 by_] 28)).cell? ⟨w.heap.size + 1, 0, none⟩ = some (.int .i32 ax) by go_simp)
    have x3 := cell_gr (show (((w.alloc (.cells #[.int .i32 px, .int .i32 py] 28)).alloc (.cells #[.int .i32 ax, .int .i32 ay] 28)).alloc (.cells #[.int .i32 bx, .int .i32 by_] 28)).cell? ⟨w.heap.size + 1, 1, none⟩ = some (.int .i32 ay) by go_simp)
    have x4 := cell_gr (show (((w.alloc (.cells #[.int .i32 px, .int .i32 py] 28)).alloc (.cells #[.int .i32 ax, .int .i32 ay] 28)).alloc (.cells #[.int .i32 bx, .int .i32 by_] 28)).cell? ⟨w.heap.size + 1 + 1, 0, none⟩ = some (.int .i32 bx) by go_simp)
    have x5 := cell_gr (show (((w.alloc (.cells #[.int .i32 px, .int .i32 py] 28)).alloc (.cells #[.int .i32 ax, .int .i32 ay] 28)).alloc (.cells #[.int .i32 bx, .int .i32 by_] 28)).cell? ⟨w.heap.size + 1 + 1, 1, none⟩ = some (.int .i32 by_) by go_simp)
    generalize (((w.alloc (.cells #[.int .i32 px, .int .i32 py] 28)).alloc (.cells #[.int .i32 ax, .int .i32 ay] 28)).alloc (.cells #[.int .i32 bx, .int .i32 by_] 28)) = W at *
    refine wp_region_quiet_grown (by kernel_rfl) (by kernel_rfl) ?_
    repeat (go_big_quiet_step (first | (go_at_call 152; exact Calls.grown_of (D.out _)) | (go_at_call 153; exact Calls.grown_of (F.out _))))
    refine wpQuiet_nil ?_
    intro _ hw'
    obtain ⟨⟨nq, osq⟩, hw''⟩ := hw'
    subst hw''
    have g := hG.trans ⟨nq, osq, rfl⟩
    have z0 := x0 nq osq
    have z1 := x1 nq osq
    have z2 := x2 nq osq
    have z3 := x3 nq osq
    have z4 := x4 nq osq
    have z5 := x5 nq osq
    clear x0 x1 x2 x3 x4 x5 hG D F
    generalize grow (W.drewN nq) osq = W1 at *
    by_cases h1 : T ≤ 0
    · rw [if_pos h1] at E
      go_wp2_with fail
      refine (G1.out _).mono ?_
      rintro e w1 ⟨rfl, q1⟩
      go_wp2
      go_ret
      exact ⟨by rw [E.out]; rfl, g.trans q1⟩
    · rw [if_neg h1] at E
      by_cases h2 : N ≤ T
      · rw [if_pos h2] at E
        go_wp2_with fail
        refine (G2.out _).mono ?_
        rintro e w1 ⟨rfl, q1⟩
        go_wp2
        go_ret
        exact ⟨by rw [E.out]; rfl, g.trans q1⟩
      · rw [if_neg h2] at E
        go_wp2_with fail
        refine (C.out _).mono ?_
        rintro e w1 ⟨rfl, q1⟩
        go_wp2_with fail
        refine (M.out _).mono ?_
        rintro e w2 ⟨rfl, q2⟩
        go_wp2
        go_ret
        exact ⟨by rw [E.out]; rfl, (g.trans q1).trans q2⟩
end
end Go.Proofs.YtgcofpfjdplopaaGreat
