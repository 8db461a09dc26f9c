/- The law's step, where the walk is left early; every kind. -/
import Derived.Test.YtpikhdfndnpidaaLs
set_option linter.unusedSimpArgs false
set_option linter.unusedVariables false
namespace Go.Proofs.Ytpikhdfndnpidaa
open Go.RowKit Go.Sort Go.Shelf

/-- A list's first numbers, left behind m. -/
def leftI (m : Int) (l : List Int) : List Int := if 1 ≤ m ∧ m ≤ l.length then l.take m.toNat else l
theorem idL_left (m : Int) (L : List Nd) : idL (leftL m L) = leftI m (idL L) := by
  unfold leftL leftI idL
  rw [List.length_map]
  split
  · rw [List.map_take]
  · rfl
theorem leftI_all {m : Int} {l : List Int} (h : ¬ (0 < m ∧ m < l.length)) : leftI m l = l := by
  unfold leftI
  split
  · rename_i c
    exact List.take_of_length_le (by omega)
  · rfl
theorem leftI_some {m : Nat} {l : List Int} (h : 0 < m) (k : m < l.length) : leftI m l = l.take m := by
  unfold leftI
  rw [if_pos ⟨by omega, by omega⟩]
  rfl
theorem Pair.readsM {base : Nat} {W : World} {T R : Nat} {t : At} (h : Pair base W T R t) (b : Q4) (fv : Value) (m : Int) (V : World) (g : BW W V) (hI : ItR V (.pointer (some ⟨T, 0, none⟩)) b fv) : Calls Try.prog 18 #[fv, .int .i64 m] V fun e w' => ∃ u, e = .returned u ∧ Hid (Reads w' u (leftI m (rngL b t.er.toL))) ∧ Below V.heap.size V w' := by
  have hl : (t.tellN (fun q => meetQ q b)).length ≤ 1000000 := by
    have h1 := congrArg List.length (idL_tell t b)
    have h2 := rngL_len b t.er.toL
    have h3 := h.one.few
    simp only [idL, List.length_map] at h1
    omega
  refine (told_any _ fv b _ m V hI (.yes (h.one.below g)) hl).mono ?_
  rintro e w' ⟨u, rfl, h1, h2⟩
  rw [idL_left, idL_tell] at h1
  exact ⟨u, rfl, h1.reads, h2⟩
theorem row_cut {w : World} {B : Nat} {u : Value} {l : List Int} {m : Nat} (h : Row w B u l) (h0 : 0 < m) (hm : m < l.length) : ∃ a cap, u = .slice (some ⟨a, 0, none⟩) l.length cap ∧ l.length ≤ cap ∧ cap ≤ maxLen ∧ Reads w (.slice (some ⟨a, 0, none⟩) m cap) (l.take m) := by
  rcases h.2 with ⟨e, h1⟩ | ⟨g, cap, cur, e, hb, hc, hn, hm1, hs, hr⟩
  · omega
  · refine ⟨g, cap, e, hn, hm1, some ⟨g, 0, none⟩, cap, by rw [List.length_take, Nat.min_eq_left (by omega)], fun k x hx => ⟨g, 0, rfl, ?_⟩⟩
    have hx' : l[k]? = some x := by
      rw [List.getElem?_take] at hx
      split at hx
      · exact hx
      · cases hx
    have := h.cells (g := g) (by rw [e]; rfl) k (.int .u32 x) (by rw [List.getElem?_map, hx']; rfl)
    have ea : (⟨g, 0, none⟩ : Addr).add k = ⟨g, 0 + k, none⟩ := by unfold Addr.add; split <;> simp_all
    rw [ea] at this
    exact this
set_option maxRecDepth 100000 in
set_option maxHeartbeats 8000000 in
theorem step_8a (base T R : Nat) (t : At) (id a b c d px py qx qy : Int) (mm : Nat) (w : World) (h : Pair base w T R t) (hc : 0 < mm ∧ mm < (rngL (a, b, c, d) t.er.toL).length) :
    Calls Try.prog 9 #[.pointer (some ⟨T, 0, none⟩), .pointer (some ⟨R, 0, none⟩), stV 8 id a b c d px py qx qy (mm : Int)] w fun e w' => ∃ t' : At, e = .returned (.bool true) ∧ Pair base w' T R t' ∧ Below base w w' := by
  have k5 := Bk.new w 38 (stL 8 id a b c d px py qx qy (mm : Int))
  have g0 := (Gr.refl w).alloc (.cells (stL 8 id a b c d px py qx qy (mm : Int)).toArray 38)
  have HP := hid0 (h.gr g0)
  have HB : Hid (Below base w (w.alloc (.cells (stL 8 id a b c d px py qx qy (mm : Int)).toArray 38))) := g0.below.mono h.sz
  clear h g0
  go_enter Try.func9, Try.ntmps9
  go_upto_region 19 with fail
  generalize w.alloc (.cells (stL 8 id a b c d px py qx qy (mm : Int)).toArray 38) = W at *
  obtain ⟨b5, e5⟩ : ∃ b5, b5 = w.heap.size := ⟨_, rfl⟩
  rw [← e5] at k5 ⊢
  clear e5
  have RW : Hid (Calls Try.prog 22 #[.pointer (some ⟨R, 0, none⟩), bx a b c d] W fun e w' => ∃ u, e = .returned u ∧ (∃ B, Row w' B u (rngL (a, b, c, d) t.er.toL)) ∧ Below W.heap.size W w') := rrange_row base R t.er.toL (a, b, c, d) W HP.out.ref HP.out.len
  have RA : Hid (∀ w, Calls Try.prog 19 #[.pointer (some ⟨T, 0, none⟩), bx a b c d] w fun e w' => ∃ fv, e = .returned fv ∧ ItR w' (.pointer (some ⟨T, 0, none⟩)) (a, b, c, d) fv ∧ Gr w w') := range_any _ (a, b, c, d)
  have TD : Hid (∀ fv V, BW W V → ItR V (.pointer (some ⟨T, 0, none⟩)) (a, b, c, d) fv → Calls Try.prog 18 #[fv, .int .i64 (mm : Int)] V fun e w' => ∃ u, e = .returned u ∧ Hid (Reads w' u (leftI (mm : Int) (rngL (a, b, c, d) t.er.toL))) ∧ Below V.heap.size V w') := fun fv V g hI => HP.out.readsM (a, b, c, d) fv (mm : Int) V g hI
  have FW : Hid ((rngL (a, b, c, d) t.er.toL).length ≤ 1000000) := by have := rngL_len (a, b, c, d) t.er.toL; have := HP.out.len; unfold Hid; omega
  have HC := hid0 hc
  clear hc
  generalize rngL (a, b, c, d) t.er.toL = LL at *
  have d2 := k5.at 2
  have d3 := k5.at 3
  have d4 := k5.at 4
  have d5 := k5.at 5
  simp only [List.getElem?_cons_zero, List.getElem?_cons_succ] at d2 d3 d4 d5
  go_wp2_with fail
  refine RW.out.mono ?_
  rintro e v0 ⟨u0, rfl, ⟨BB, ROW⟩, h0⟩
  have ROWH := hid0 ROW
  have d10 : v0.cell? ⟨b5, 10, none⟩ = some (.int .i64 (mm : Int)) := below_cell (k5.at 10) h0
  clear d2 d3 d4 d5 RW
  obtain ⟨sa, sc, e0, hsc, hsm, RD⟩ := row_cut ROWH.out HC.out.1 HC.out.2
  subst e0
  have RDH := hid0 RD
  obtain ⟨NL, hNL⟩ : ∃ NL, NL = LL.length := ⟨_, rfl⟩
  have HNL := hid0 hNL
  rw [← hNL] at hsc ⊢
  have t1 : (0 : Int) < (mm : Int) := by have := HC.out.1; omega
  have t2 : (mm : Int) < (NL : Int) := by have := HC.out.2; omega
  have t3 : ¬ (sc : Int) < (mm : Int) := by have := HC.out.2; omega
  have SM : Hid (∀ V r, BW v0 V → Reads V r (leftI (mm : Int) LL) → Calls Try.prog 17 #[r, .slice (some ⟨sa, 0, none⟩) mm sc] V fun e w' => e = .returned (.bool true) ∧ Gr V w') := fun V r g q => by
    rw [leftI_some HC.out.1 HC.out.2] at q
    exact same_eq r _ (LL.take mm) (by rw [List.length_take]; have := FW.out; omega) V q (RDH.out.below g)
  clear hNL RD
  have c2 : ∀ V, BW v0 V → V.cell? ⟨b5, 2, none⟩ = some (.int .i32 a) := cell_bw (below_cell (k5.at 2) h0)
  have c3 : ∀ V, BW v0 V → V.cell? ⟨b5, 3, none⟩ = some (.int .i32 b) := cell_bw (below_cell (k5.at 3) h0)
  have c4 : ∀ V, BW v0 V → V.cell? ⟨b5, 4, none⟩ = some (.int .i32 c) := cell_bw (below_cell (k5.at 4) h0)
  have c5 : ∀ V, BW v0 V → V.cell? ⟨b5, 5, none⟩ = some (.int .i32 d) := cell_bw (below_cell (k5.at 5) h0)
  have c10 : ∀ V, BW v0 V → V.cell? ⟨b5, 10, none⟩ = some (.int .i64 (mm : Int)) := cell_bw d10
  have HV : Hid (BW W v0) := h0
  clear h0 ROW k5
  clear ROWH hsc hsm
  go_wp2_with fail
  go_region_held3 (BW v0)
    (first
      | exact BW.drew _
      | assumption
      | exact BW.gr (by assumption) (by assumption)
      | exact BW.tr (by assumption) (by assumption))
    (first
      | (go_at_call 19; refine (RA.out _).mono ?_; rintro e v1 ⟨f1, rfl, i1, g1⟩; have b1 : BW v0 v1 := BW.gr (by assumption) g1)
      | (go_at_call 18; refine (TD.out f1 _ (HV.out.tr b1) i1).mono ?_; rintro e v2 ⟨r1, rfl, q1, g2⟩; have b2 : BW v0 v2 := BW.tr b1 g2)
      | (go_at_call 17; refine (SM.out _ r1 b2 q1.out).mono ?_; rintro e v3 ⟨rfl, g3⟩))
  rename_i hH
  go_wp2
  go_ret
  exact ⟨t, rfl, (HP.out.below HV.out).below hH, HB.out.trans ((HV.out.mono HP.out.sz).trans (hH.mono (HP.out.below HV.out).sz))⟩
set_option maxRecDepth 100000 in
set_option maxHeartbeats 8000000 in
theorem step_8b (base T R : Nat) (t : At) (id a b c d px py qx qy nn : Int) (w : World) (h : Pair base w T R t) (hc : ¬ (0 < nn ∧ nn < (rngL (a, b, c, d) t.er.toL).length)) :
    Calls Try.prog 9 #[.pointer (some ⟨T, 0, none⟩), .pointer (some ⟨R, 0, none⟩), stV 8 id a b c d px py qx qy nn] w fun e w' => ∃ t' : At, e = .returned (.bool true) ∧ Pair base w' T R t' ∧ Below base w w' := by
  have k5 := Bk.new w 38 (stL 8 id a b c d px py qx qy nn)
  have g0 := (Gr.refl w).alloc (.cells (stL 8 id a b c d px py qx qy nn).toArray 38)
  have HP := hid0 (h.gr g0)
  have HB : Hid (Below base w (w.alloc (.cells (stL 8 id a b c d px py qx qy nn).toArray 38))) := g0.below.mono h.sz
  clear h g0
  go_enter Try.func9, Try.ntmps9
  go_upto_region 19 with fail
  generalize w.alloc (.cells (stL 8 id a b c d px py qx qy nn).toArray 38) = W at *
  obtain ⟨b5, e5⟩ : ∃ b5, b5 = w.heap.size := ⟨_, rfl⟩
  rw [← e5] at k5 ⊢
  clear e5
  have RW : Hid (Calls Try.prog 22 #[.pointer (some ⟨R, 0, none⟩), bx a b c d] W fun e w' => ∃ u, e = .returned u ∧ (∃ B, Row w' B u (rngL (a, b, c, d) t.er.toL)) ∧ Below W.heap.size W w') := rrange_row base R t.er.toL (a, b, c, d) W HP.out.ref HP.out.len
  have RA : Hid (∀ w, Calls Try.prog 19 #[.pointer (some ⟨T, 0, none⟩), bx a b c d] w fun e w' => ∃ fv, e = .returned fv ∧ ItR w' (.pointer (some ⟨T, 0, none⟩)) (a, b, c, d) fv ∧ Gr w w') := range_any _ (a, b, c, d)
  have TD : Hid (∀ fv V, BW W V → ItR V (.pointer (some ⟨T, 0, none⟩)) (a, b, c, d) fv → Calls Try.prog 18 #[fv, .int .i64 nn] V fun e w' => ∃ u, e = .returned u ∧ Hid (Reads w' u (leftI nn (rngL (a, b, c, d) t.er.toL))) ∧ Below V.heap.size V w') := fun fv V g hI => HP.out.readsM (a, b, c, d) fv nn V g hI
  have FW : Hid ((rngL (a, b, c, d) t.er.toL).length ≤ 1000000) := by have := rngL_len (a, b, c, d) t.er.toL; have := HP.out.len; unfold Hid; omega
  have HC := hid0 hc
  clear hc
  generalize rngL (a, b, c, d) t.er.toL = LL at *
  have d2 := k5.at 2
  have d3 := k5.at 3
  have d4 := k5.at 4
  have d5 := k5.at 5
  simp only [List.getElem?_cons_zero, List.getElem?_cons_succ] at d2 d3 d4 d5
  go_wp2_with fail
  refine RW.out.mono ?_
  rintro e v0 ⟨u0, rfl, ⟨BB, ROW⟩, h0⟩
  have ROWH := hid0 ROW
  have d10 : v0.cell? ⟨b5, 10, none⟩ = some (.int .i64 nn) := below_cell (k5.at 10) h0
  clear d2 d3 d4 d5 RW
  obtain ⟨sa, sc, e0⟩ := ROWH.out.slice
  have SM : Hid (∀ V r, BW v0 V → Reads V r (leftI nn LL) → Calls Try.prog 17 #[r, u0] V fun e w' => e = .returned (.bool true) ∧ Gr V w') := fun V r g q => by
    rw [leftI_all HC.out] at q
    exact same_eq r _ LL FW.out V q (ROWH.out.reads.below g)
  subst e0
  obtain ⟨NL, hNL⟩ : ∃ NL, NL = LL.length := ⟨_, rfl⟩
  rw [← hNL] at SM HC ⊢
  clear hNL
  have c2 : ∀ V, BW v0 V → V.cell? ⟨b5, 2, none⟩ = some (.int .i32 a) := cell_bw (below_cell (k5.at 2) h0)
  have c3 : ∀ V, BW v0 V → V.cell? ⟨b5, 3, none⟩ = some (.int .i32 b) := cell_bw (below_cell (k5.at 3) h0)
  have c4 : ∀ V, BW v0 V → V.cell? ⟨b5, 4, none⟩ = some (.int .i32 c) := cell_bw (below_cell (k5.at 4) h0)
  have c5 : ∀ V, BW v0 V → V.cell? ⟨b5, 5, none⟩ = some (.int .i32 d) := cell_bw (below_cell (k5.at 5) h0)
  have c10 : ∀ V, BW v0 V → V.cell? ⟨b5, 10, none⟩ = some (.int .i64 nn) := cell_bw d10
  have HV : Hid (BW W v0) := h0
  clear h0 ROW k5
  clear ROWH
  by_cases t1 : 0 < nn
  · have t2 : ¬ nn < (NL : Int) := fun h => HC.out ⟨t1, h⟩
    go_wp2_with fail
    go_region_held3 (BW v0)
      (first
        | exact BW.drew _
        | assumption
        | exact BW.gr (by assumption) (by assumption)
        | exact BW.tr (by assumption) (by assumption))
      (first
        | (go_at_call 19; refine (RA.out _).mono ?_; rintro e v1 ⟨f1, rfl, i1, g1⟩; have b1 : BW v0 v1 := BW.gr (by assumption) g1)
        | (go_at_call 18; refine (TD.out f1 _ (HV.out.tr b1) i1).mono ?_; rintro e v2 ⟨r1, rfl, q1, g2⟩; have b2 : BW v0 v2 := BW.tr b1 g2)
        | (go_at_call 17; refine (SM.out _ r1 b2 q1.out).mono ?_; rintro e v3 ⟨rfl, g3⟩))
    rename_i hH
    go_wp2
    go_ret
    exact ⟨t, rfl, (HP.out.below HV.out).below hH, HB.out.trans ((HV.out.mono HP.out.sz).trans (hH.mono (HP.out.below HV.out).sz))⟩
  · go_wp2_with fail
    go_region_held3 (BW v0)
      (first
        | exact BW.drew _
        | assumption
        | exact BW.gr (by assumption) (by assumption)
        | exact BW.tr (by assumption) (by assumption))
      (first
        | (go_at_call 19; refine (RA.out _).mono ?_; rintro e v1 ⟨f1, rfl, i1, g1⟩; have b1 : BW v0 v1 := BW.gr (by assumption) g1)
        | (go_at_call 18; refine (TD.out f1 _ (HV.out.tr b1) i1).mono ?_; rintro e v2 ⟨r1, rfl, q1, g2⟩; have b2 : BW v0 v2 := BW.tr b1 g2)
        | (go_at_call 17; refine (SM.out _ r1 b2 q1.out).mono ?_; rintro e v3 ⟨rfl, g3⟩))
    rename_i hH
    go_wp2
    go_ret
    exact ⟨t, rfl, (HP.out.below HV.out).below hH, HB.out.trans ((HV.out.mono HP.out.sz).trans (hH.mono (HP.out.below HV.out).sz))⟩
set_option maxRecDepth 100000 in
set_option maxHeartbeats 8000000 in
theorem step_x (base T R : Nat) (t : At) (kd id a b c d px py qx qy nn : Int) (w : World) (h : Pair base w T R t) (n1 : kd ≠ 1) (n2 : kd ≠ 2) (n3 : kd ≠ 3) (n4 : kd ≠ 4) (n5 : kd ≠ 5) (n6 : kd ≠ 6) (n7 : kd ≠ 7) (n8 : kd ≠ 8) :
    Calls Try.prog 9 #[.pointer (some ⟨T, 0, none⟩), .pointer (some ⟨R, 0, none⟩), stV kd id a b c d px py qx qy nn] w fun e w' => ∃ t' : At, e = .returned (.bool true) ∧ Pair base w' T R t' ∧ Below base w w' := by
  have g0 := (Gr.refl w).alloc (.cells (stL kd id a b c d px py qx qy nn).toArray 38)
  have HP := hid0 (h.gr g0)
  have HB : Hid (Below base w (w.alloc (.cells (stL kd id a b c d px py qx qy nn).toArray 38))) := g0.below.mono h.sz
  clear h g0
  have e1 : (kd == 1) = false := by simp [n1]
  have e2 : (kd == 2) = false := by simp [n2]
  have e3 : (kd == 3) = false := by simp [n3]
  have e4 : (kd == 4) = false := by simp [n4]
  have e5 : (kd == 5) = false := by simp [n5]
  have e6 : (kd == 6) = false := by simp [n6]
  have e7 : (kd == 7) = false := by simp [n7]
  have e8 : (kd == 8) = false := by simp [n8]
  clear n1 n2 n3 n4 n5 n6 n7 n8
  go_enter Try.func9, Try.ntmps9
  go_wp2
  go_ret
  exact ⟨t, rfl, HP.out, HB.out⟩
theorem lstep_any (base T R : Nat) (t : At) (kd id a b c d px py qx qy nn : Int) (w : World) (h : Pair base w T R t) :
    Calls Try.prog 9 #[.pointer (some ⟨T, 0, none⟩), .pointer (some ⟨R, 0, none⟩), stV kd id a b c d px py qx qy nn] w fun e w' => ∃ t' : At, e = .returned (.bool true) ∧ Pair base w' T R t' ∧ Below base w w' := by
  by_cases c1 : kd = 1
  · subst c1; exact step_1 base T R t id a b c d px py qx qy nn w h
  by_cases c2 : kd = 2
  · subst c2; exact step_2 base T R t id a b c d px py qx qy nn w h
  by_cases c3 : kd = 3
  · subst c3; exact step_3 base T R t id a b c d px py qx qy nn w h
  by_cases c4 : kd = 4
  · subst c4; exact step_4 base T R t id a b c d px py qx qy nn w h
  by_cases c5 : kd = 5
  · subst c5; exact step_5 base T R t id a b c d px py qx qy nn w h
  by_cases c6 : kd = 6
  · subst c6; exact step_6 base T R t id a b c d px py qx qy nn w h
  by_cases c7 : kd = 7
  · subst c7; exact step_7 base T R t id a b c d px py qx qy nn w h
  by_cases c8 : kd = 8
  · subst c8
    by_cases hc : 0 < nn ∧ nn < (rngL (a, b, c, d) t.er.toL).length
    · obtain ⟨m, rfl⟩ : ∃ m : Nat, nn = (m : Int) := ⟨nn.toNat, by omega⟩
      exact step_8a base T R t id a b c d px py qx qy m w h ⟨by omega, by omega⟩
    · exact step_8b base T R t id a b c d px py qx qy nn w h hc
  exact step_x base T R t kd id a b c d px py qx qy nn w h c1 c2 c3 c4 c5 c6 c7 c8
end Go.Proofs.Ytpikhdfndnpidaa
