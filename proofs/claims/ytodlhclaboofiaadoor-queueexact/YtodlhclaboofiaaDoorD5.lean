/- does: Set, and what does nothing. -/
import Derived.Test.YtodlhclaboofiaaDoorD4
set_option linter.unusedSimpArgs false
set_option linter.unusedVariables false
namespace Go.Proofs.YtodlhclaboofiaaDoor
open Go.RowKit Go.Sort

set_option maxHeartbeats 2000000 in
set_option maxRecDepth 100000 in
theorem does_none (w0 w : World) (T1 B1 T2 B2 R : Nat) (s1 s2 s3 : RS) (v : Value) (L : List Int) (on V I : Int) (h : St5 w0 w T1 B1 T2 B2 R s1 s2 s3 v L) (kd : Int) (n1 : (kd == 1) = false) (n2 : (kd == 2) = false) (n3 : (kd == 3) = false) (n4 : (kd == 4) = false) (n5 : (kd == 5) = false) (n6 : (kd == 6) = false) (n7 : (kd == 7) = false) (n8 : (kd == 8) = false) (n9 : (kd == 9) = false) :
    Calls Tryd.prog 10 #[.pointer (some ⟨T1, 0, none⟩), .pointer (some ⟨T2, 0, none⟩), .pointer (some ⟨R, 0, none⟩), stV kd on V I] w fun e w' => e = .returned (.bool true) ∧ DoesOk w0 w T1 B1 T2 B2 R s1 w' := by
  have k7 := (Bk.new w 43 (stL kd on V I)).alloc (.cells #[.int .i64 0, .float .f64 0] 38)
  have k10 := Bk.new (w.alloc (.cells (stL kd on V I).toArray 43)) 38 [.int .i64 0, .float .f64 0]
  have g0 := ((Gr.refl w).alloc (.cells (stL kd on V I).toArray 43)).alloc (.cells #[.int .i64 0, .float .f64 0] 38)
  rw [World.size_alloc] at k10
  have FR : Hid (Fr w0 w ((w.alloc (.cells (stL kd on V I).toArray 43)).alloc (.cells #[.int .i64 0, .float .f64 0] 38)) T1 B1 T2 B2 R w.heap.size (w.heap.size + 1) (stL kd on V I) (.int .i64 0) (.float .f64 0)) := ⟨k7, k10, .of_gr g0, h.bel.trans (g0.below.mono h.bel.size), ⟨Nat.le_refl _, by omega⟩, ⟨h.tri.p.lt.1, h.tri.p.lt.2, h.tri.q.lt.1, h.tri.q.lt.2, h.tri.r.blk.lt⟩, h.lo⟩
  have TR := hid0 (h.tri.gr g0)
  have VL := hid0 h.vals
  have TB := hid0 h.tab0
  clear k7 k10 g0 h
  have sf := run_store_f
  go_enter Tryd.func10, Tryd.ntmps10
  go_upto_region 5 with fail
  obtain ⟨b10, e10⟩ : ∃ b10, b10 = w.heap.size + 1 := ⟨_, rfl⟩
  obtain ⟨b7, e7⟩ : ∃ b7, b7 = w.heap.size := ⟨_, rfl⟩
  rw [← e10] at FR ⊢
  rw [← e7] at FR ⊢
  clear e10 e7
  generalize (w.alloc (.cells (stL kd on V I).toArray 43)).alloc (.cells #[.int .i64 0, .float .f64 0] 38) = W at *
  have x0 := FR.out.k7.at 0
  simp only [List.getElem?_cons_zero] at x0
  go_upto_region 6 with fail
  clear x0
  have P := hid0 TR.out.p
  have Q := hid0 TR.out.q
  have RR := hid0 TR.out.r
  go_wp2
  go_ret
  have T := TR.out
  exact ⟨rfl, s1, s2, s3, v, L, ⟨⟨P.out, Q.out, RR.out, T.ok1, T.ok2, T.e2, T.e3⟩, VL.out, TB.out, FR.out.bel, FR.out.lo⟩, by omega, FR.out.ch⟩
set_option maxHeartbeats 2000000 in
set_option maxRecDepth 100000 in
theorem does_set_no (w0 w : World) (T1 B1 T2 B2 R : Nat) (s1 s2 s3 : RS) (v : Value) (L : List Int) (on V I : Int) (h : St5 w0 w T1 B1 T2 B2 R s1 s2 s3 v L) (hV : in64 V) (hI : I < 0 ∨ (L.length : Int) ≤ I) :
    Calls Tryd.prog 10 #[.pointer (some ⟨T1, 0, none⟩), .pointer (some ⟨T2, 0, none⟩), .pointer (some ⟨R, 0, none⟩), stV 4 on V I] w fun e w' => e = .returned (.bool true) ∧ DoesOk w0 w T1 B1 T2 B2 R s1 w' := by
  have k7 := (Bk.new w 43 (stL 4 on V I)).alloc (.cells #[.int .i64 0, .float .f64 0] 38)
  have k10 := Bk.new (w.alloc (.cells (stL 4 on V I).toArray 43)) 38 [.int .i64 0, .float .f64 0]
  have g0 := ((Gr.refl w).alloc (.cells (stL 4 on V I).toArray 43)).alloc (.cells #[.int .i64 0, .float .f64 0] 38)
  rw [World.size_alloc] at k10
  have FR : Hid (Fr w0 w ((w.alloc (.cells (stL 4 on V I).toArray 43)).alloc (.cells #[.int .i64 0, .float .f64 0] 38)) T1 B1 T2 B2 R w.heap.size (w.heap.size + 1) (stL 4 on V I) (.int .i64 0) (.float .f64 0)) := ⟨k7, k10, .of_gr g0, h.bel.trans (g0.below.mono h.bel.size), ⟨Nat.le_refl _, by omega⟩, ⟨h.tri.p.lt.1, h.tri.p.lt.2, h.tri.q.lt.1, h.tri.q.lt.2, h.tri.r.blk.lt⟩, h.lo⟩
  have TR := hid0 (h.tri.gr g0)
  have VL := hid0 h.vals
  have TB := hid0 h.tab0
  clear k7 k10 g0 h
  have sf := run_store_f
  go_enter Tryd.func10, Tryd.ntmps10
  go_upto_region 5 with fail
  obtain ⟨b10, e10⟩ : ∃ b10, b10 = w.heap.size + 1 := ⟨_, rfl⟩
  obtain ⟨b7, e7⟩ : ∃ b7, b7 = w.heap.size := ⟨_, rfl⟩
  rw [← e10] at FR ⊢
  rw [← e7] at FR ⊢
  clear e10 e7
  generalize (w.alloc (.cells (stL 4 on V I).toArray 43)).alloc (.cells #[.int .i64 0, .float .f64 0] 38) = W at *
  have x0 := FR.out.k7.at 0
  simp only [List.getElem?_cons_zero] at x0
  go_upto_region 19 with fail
  clear x0
  have P := hid0 TR.out.p
  have Q := hid0 TR.out.q
  have RR := hid0 TR.out.r
  have x2 := FR.out.k7.at 2
  have x3 := FR.out.k7.at 3
  simp only [List.getElem?_cons_succ, List.getElem?_cons_zero] at x2 x3
  have C := hid0 (rset_no R s3 v L I V W RR.out hI)
  go_wp2_with fail
  refine C.out.mono ?_
  rintro e W1 ⟨rfl, hw⟩
  clear C
  clear x2 x3
  cases hw
  have KB := FR.out.k7
  have c2 : ∀ X, Bk X b7 43 (stL 4 on V I) → X.cell? ⟨b7, 2, none⟩ = some (.int .i64 V) := fun X k => k.at 2
  have c3 : ∀ X, Bk X b7 43 (stL 4 on V I) → X.cell? ⟨b7, 3, none⟩ = some (.int .i64 I) := fun X k => k.at 3
  have PX := hid0 P.out
  have gd := (Gr.refl W).drew
  go_wp2_with fail
  go_region_held3 (fun X => Bk X b7 43 (stL 4 on V I))
    (first
      | exact Bk.gr (by assumption) ((Gr.refl _).drew)
      | exact Bk.gr (by assumption) (by assumption))
    (first
      | (go_at_call 23; refine (text_any V _ hV ((FR.out.gr gd).tab TB.out)).mono ?_; rintro e X1 ⟨rfl, x1⟩)
      | (go_at_call 32; refine (s_set_no T1 B1 s1 I V _ ((P.out.gr gd).gr x1) TR.out.ok1.n1 (by rw [← TR.out.ok1.cL]; exact hI)).mono ?_; rintro e X2 ⟨rfl, x2⟩)
      | (go_at_call 33; refine (p_set_no T2 B2 s2 I V _ (((Q.out.gr gd).gr x1).gr x2) TR.out.ok2.n1 (by rw [← TR.out.ok2.cL]; exact hI)).mono ?_; rintro e X3 ⟨rfl, x3⟩))
  have gg := ((gd.trans x1).trans x2).trans x3
  clear x1 x2 x3 gd
  replace P := hid0 (P.out.gr gg)
  replace Q := hid0 (Q.out.gr gg)
  replace RR := hid0 (RR.out.gr gg)
  replace FR := hid0 (FR.out.gr gg)
  clear gg
  clear KB c2 c3
  go_wp2
  go_ret
  have T := TR.out
  exact ⟨rfl, s1, s2, s3, v, L, ⟨⟨P.out, Q.out, RR.out, T.ok1, T.ok2, T.e2, T.e3⟩, VL.out, TB.out, FR.out.bel, FR.out.lo⟩, by omega, FR.out.ch⟩
set_option maxHeartbeats 2000000 in
set_option maxRecDepth 100000 in
theorem does_set_yes (i : Nat) (w0 w : World) (T1 B1 T2 B2 R : Nat) (s1 s2 s3 : RS) (v : Value) (L : List Int) (on V : Int) (h : St5 w0 w T1 B1 T2 B2 R s1 s2 s3 v L) (hV : in64 V) (hi : i < L.length) :
    Calls Tryd.prog 10 #[.pointer (some ⟨T1, 0, none⟩), .pointer (some ⟨T2, 0, none⟩), .pointer (some ⟨R, 0, none⟩), stV 4 on V (i : Int)] w fun e w' => e = .returned (.bool true) ∧ DoesOk w0 w T1 B1 T2 B2 R s1 w' := by
  have k7 := (Bk.new w 43 (stL 4 on V (i : Int))).alloc (.cells #[.int .i64 0, .float .f64 0] 38)
  have k10 := Bk.new (w.alloc (.cells (stL 4 on V (i : Int)).toArray 43)) 38 [.int .i64 0, .float .f64 0]
  have g0 := ((Gr.refl w).alloc (.cells (stL 4 on V (i : Int)).toArray 43)).alloc (.cells #[.int .i64 0, .float .f64 0] 38)
  rw [World.size_alloc] at k10
  have FR : Hid (Fr w0 w ((w.alloc (.cells (stL 4 on V (i : Int)).toArray 43)).alloc (.cells #[.int .i64 0, .float .f64 0] 38)) T1 B1 T2 B2 R w.heap.size (w.heap.size + 1) (stL 4 on V (i : Int)) (.int .i64 0) (.float .f64 0)) := ⟨k7, k10, .of_gr g0, h.bel.trans (g0.below.mono h.bel.size), ⟨Nat.le_refl _, by omega⟩, ⟨h.tri.p.lt.1, h.tri.p.lt.2, h.tri.q.lt.1, h.tri.q.lt.2, h.tri.r.blk.lt⟩, h.lo⟩
  have TR := hid0 (h.tri.gr g0)
  have VL := hid0 h.vals
  have TB := hid0 h.tab0
  clear k7 k10 g0 h
  have sf := run_store_f
  go_enter Tryd.func10, Tryd.ntmps10
  go_upto_region 5 with fail
  obtain ⟨b10, e10⟩ : ∃ b10, b10 = w.heap.size + 1 := ⟨_, rfl⟩
  obtain ⟨b7, e7⟩ : ∃ b7, b7 = w.heap.size := ⟨_, rfl⟩
  rw [← e10] at FR ⊢
  rw [← e7] at FR ⊢
  clear e10 e7
  generalize (w.alloc (.cells (stL 4 on V (i : Int)).toArray 43)).alloc (.cells #[.int .i64 0, .float .f64 0] 38) = W at *
  have x0 := FR.out.k7.at 0
  simp only [List.getElem?_cons_zero] at x0
  go_upto_region 19 with fail
  clear x0
  have hic : i < s1.c := by rw [← TR.out.ok1.cL]; exact hi
  have hic2 : i < s2.c := by rw [← TR.out.ok2.cL]; exact hi
  have P := hid0 TR.out.p
  have Q := hid0 TR.out.q
  have RR := hid0 TR.out.r
  have x2 := FR.out.k7.at 2
  have x3 := FR.out.k7.at 3
  simp only [List.getElem?_cons_succ, List.getElem?_cons_zero] at x2 x3
  have C := hid0 (rset_yes R s3 v L i V W RR.out (by rw [TR.out.ok1.cL]; have := TR.out.ok1.cn; have := TR.out.ok1.n2; omega) hi)
  go_wp2_with fail
  refine C.out.mono ?_
  rintro e W1 ⟨rfl, v2, r1, g1⟩
  clear C
  clear x2 x3
  replace P := hid0 (s_R P.out RR.out g1)
  replace Q := hid0 (p_R Q.out RR.out g1)
  replace RR := hid0 r1
  replace FR := hid0 (FR.out.chg g1.wR)
  clear g1 r1
  have KB := FR.out.k7
  have c2 : ∀ X, Bk X b7 43 (stL 4 on V (i : Int)) → X.cell? ⟨b7, 2, none⟩ = some (.int .i64 V) := fun X k => k.at 2
  have c3 : ∀ X, Bk X b7 43 (stL 4 on V (i : Int)) → X.cell? ⟨b7, 3, none⟩ = some (.int .i64 (i : Int)) := fun X k => k.at 3
  have hb1 : ¬ tw T1 B1 b7 := by have h1 := FR.out.hi; have h2 := FR.out.lt; rintro (e | e) <;> omega
  have hb2 : ¬ tw T2 B2 b7 := by have h1 := FR.out.hi; have h2 := FR.out.lt; rintro (e | e) <;> omega
  have gd := (Gr.refl W1).drew
  go_wp2_with fail
  go_region_held3 (fun X => Bk X b7 43 (stL 4 on V (i : Int)))
    (first
      | exact Bk.gr (by assumption) ((Gr.refl _).drew)
      | exact Bk.gr (by assumption) (by assumption)
      | exact Bk.chg (by assumption) (by assumption) hb1
      | exact Bk.chg (by assumption) (by assumption) hb2)
    (first
      | (go_at_call 23; refine (text_any V _ hV ((FR.out.gr gd).tab TB.out)).mono ?_; rintro e X1 ⟨rfl, x1⟩)
      | (go_at_call 32; refine (s_set_yes T1 B1 s1 L i V _ ((P.out.gr gd).gr x1) TR.out.ok1 hic).mono ?_; rintro e X2 ⟨rfl, p2, x2⟩)
      | (go_at_call 33; refine (p_set_yes T2 B2 s2 L i V _ (p_S ((Q.out.gr gd).gr x1) ((P.out.gr gd).gr x1) x2) TR.out.ok2 hic2).mono ?_; rintro e X3 ⟨rfl, q2, x3⟩))
  clear KB c2 c3 hb1 hb2
  have gg := gd.trans x1
  clear x1 gd
  replace P := hid0 (P.out.gr gg)
  replace Q := hid0 (Q.out.gr gg)
  replace RR := hid0 (RR.out.gr gg)
  replace FR := hid0 (FR.out.gr gg)
  clear gg
  replace Q := hid0 (p_S Q.out P.out x2)
  replace RR := hid0 (r_S RR.out P.out x2)
  replace P := hid0 p2
  replace FR := hid0 (FR.out.chg x2.wS)
  clear x2 p2
  replace P := hid0 (s_P P.out Q.out x3)
  replace RR := hid0 (r_P RR.out Q.out x3)
  replace Q := hid0 q2
  replace FR := hid0 (FR.out.chg x3.wP)
  clear x3 q2
  go_wp2
  go_ret
  have T := TR.out
  exact ⟨rfl, _, _, s3, v2, L.set i V, ⟨⟨P.out, Q.out, RR.out, T.ok1.put i V hic, T.ok2.put i V hic2, ⟨T.e2.n, T.e2.low, T.e2.high, T.e2.pr, T.e2.pk, T.e2.rf⟩, ⟨T.e3.n, T.e3.low, T.e3.high, T.e3.pr, T.e3.pk, T.e3.rf⟩⟩, fun j y hy => by
    by_cases e : i = j
    · subst e
      rw [List.getElem?_set_self hi] at hy
      cases hy
      exact hV
    · rw [List.getElem?_set_ne e] at hy
      exact VL.out j y hy, TB.out, FR.out.bel, FR.out.lo⟩, Nat.le_add_right _ _, FR.out.ch⟩
end Go.Proofs.YtodlhclaboofiaaDoor
