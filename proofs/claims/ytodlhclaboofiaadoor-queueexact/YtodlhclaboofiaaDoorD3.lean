/- does: At, Cut. -/
import Derived.Test.YtodlhclaboofiaaDoorD2
set_option linter.unusedSimpArgs false
set_option linter.unusedVariables false
namespace Go.Proofs.YtodlhclaboofiaaDoor
open Go.RowKit Go.Sort

set_option maxHeartbeats 2000000 in
set_option maxRecDepth 100000 in
theorem does_at_no (w0 w : World) (T1 B1 T2 B2 R : Nat) (s1 s2 s3 : RS) (v : Value) (L : List Int) (on V I : Int) (h : St5 w0 w T1 B1 T2 B2 R s1 s2 s3 v L) (hI : I < 0 ∨ (L.length : Int) ≤ I) :
    Calls Tryd.prog 10 #[.pointer (some ⟨T1, 0, none⟩), .pointer (some ⟨T2, 0, none⟩), .pointer (some ⟨R, 0, none⟩), stV 3 on V I] w fun e w' => e = .returned (.bool true) ∧ DoesOk w0 w T1 B1 T2 B2 R s1 w' := by
  have k7 := (Bk.new w 43 (stL 3 on V I)).alloc (.cells #[.int .i64 0, .float .f64 0] 38)
  have k10 := Bk.new (w.alloc (.cells (stL 3 on V I).toArray 43)) 38 [.int .i64 0, .float .f64 0]
  have g0 := ((Gr.refl w).alloc (.cells (stL 3 on V I).toArray 43)).alloc (.cells #[.int .i64 0, .float .f64 0] 38)
  rw [World.size_alloc] at k10
  have FR : Hid (Fr w0 w ((w.alloc (.cells (stL 3 on V I).toArray 43)).alloc (.cells #[.int .i64 0, .float .f64 0] 38)) T1 B1 T2 B2 R w.heap.size (w.heap.size + 1) (stL 3 on V I) (.int .i64 0) (.float .f64 0)) := ⟨k7, k10, .of_gr g0, h.bel.trans (g0.below.mono h.bel.size), ⟨Nat.le_refl _, by omega⟩, ⟨h.tri.p.lt.1, h.tri.p.lt.2, h.tri.q.lt.1, h.tri.q.lt.2, h.tri.r.blk.lt⟩, h.lo⟩
  have TR := hid0 (h.tri.gr g0)
  have VL := hid0 h.vals
  have TB := hid0 h.tab0
  clear k7 k10 g0 h
  have sf := run_store_f
  go_enter Tryd.func10, Tryd.ntmps10
  go_upto_region 5 with fail
  obtain ⟨b10, e10⟩ : ∃ b10, b10 = w.heap.size + 1 := ⟨_, rfl⟩
  obtain ⟨b7, e7⟩ : ∃ b7, b7 = w.heap.size := ⟨_, rfl⟩
  rw [← e10] at FR ⊢
  rw [← e7] at FR ⊢
  clear e10 e7
  generalize (w.alloc (.cells (stL 3 on V I).toArray 43)).alloc (.cells #[.int .i64 0, .float .f64 0] 38) = W at *
  have x0 := FR.out.k7.at 0
  simp only [List.getElem?_cons_zero] at x0
  go_upto_region 15 with fail
  clear x0
  have P := hid0 TR.out.p
  have Q := hid0 TR.out.q
  have RR := hid0 TR.out.r
  have x3 := FR.out.k7.at 3
  simp only [List.getElem?_cons_succ, List.getElem?_cons_zero] at x3
  have C := hid0 (s_at_no T1 B1 s1 I W P.out TR.out.ok1.n1 (by rw [← TR.out.ok1.cL]; exact hI))
  go_wp2_with fail
  refine C.out.mono ?_
  rintro e W1 ⟨rfl, hw⟩
  clear C
  clear x3
  cases hw
  have x3 := FR.out.k7.at 3
  simp only [List.getElem?_cons_succ, List.getElem?_cons_zero] at x3
  have C := hid0 (p_at_no T2 B2 s2 I W Q.out TR.out.ok2.n1 (by rw [← TR.out.ok2.cL]; exact hI))
  go_wp2_with fail
  refine C.out.mono ?_
  rintro e W2 ⟨rfl, g2⟩
  clear C
  clear x3
  replace P := hid0 (P.out.gr g2)
  replace Q := hid0 (Q.out.gr g2)
  replace RR := hid0 (RR.out.gr g2)
  replace FR := hid0 (FR.out.gr g2)
  clear g2
  obtain ⟨y0, y1, y2, y3⟩ := pz_two FR.out.k10
  have SP := hid0 ((Tri.pair (s1 := s1) (s2 := s2) (s3 := s3) (v := v) (L := L) FR.out (.int .i64 0) (.float .f64 0)).1 P.out)
  have SQ := hid0 ((Tri.pair (s1 := s1) (s2 := s2) (s3 := s3) (v := v) (L := L) FR.out (.int .i64 0) (.float .f64 0)).2.1 Q.out)
  have SR := hid0 ((Tri.pair (s1 := s1) (s2 := s2) (s3 := s3) (v := v) (L := L) FR.out (.int .i64 0) (.float .f64 0)).2.2 RR.out)
  have SF := hid0 (FR.out.pair (.int .i64 0) (.float .f64 0))
  clear P Q RR FR
  go_upto_region 17 with fail
  clear y0 y1 y2 y3
  generalize World.setCell (World.setCell W2 _ _) _ _ = V5 at *
  have P := SP
  have Q := SQ
  have RR := SR
  have FR := SF
  clear SP SQ SR SF
  have x3 := FR.out.k7.at 3
  simp only [List.getElem?_cons_succ, List.getElem?_cons_zero] at x3
  have C := hid0 (rat_no R s3 v L I V5 RR.out hI)
  go_wp2_with fail
  refine C.out.mono ?_
  rintro e W3 ⟨rfl, hw⟩
  clear C
  clear x3
  cases hw
  have C := hid0 (text_any 0 V5 ⟨by decide, by decide⟩ (FR.out.tab TB.out))
  have ep := run_eqp 0
  go_wp2_with fail
  refine C.out.mono ?_
  rintro e V7 ⟨rfl, g7⟩
  clear C
  replace P := hid0 (P.out.gr g7)
  replace Q := hid0 (Q.out.gr g7)
  replace RR := hid0 (RR.out.gr g7)
  replace FR := hid0 (FR.out.gr g7)
  clear g7
  obtain ⟨y0, y1, _, _⟩ := pz_two FR.out.k10
  go_wp2
  go_ret
  have T := TR.out
  exact ⟨rfl, s1, s2, s3, v, L, ⟨⟨P.out, Q.out, RR.out, T.ok1, T.ok2, T.e2, T.e3⟩, VL.out, TB.out, FR.out.bel, FR.out.lo⟩, by omega, FR.out.ch⟩
set_option maxHeartbeats 2000000 in
set_option maxRecDepth 100000 in
theorem does_cut_no (w0 w : World) (T1 B1 T2 B2 R : Nat) (s1 s2 s3 : RS) (v : Value) (L : List Int) (on V I : Int) (h : St5 w0 w T1 B1 T2 B2 R s1 s2 s3 v L) (hI : I < 0 ∨ (L.length : Int) ≤ I) :
    Calls Tryd.prog 10 #[.pointer (some ⟨T1, 0, none⟩), .pointer (some ⟨T2, 0, none⟩), .pointer (some ⟨R, 0, none⟩), stV 5 on V I] w fun e w' => e = .returned (.bool true) ∧ DoesOk w0 w T1 B1 T2 B2 R s1 w' := by
  have k7 := (Bk.new w 43 (stL 5 on V I)).alloc (.cells #[.int .i64 0, .float .f64 0] 38)
  have k10 := Bk.new (w.alloc (.cells (stL 5 on V I).toArray 43)) 38 [.int .i64 0, .float .f64 0]
  have g0 := ((Gr.refl w).alloc (.cells (stL 5 on V I).toArray 43)).alloc (.cells #[.int .i64 0, .float .f64 0] 38)
  rw [World.size_alloc] at k10
  have FR : Hid (Fr w0 w ((w.alloc (.cells (stL 5 on V I).toArray 43)).alloc (.cells #[.int .i64 0, .float .f64 0] 38)) T1 B1 T2 B2 R w.heap.size (w.heap.size + 1) (stL 5 on V I) (.int .i64 0) (.float .f64 0)) := ⟨k7, k10, .of_gr g0, h.bel.trans (g0.below.mono h.bel.size), ⟨Nat.le_refl _, by omega⟩, ⟨h.tri.p.lt.1, h.tri.p.lt.2, h.tri.q.lt.1, h.tri.q.lt.2, h.tri.r.blk.lt⟩, h.lo⟩
  have TR := hid0 (h.tri.gr g0)
  have VL := hid0 h.vals
  have TB := hid0 h.tab0
  clear k7 k10 g0 h
  have sf := run_store_f
  go_enter Tryd.func10, Tryd.ntmps10
  go_upto_region 5 with fail
  obtain ⟨b10, e10⟩ : ∃ b10, b10 = w.heap.size + 1 := ⟨_, rfl⟩
  obtain ⟨b7, e7⟩ : ∃ b7, b7 = w.heap.size := ⟨_, rfl⟩
  rw [← e10] at FR ⊢
  rw [← e7] at FR ⊢
  clear e10 e7
  generalize (w.alloc (.cells (stL 5 on V I).toArray 43)).alloc (.cells #[.int .i64 0, .float .f64 0] 38) = W at *
  have x0 := FR.out.k7.at 0
  simp only [List.getElem?_cons_zero] at x0
  go_upto_region 22 with fail
  clear x0
  have P := hid0 TR.out.p
  have Q := hid0 TR.out.q
  have RR := hid0 TR.out.r
  have x3 := FR.out.k7.at 3
  simp only [List.getElem?_cons_succ, List.getElem?_cons_zero] at x3
  have C := hid0 (s_cut_no T1 B1 s1 I W P.out TR.out.ok1.n1 (by rw [← TR.out.ok1.cL]; exact hI))
  go_wp2_with fail
  refine C.out.mono ?_
  rintro e W1 ⟨rfl, hw⟩
  clear C
  clear x3
  cases hw
  have x3 := FR.out.k7.at 3
  simp only [List.getElem?_cons_succ, List.getElem?_cons_zero] at x3
  have C := hid0 (p_cut_no T2 B2 s2 I W Q.out TR.out.ok2.n1 (by rw [← TR.out.ok2.cL]; exact hI))
  go_wp2_with fail
  refine C.out.mono ?_
  rintro e W2 ⟨rfl, g2⟩
  clear C
  clear x3
  replace P := hid0 (P.out.gr g2)
  replace Q := hid0 (Q.out.gr g2)
  replace RR := hid0 (RR.out.gr g2)
  replace FR := hid0 (FR.out.gr g2)
  clear g2
  obtain ⟨y0, y1, y2, y3⟩ := pz_two FR.out.k10
  have SP := hid0 ((Tri.pair (s1 := s1) (s2 := s2) (s3 := s3) (v := v) (L := L) FR.out (.int .i64 0) (.float .f64 0)).1 P.out)
  have SQ := hid0 ((Tri.pair (s1 := s1) (s2 := s2) (s3 := s3) (v := v) (L := L) FR.out (.int .i64 0) (.float .f64 0)).2.1 Q.out)
  have SR := hid0 ((Tri.pair (s1 := s1) (s2 := s2) (s3 := s3) (v := v) (L := L) FR.out (.int .i64 0) (.float .f64 0)).2.2 RR.out)
  have SF := hid0 (FR.out.pair (.int .i64 0) (.float .f64 0))
  clear P Q RR FR
  go_upto_region 24 with fail
  clear y0 y1 y2 y3
  generalize World.setCell (World.setCell W2 _ _) _ _ = V5 at *
  have P := SP
  have Q := SQ
  have RR := SR
  have FR := SF
  clear SP SQ SR SF
  have x3 := FR.out.k7.at 3
  simp only [List.getElem?_cons_succ, List.getElem?_cons_zero] at x3
  have C := hid0 (rcut_no R s3 v L I V5 RR.out hI)
  go_wp2_with fail
  refine C.out.mono ?_
  rintro e W3 ⟨rfl, hw⟩
  clear C
  clear x3
  cases hw
  have C := hid0 (text_any 0 V5 ⟨by decide, by decide⟩ (FR.out.tab TB.out))
  have ep := run_eqp 0
  go_wp2_with fail
  refine C.out.mono ?_
  rintro e V7 ⟨rfl, g7⟩
  clear C
  replace P := hid0 (P.out.gr g7)
  replace Q := hid0 (Q.out.gr g7)
  replace RR := hid0 (RR.out.gr g7)
  replace FR := hid0 (FR.out.gr g7)
  clear g7
  obtain ⟨y0, y1, _, _⟩ := pz_two FR.out.k10
  go_wp2
  go_ret
  have T := TR.out
  exact ⟨rfl, s1, s2, s3, v, L, ⟨⟨P.out, Q.out, RR.out, T.ok1, T.ok2, T.e2, T.e3⟩, VL.out, TB.out, FR.out.bel, FR.out.lo⟩, by omega, FR.out.ch⟩
set_option maxHeartbeats 2000000 in
set_option maxRecDepth 100000 in
theorem does_at_yes (i : Nat) (w0 w : World) (T1 B1 T2 B2 R : Nat) (s1 s2 s3 : RS) (v : Value) (L : List Int) (on V : Int) (h : St5 w0 w T1 B1 T2 B2 R s1 s2 s3 v L) (x : Int) (hx : L[i]? = some x) :
    Calls Tryd.prog 10 #[.pointer (some ⟨T1, 0, none⟩), .pointer (some ⟨T2, 0, none⟩), .pointer (some ⟨R, 0, none⟩), stV 3 on V (i : Int)] w fun e w' => e = .returned (.bool true) ∧ DoesOk w0 w T1 B1 T2 B2 R s1 w' := by
  have k7 := (Bk.new w 43 (stL 3 on V (i : Int))).alloc (.cells #[.int .i64 0, .float .f64 0] 38)
  have k10 := Bk.new (w.alloc (.cells (stL 3 on V (i : Int)).toArray 43)) 38 [.int .i64 0, .float .f64 0]
  have g0 := ((Gr.refl w).alloc (.cells (stL 3 on V (i : Int)).toArray 43)).alloc (.cells #[.int .i64 0, .float .f64 0] 38)
  rw [World.size_alloc] at k10
  have FR : Hid (Fr w0 w ((w.alloc (.cells (stL 3 on V (i : Int)).toArray 43)).alloc (.cells #[.int .i64 0, .float .f64 0] 38)) T1 B1 T2 B2 R w.heap.size (w.heap.size + 1) (stL 3 on V (i : Int)) (.int .i64 0) (.float .f64 0)) := ⟨k7, k10, .of_gr g0, h.bel.trans (g0.below.mono h.bel.size), ⟨Nat.le_refl _, by omega⟩, ⟨h.tri.p.lt.1, h.tri.p.lt.2, h.tri.q.lt.1, h.tri.q.lt.2, h.tri.r.blk.lt⟩, h.lo⟩
  have TR := hid0 (h.tri.gr g0)
  have VL := hid0 h.vals
  have TB := hid0 h.tab0
  clear k7 k10 g0 h
  have sf := run_store_f
  go_enter Tryd.func10, Tryd.ntmps10
  go_upto_region 5 with fail
  obtain ⟨b10, e10⟩ : ∃ b10, b10 = w.heap.size + 1 := ⟨_, rfl⟩
  obtain ⟨b7, e7⟩ : ∃ b7, b7 = w.heap.size := ⟨_, rfl⟩
  rw [← e10] at FR ⊢
  rw [← e7] at FR ⊢
  clear e10 e7
  generalize (w.alloc (.cells (stL 3 on V (i : Int)).toArray 43)).alloc (.cells #[.int .i64 0, .float .f64 0] 38) = W at *
  have x0 := FR.out.k7.at 0
  simp only [List.getElem?_cons_zero] at x0
  go_upto_region 15 with fail
  clear x0
  have hic : i < s1.c := by rw [← TR.out.ok1.cL]; exact (List.getElem?_eq_some_iff.1 hx).1
  have hic2 : i < s2.c := by rw [← TR.out.ok2.cL]; exact (List.getElem?_eq_some_iff.1 hx).1
  have P := hid0 TR.out.p
  have Q := hid0 TR.out.q
  have RR := hid0 TR.out.r
  have x3 := FR.out.k7.at 3
  simp only [List.getElem?_cons_succ, List.getElem?_cons_zero] at x3
  have C := hid0 (s_at_yes T1 B1 s1 i x W P.out TR.out.ok1.n1 TR.out.ok1.n2 TR.out.ok1.fn TR.out.ok1.cn hic (TR.out.ok1.has i x hx))
  go_wp2_with fail
  refine C.out.mono ?_
  rintro e W1 ⟨rfl, m, hm⟩
  clear C
  clear x3
  have g1 : Gr W W1 := by rw [hm]; exact (Gr.refl W).drewN m
  clear hm
  replace P := hid0 (P.out.gr g1)
  replace Q := hid0 (Q.out.gr g1)
  replace RR := hid0 (RR.out.gr g1)
  replace FR := hid0 (FR.out.gr g1)
  clear g1
  have x3 := FR.out.k7.at 3
  simp only [List.getElem?_cons_succ, List.getElem?_cons_zero] at x3
  have C := hid0 (p_at_yes T2 B2 s2 i x W1 Q.out TR.out.ok2.n1 TR.out.ok2.n2 TR.out.ok2.fn TR.out.ok2.cn hic2 (TR.out.ok2.has i x hx))
  go_wp2_with fail
  refine C.out.mono ?_
  rintro e W2 ⟨rfl, g2⟩
  clear C
  clear x3
  replace P := hid0 (P.out.gr g2)
  replace Q := hid0 (Q.out.gr g2)
  replace RR := hid0 (RR.out.gr g2)
  replace FR := hid0 (FR.out.gr g2)
  clear g2
  obtain ⟨y0, y1, y2, y3⟩ := pz_two FR.out.k10
  have SP := hid0 ((Tri.pair (s1 := s1) (s2 := s2) (s3 := s3) (v := v) (L := L) FR.out (.int .i64 x) (.float .f64 0)).1 P.out)
  have SQ := hid0 ((Tri.pair (s1 := s1) (s2 := s2) (s3 := s3) (v := v) (L := L) FR.out (.int .i64 x) (.float .f64 0)).2.1 Q.out)
  have SR := hid0 ((Tri.pair (s1 := s1) (s2 := s2) (s3 := s3) (v := v) (L := L) FR.out (.int .i64 x) (.float .f64 0)).2.2 RR.out)
  have SF := hid0 (FR.out.pair (.int .i64 x) (.float .f64 0))
  clear P Q RR FR
  go_upto_region 17 with fail
  clear y0 y1 y2 y3
  generalize World.setCell (World.setCell W2 _ _) _ _ = V5 at *
  have P := SP
  have Q := SQ
  have RR := SR
  have FR := SF
  clear SP SQ SR SF
  have x3 := FR.out.k7.at 3
  simp only [List.getElem?_cons_succ, List.getElem?_cons_zero] at x3
  have C := hid0 (rat_yes R s3 v L i x V5 RR.out hx)
  go_wp2_with fail
  refine C.out.mono ?_
  rintro e W3 ⟨rfl, hw⟩
  clear C
  clear x3
  cases hw
  have C := hid0 (text_any x V5 (VL.out i x hx) (FR.out.tab TB.out))
  have ep := run_eqp x
  go_wp2_with fail
  refine C.out.mono ?_
  rintro e V7 ⟨rfl, g7⟩
  clear C
  replace P := hid0 (P.out.gr g7)
  replace Q := hid0 (Q.out.gr g7)
  replace RR := hid0 (RR.out.gr g7)
  replace FR := hid0 (FR.out.gr g7)
  clear g7
  obtain ⟨y0, y1, _, _⟩ := pz_two FR.out.k10
  go_wp2
  go_ret
  have T := TR.out
  exact ⟨rfl, s1, s2, s3, v, L, ⟨⟨P.out, Q.out, RR.out, T.ok1, T.ok2, T.e2, T.e3⟩, VL.out, TB.out, FR.out.bel, FR.out.lo⟩, by omega, FR.out.ch⟩
set_option maxHeartbeats 2000000 in
set_option maxRecDepth 100000 in
theorem does_cut_yes (i : Nat) (w0 w : World) (T1 B1 T2 B2 R : Nat) (s1 s2 s3 : RS) (v : Value) (L : List Int) (on V : Int) (h : St5 w0 w T1 B1 T2 B2 R s1 s2 s3 v L) (x : Int) (hx : L[i]? = some x) :
    Calls Tryd.prog 10 #[.pointer (some ⟨T1, 0, none⟩), .pointer (some ⟨T2, 0, none⟩), .pointer (some ⟨R, 0, none⟩), stV 5 on V (i : Int)] w fun e w' => e = .returned (.bool true) ∧ DoesOk w0 w T1 B1 T2 B2 R s1 w' := by
  have k7 := (Bk.new w 43 (stL 5 on V (i : Int))).alloc (.cells #[.int .i64 0, .float .f64 0] 38)
  have k10 := Bk.new (w.alloc (.cells (stL 5 on V (i : Int)).toArray 43)) 38 [.int .i64 0, .float .f64 0]
  have g0 := ((Gr.refl w).alloc (.cells (stL 5 on V (i : Int)).toArray 43)).alloc (.cells #[.int .i64 0, .float .f64 0] 38)
  rw [World.size_alloc] at k10
  have FR : Hid (Fr w0 w ((w.alloc (.cells (stL 5 on V (i : Int)).toArray 43)).alloc (.cells #[.int .i64 0, .float .f64 0] 38)) T1 B1 T2 B2 R w.heap.size (w.heap.size + 1) (stL 5 on V (i : Int)) (.int .i64 0) (.float .f64 0)) := ⟨k7, k10, .of_gr g0, h.bel.trans (g0.below.mono h.bel.size), ⟨Nat.le_refl _, by omega⟩, ⟨h.tri.p.lt.1, h.tri.p.lt.2, h.tri.q.lt.1, h.tri.q.lt.2, h.tri.r.blk.lt⟩, h.lo⟩
  have TR := hid0 (h.tri.gr g0)
  have VL := hid0 h.vals
  have TB := hid0 h.tab0
  clear k7 k10 g0 h
  have sf := run_store_f
  go_enter Tryd.func10, Tryd.ntmps10
  go_upto_region 5 with fail
  obtain ⟨b10, e10⟩ : ∃ b10, b10 = w.heap.size + 1 := ⟨_, rfl⟩
  obtain ⟨b7, e7⟩ : ∃ b7, b7 = w.heap.size := ⟨_, rfl⟩
  rw [← e10] at FR ⊢
  rw [← e7] at FR ⊢
  clear e10 e7
  generalize (w.alloc (.cells (stL 5 on V (i : Int)).toArray 43)).alloc (.cells #[.int .i64 0, .float .f64 0] 38) = W at *
  have x0 := FR.out.k7.at 0
  simp only [List.getElem?_cons_zero] at x0
  go_upto_region 22 with fail
  clear x0
  have P := hid0 TR.out.p
  have Q := hid0 TR.out.q
  have RR := hid0 TR.out.r
  have x3 := FR.out.k7.at 3
  simp only [List.getElem?_cons_succ, List.getElem?_cons_zero] at x3
  have C := hid0 (s_cut_yes T1 B1 s1 L i x W P.out TR.out.ok1 hx)
  go_wp2_with fail
  refine C.out.mono ?_
  rintro e W1 ⟨rfl, t1, o1, n1, pk1, rf1, low1, h1, p2, g1⟩
  clear C
  clear x3
  have F1 := hid0 (And.intro o1 (And.intro n1 (And.intro pk1 (And.intro rf1 (And.intro low1 h1)))))
  clear o1 n1 pk1 rf1 low1 h1
  replace Q := hid0 (p_S Q.out P.out g1)
  replace RR := hid0 (r_S RR.out P.out g1)
  replace P := hid0 p2
  replace FR := hid0 (FR.out.chg g1.wS)
  clear g1 p2
  have x3 := FR.out.k7.at 3
  simp only [List.getElem?_cons_succ, List.getElem?_cons_zero] at x3
  have C := hid0 (p_cut_yes T2 B2 s2 L i x W1 Q.out TR.out.ok2 hx)
  go_wp2_with fail
  refine C.out.mono ?_
  rintro e W2 ⟨rfl, t2, o2, n2, pk2, rf2, low2, h2, q2, g2⟩
  clear C
  clear x3
  have F2 := hid0 (And.intro o2 (And.intro n2 (And.intro pk2 (And.intro rf2 (And.intro low2 h2)))))
  clear o2 n2 pk2 rf2 low2 h2
  replace P := hid0 (s_P P.out Q.out g2)
  replace RR := hid0 (r_P RR.out Q.out g2)
  replace Q := hid0 q2
  replace FR := hid0 (FR.out.chg g2.wP)
  clear g2 q2
  obtain ⟨y0, y1, y2, y3⟩ := pz_two FR.out.k10
  have SP := hid0 ((Tri.pair (s1 := t1) (s2 := t2) (s3 := s3) (v := v) (L := L) FR.out (.int .i64 x) (.float .f64 0)).1 P.out)
  have SQ := hid0 ((Tri.pair (s1 := t1) (s2 := t2) (s3 := s3) (v := v) (L := L) FR.out (.int .i64 x) (.float .f64 0)).2.1 Q.out)
  have SR := hid0 ((Tri.pair (s1 := t1) (s2 := t2) (s3 := s3) (v := v) (L := L) FR.out (.int .i64 x) (.float .f64 0)).2.2 RR.out)
  have SF := hid0 (FR.out.pair (.int .i64 x) (.float .f64 0))
  clear P Q RR FR
  go_upto_region 24 with fail
  clear y0 y1 y2 y3
  generalize World.setCell (World.setCell W2 _ _) _ _ = V5 at *
  have P := SP
  have Q := SQ
  have RR := SR
  have FR := SF
  clear SP SQ SR SF
  have x3 := FR.out.k7.at 3
  simp only [List.getElem?_cons_succ, List.getElem?_cons_zero] at x3
  have C := hid0 (rcut_yes R s3 v L i x V5 RR.out (by rw [TR.out.e3.n, TR.out.ok1.cL]; exact TR.out.ok1.cn) (by rw [TR.out.e3.n]; exact TR.out.ok1.n2) (by rw [TR.out.e3.pk, TR.out.ok1.cL]; exact TR.out.ok1.pk1) hx)
  go_wp2_with fail
  refine C.out.mono ?_
  rintro e W3 ⟨rfl, v2, r3, g3⟩
  clear C
  clear x3
  replace P := hid0 (s_R P.out RR.out g3)
  replace Q := hid0 (p_R Q.out RR.out g3)
  replace RR := hid0 r3
  replace FR := hid0 (FR.out.chg g3.wR)
  clear g3 r3
  have C := hid0 (text_any x W3 (VL.out i x hx) (FR.out.tab TB.out))
  have ep := run_eqp x
  go_wp2_with fail
  refine C.out.mono ?_
  rintro e V7 ⟨rfl, g7⟩
  clear C
  replace P := hid0 (P.out.gr g7)
  replace Q := hid0 (Q.out.gr g7)
  replace RR := hid0 (RR.out.gr g7)
  replace FR := hid0 (FR.out.gr g7)
  clear g7
  obtain ⟨y0, y1, _, _⟩ := pz_two FR.out.k10
  go_wp2
  go_ret
  obtain ⟨o1, n1, pk1, rf1, low1, h1⟩ := F1.out
  obtain ⟨o2, n2, pk2, rf2, low2, h2⟩ := F2.out
  have T := TR.out
  refine ⟨rfl, t1, t2, _, v2, (L.eraseIdx i), ⟨⟨P.out, Q.out, RR.out, o1, o2, same12 T.e2 n1 n2 low1 low2 h1 h2 ?_ rf1 rf2 o1 o2, same13 T.e3 n1 low1 h1 rf1 o1 rfl rfl rfl ?_ ?_ rfl⟩, VL.out.sub ?_, TB.out, FR.out.bel, FR.out.lo⟩, by omega, FR.out.ch⟩
  · rw [pk2, pk1, T.e2.pk]
  · show prOf s3.high s3.low s3.pr (L.length - 1) = prOf s3.high s3.low s3.pr (L.eraseIdx i).length
    rw [List.length_eraseIdx, if_pos (List.getElem?_eq_some_iff.1 hx).1]
  · show s3.pk = t1.pk
    rw [pk1, T.e3.pk]
  · intro y hy
    exact List.mem_of_mem_eraseIdx hy
end Go.Proofs.YtodlhclaboofiaaDoor
