/- does: Drop, Mark, Books, and what does nothing. -/
import Derived.Test.YtodlhclaboofiaaDoorD3
set_option linter.unusedSimpArgs false
set_option linter.unusedVariables false
namespace Go.Proofs.YtodlhclaboofiaaDoor
open Go.RowKit Go.Sort

set_option maxHeartbeats 2000000 in
set_option maxRecDepth 100000 in
theorem does_drop (w0 w : World) (T1 B1 T2 B2 R : Nat) (s1 s2 s3 : RS) (v : Value) (L : List Int) (on V I : Int) (h : St5 w0 w T1 B1 T2 B2 R s1 s2 s3 v L) (k : Nat) (hk : Hid ((k : Int) = min (max I 0) (L.length : Int))) :
    Calls Tryd.prog 10 #[.pointer (some ⟨T1, 0, none⟩), .pointer (some ⟨T2, 0, none⟩), .pointer (some ⟨R, 0, none⟩), stV 6 on V I] w fun e w' => e = .returned (.bool true) ∧ DoesOk w0 w T1 B1 T2 B2 R s1 w' := by
  have k7 := (Bk.new w 43 (stL 6 on V I)).alloc (.cells #[.int .i64 0, .float .f64 0] 38)
  have k10 := Bk.new (w.alloc (.cells (stL 6 on V I).toArray 43)) 38 [.int .i64 0, .float .f64 0]
  have g0 := ((Gr.refl w).alloc (.cells (stL 6 on V I).toArray 43)).alloc (.cells #[.int .i64 0, .float .f64 0] 38)
  rw [World.size_alloc] at k10
  have FR : Hid (Fr w0 w ((w.alloc (.cells (stL 6 on V I).toArray 43)).alloc (.cells #[.int .i64 0, .float .f64 0] 38)) T1 B1 T2 B2 R w.heap.size (w.heap.size + 1) (stL 6 on V I) (.int .i64 0) (.float .f64 0)) := ⟨k7, k10, .of_gr g0, h.bel.trans (g0.below.mono h.bel.size), ⟨Nat.le_refl _, by omega⟩, ⟨h.tri.p.lt.1, h.tri.p.lt.2, h.tri.q.lt.1, h.tri.q.lt.2, h.tri.r.blk.lt⟩, h.lo⟩
  have TR := hid0 (h.tri.gr g0)
  have VL := hid0 h.vals
  have TB := hid0 h.tab0
  clear k7 k10 g0 h
  have sf := run_store_f
  go_enter Tryd.func10, Tryd.ntmps10
  go_upto_region 5 with fail
  obtain ⟨b10, e10⟩ : ∃ b10, b10 = w.heap.size + 1 := ⟨_, rfl⟩
  obtain ⟨b7, e7⟩ : ∃ b7, b7 = w.heap.size := ⟨_, rfl⟩
  rw [← e10] at FR ⊢
  rw [← e7] at FR ⊢
  clear e10 e7
  generalize (w.alloc (.cells (stL 6 on V I).toArray 43)).alloc (.cells #[.int .i64 0, .float .f64 0] 38) = W at *
  have x0 := FR.out.k7.at 0
  simp only [List.getElem?_cons_zero] at x0
  go_upto_region 26 with fail
  clear x0
  have P := hid0 TR.out.p
  have Q := hid0 TR.out.q
  have RR := hid0 TR.out.r
  have x3 := FR.out.k7.at 3
  simp only [List.getElem?_cons_succ, List.getElem?_cons_zero] at x3
  have C := hid0 (rdrop_any R s3 v L I k W RR.out (by rw [TR.out.ok1.cL]; have := TR.out.ok1.cn; have := TR.out.ok1.n2; omega) (by rw [TR.out.e3.pk, TR.out.ok1.cL]; exact TR.out.ok1.pk1) (pr_same TR.out.e3 TR.out.ok1) hk.out)
  go_wp2_with fail
  refine C.out.mono ?_
  rintro e W1 ⟨rfl, v2, r1, g1⟩
  clear C
  clear x3
  replace P := hid0 (s_R P.out RR.out g1)
  replace Q := hid0 (p_R Q.out RR.out g1)
  replace RR := hid0 r1
  replace FR := hid0 (FR.out.chg g1.wR)
  clear g1 r1
  have x3 := FR.out.k7.at 3
  simp only [List.getElem?_cons_succ, List.getElem?_cons_zero] at x3
  have C := hid0 (s_drop T1 B1 s1 L I k W1 P.out TR.out.ok1 (by rw [← TR.out.ok1.cL]; exact hk.out))
  go_wp2_with fail
  refine C.out.mono ?_
  rintro e W2 ⟨rfl, t1, o1, n1, pk1, rf1, low1, h1, p2, g2⟩
  clear C
  clear x3
  have F1 := hid0 (And.intro o1 (And.intro n1 (And.intro pk1 (And.intro rf1 (And.intro low1 h1)))))
  clear o1 n1 pk1 rf1 low1 h1
  replace Q := hid0 (p_S Q.out P.out g2)
  replace RR := hid0 (r_S RR.out P.out g2)
  replace P := hid0 p2
  replace FR := hid0 (FR.out.chg g2.wS)
  clear g2 p2
  have x3 := FR.out.k7.at 3
  simp only [List.getElem?_cons_succ, List.getElem?_cons_zero] at x3
  have C := hid0 (p_drop T2 B2 s2 L I k W2 Q.out TR.out.ok2 (by rw [← TR.out.ok2.cL]; exact hk.out))
  go_wp2_with fail
  refine C.out.mono ?_
  rintro e W3 ⟨rfl, t2, o2, n2, pk2, rf2, low2, h2, q2, g3⟩
  clear C
  clear x3
  have F2 := hid0 (And.intro o2 (And.intro n2 (And.intro pk2 (And.intro rf2 (And.intro low2 h2)))))
  clear o2 n2 pk2 rf2 low2 h2
  replace P := hid0 (s_P P.out Q.out g3)
  replace RR := hid0 (r_P RR.out Q.out g3)
  replace Q := hid0 q2
  replace FR := hid0 (FR.out.chg g3.wP)
  clear g3 q2
  clear hk
  go_wp2
  go_ret
  obtain ⟨o1, n1, pk1, rf1, low1, h1⟩ := F1.out
  obtain ⟨o2, n2, pk2, rf2, low2, h2⟩ := F2.out
  have T := TR.out
  refine ⟨rfl, t1, t2, _, v2, (L.drop k), ⟨⟨P.out, Q.out, RR.out, o1, o2, same12 T.e2 n1 n2 low1 low2 h1 h2 ?_ rf1 rf2 o1 o2, same13 T.e3 n1 low1 h1 rf1 o1 rfl rfl rfl ?_ ?_ rfl⟩, VL.out.sub ?_, TB.out, FR.out.bel, FR.out.lo⟩, by omega, FR.out.ch⟩
  · rw [pk2, pk1, T.e2.pk]
  · show prOf s3.high s3.low s3.pr (L.length - k) = prOf s3.high s3.low s3.pr (L.drop k).length
    rw [List.length_drop]
  · show s3.pk = t1.pk
    rw [pk1, T.e3.pk]
  · intro y hy
    exact List.mem_of_mem_drop hy
set_option maxHeartbeats 2000000 in
set_option maxRecDepth 100000 in
theorem does_mark_no (w0 w : World) (T1 B1 T2 B2 R : Nat) (s1 s2 s3 : RS) (v : Value) (L : List Int) (on V I : Int) (h : St5 w0 w T1 B1 T2 B2 R s1 s2 s3 v L) (hm : I < 0 ∨ V ≤ I ∨ (s1.n : Int) < V) :
    Calls Tryd.prog 10 #[.pointer (some ⟨T1, 0, none⟩), .pointer (some ⟨T2, 0, none⟩), .pointer (some ⟨R, 0, none⟩), stV 8 on V I] w fun e w' => e = .returned (.bool true) ∧ DoesOk w0 w T1 B1 T2 B2 R s1 w' := by
  have k7 := (Bk.new w 43 (stL 8 on V I)).alloc (.cells #[.int .i64 0, .float .f64 0] 38)
  have k10 := Bk.new (w.alloc (.cells (stL 8 on V I).toArray 43)) 38 [.int .i64 0, .float .f64 0]
  have g0 := ((Gr.refl w).alloc (.cells (stL 8 on V I).toArray 43)).alloc (.cells #[.int .i64 0, .float .f64 0] 38)
  rw [World.size_alloc] at k10
  have FR : Hid (Fr w0 w ((w.alloc (.cells (stL 8 on V I).toArray 43)).alloc (.cells #[.int .i64 0, .float .f64 0] 38)) T1 B1 T2 B2 R w.heap.size (w.heap.size + 1) (stL 8 on V I) (.int .i64 0) (.float .f64 0)) := ⟨k7, k10, .of_gr g0, h.bel.trans (g0.below.mono h.bel.size), ⟨Nat.le_refl _, by omega⟩, ⟨h.tri.p.lt.1, h.tri.p.lt.2, h.tri.q.lt.1, h.tri.q.lt.2, h.tri.r.blk.lt⟩, h.lo⟩
  have TR := hid0 (h.tri.gr g0)
  have VL := hid0 h.vals
  have TB := hid0 h.tab0
  clear k7 k10 g0 h
  have sf := run_store_f
  go_enter Tryd.func10, Tryd.ntmps10
  go_upto_region 5 with fail
  obtain ⟨b10, e10⟩ : ∃ b10, b10 = w.heap.size + 1 := ⟨_, rfl⟩
  obtain ⟨b7, e7⟩ : ∃ b7, b7 = w.heap.size := ⟨_, rfl⟩
  rw [← e10] at FR ⊢
  rw [← e7] at FR ⊢
  clear e10 e7
  generalize (w.alloc (.cells (stL 8 on V I).toArray 43)).alloc (.cells #[.int .i64 0, .float .f64 0] 38) = W at *
  have x0 := FR.out.k7.at 0
  simp only [List.getElem?_cons_zero] at x0
  go_upto_region 31 with fail
  clear x0
  have P := hid0 TR.out.p
  have Q := hid0 TR.out.q
  have RR := hid0 TR.out.r
  have x2 := FR.out.k7.at 2
  have x3 := FR.out.k7.at 3
  simp only [List.getElem?_cons_succ, List.getElem?_cons_zero] at x2 x3
  have C := hid0 (rmark_no R s3 v L I V W RR.out (by rw [TR.out.e3.n]; exact hm))
  go_wp2_with fail
  refine C.out.mono ?_
  rintro e W1 ⟨rfl, hw⟩
  clear C
  clear x2 x3
  cases hw
  have x2 := FR.out.k7.at 2
  have x3 := FR.out.k7.at 3
  simp only [List.getElem?_cons_succ, List.getElem?_cons_zero] at x2 x3
  have C := hid0 (s_mark_no T1 B1 s1 I V W P.out TR.out.ok1.n1 hm)
  go_wp2_with fail
  refine C.out.mono ?_
  rintro e W2 ⟨rfl, hw⟩
  clear C
  clear x2 x3
  cases hw
  have x2 := FR.out.k7.at 2
  have x3 := FR.out.k7.at 3
  simp only [List.getElem?_cons_succ, List.getElem?_cons_zero] at x2 x3
  have C := hid0 (p_mark_no T2 B2 s2 I V W Q.out TR.out.ok2.n1 (by rw [TR.out.e2.n]; exact hm))
  go_wp2_with fail
  refine C.out.mono ?_
  rintro e W3 ⟨rfl, hw⟩
  clear C
  clear x2 x3
  cases hw
  go_wp2
  go_ret
  have T := TR.out
  exact ⟨rfl, s1, s2, s3, v, L, ⟨⟨P.out, Q.out, RR.out, T.ok1, T.ok2, T.e2, T.e3⟩, VL.out, TB.out, FR.out.bel, FR.out.lo⟩, by omega, FR.out.ch⟩
set_option maxHeartbeats 2000000 in
set_option maxRecDepth 100000 in
theorem does_mark_yes (w0 w : World) (T1 B1 T2 B2 R : Nat) (s1 s2 s3 : RS) (v : Value) (L : List Int) (on V I : Int) (h : St5 w0 w T1 B1 T2 B2 R s1 s2 s3 v L) (m1 : 0 ≤ I) (m2 : I < V) (m3 : V ≤ (s1.n : Int)) :
    Calls Tryd.prog 10 #[.pointer (some ⟨T1, 0, none⟩), .pointer (some ⟨T2, 0, none⟩), .pointer (some ⟨R, 0, none⟩), stV 8 on V I] w fun e w' => e = .returned (.bool true) ∧ DoesOk w0 w T1 B1 T2 B2 R s1 w' := by
  have k7 := (Bk.new w 43 (stL 8 on V I)).alloc (.cells #[.int .i64 0, .float .f64 0] 38)
  have k10 := Bk.new (w.alloc (.cells (stL 8 on V I).toArray 43)) 38 [.int .i64 0, .float .f64 0]
  have g0 := ((Gr.refl w).alloc (.cells (stL 8 on V I).toArray 43)).alloc (.cells #[.int .i64 0, .float .f64 0] 38)
  rw [World.size_alloc] at k10
  have FR : Hid (Fr w0 w ((w.alloc (.cells (stL 8 on V I).toArray 43)).alloc (.cells #[.int .i64 0, .float .f64 0] 38)) T1 B1 T2 B2 R w.heap.size (w.heap.size + 1) (stL 8 on V I) (.int .i64 0) (.float .f64 0)) := ⟨k7, k10, .of_gr g0, h.bel.trans (g0.below.mono h.bel.size), ⟨Nat.le_refl _, by omega⟩, ⟨h.tri.p.lt.1, h.tri.p.lt.2, h.tri.q.lt.1, h.tri.q.lt.2, h.tri.r.blk.lt⟩, h.lo⟩
  have TR := hid0 (h.tri.gr g0)
  have VL := hid0 h.vals
  have TB := hid0 h.tab0
  clear k7 k10 g0 h
  have sf := run_store_f
  go_enter Tryd.func10, Tryd.ntmps10
  go_upto_region 5 with fail
  obtain ⟨b10, e10⟩ : ∃ b10, b10 = w.heap.size + 1 := ⟨_, rfl⟩
  obtain ⟨b7, e7⟩ : ∃ b7, b7 = w.heap.size := ⟨_, rfl⟩
  rw [← e10] at FR ⊢
  rw [← e7] at FR ⊢
  clear e10 e7
  generalize (w.alloc (.cells (stL 8 on V I).toArray 43)).alloc (.cells #[.int .i64 0, .float .f64 0] 38) = W at *
  have x0 := FR.out.k7.at 0
  simp only [List.getElem?_cons_zero] at x0
  go_upto_region 31 with fail
  clear x0
  have P := hid0 TR.out.p
  have Q := hid0 TR.out.q
  have RR := hid0 TR.out.r
  have x2 := FR.out.k7.at 2
  have x3 := FR.out.k7.at 3
  simp only [List.getElem?_cons_succ, List.getElem?_cons_zero] at x2 x3
  have C := hid0 (rmark_yes R s3 v L I V W RR.out m1 m2 (by rw [TR.out.e3.n]; exact m3))
  go_wp2_with fail
  refine C.out.mono ?_
  rintro e W1 ⟨rfl, r1, g1⟩
  clear C
  clear x2 x3
  replace P := hid0 (s_R P.out RR.out g1)
  replace Q := hid0 (p_R Q.out RR.out g1)
  replace RR := hid0 r1
  replace FR := hid0 (FR.out.chg g1.wR)
  clear g1 r1
  have x2 := FR.out.k7.at 2
  have x3 := FR.out.k7.at 3
  simp only [List.getElem?_cons_succ, List.getElem?_cons_zero] at x2 x3
  have C := hid0 (s_mark_yes T1 B1 s1 L I V W1 P.out TR.out.ok1 m1 m2 m3)
  go_wp2_with fail
  refine C.out.mono ?_
  rintro e W2 ⟨rfl, p2, g2⟩
  clear C
  clear x2 x3
  replace g2 := g2.w1 (B1 := B1)
  replace Q := hid0 (p_S Q.out P.out g2)
  replace RR := hid0 (r_S RR.out P.out g2)
  replace P := hid0 p2
  replace FR := hid0 (FR.out.chg g2.wS)
  clear g2 p2
  have x2 := FR.out.k7.at 2
  have x3 := FR.out.k7.at 3
  simp only [List.getElem?_cons_succ, List.getElem?_cons_zero] at x2 x3
  have C := hid0 (p_mark_yes T2 B2 s2 L I V W2 Q.out TR.out.ok2 m1 m2 (by rw [TR.out.e2.n]; exact m3))
  go_wp2_with fail
  refine C.out.mono ?_
  rintro e W3 ⟨rfl, q2, g3⟩
  clear C
  clear x2 x3
  replace g3 := g3.w1 (B1 := B2)
  replace P := hid0 (s_P P.out Q.out g3)
  replace RR := hid0 (r_P RR.out Q.out g3)
  replace Q := hid0 q2
  replace FR := hid0 (FR.out.chg g3.wP)
  clear g3 q2
  go_wp2
  go_ret
  have T := TR.out
  have hc2 : s2.c = s1.c := by rw [← T.ok1.cL, ← T.ok2.cL]
  have mk : ∀ (s : RS), s.Ok L → (V ≤ (s.n : Int)) → ({ s with low := I, high := V, pr := decide (V ≤ (s.c : Int)) } : RS).Ok L := fun s ok hV => ⟨ok.n1, ok.n2, ok.fn, ok.len, ok.cL, ok.cn, ok.has, ok.pk1, ok.pk2, ok.rf2, m1, by show (0 : Int) ≤ V; omega, hV, fun e => by exfalso; have : V = 0 := e; omega, fun _ => m2, fun _ h => by show decide (V ≤ (s.c : Int)) = true; exact decide_eq_true h, fun _ h => by show decide (V ≤ (s.c : Int)) = false; have : (s.c : Int) ≤ I := h; simp; omega⟩
  exact ⟨rfl, _, _, _, v, L, ⟨⟨P.out, Q.out, RR.out, mk s1 T.ok1 m3, mk s2 T.ok2 (by rw [T.e2.n]; exact m3), ⟨T.e2.n, rfl, rfl, by show decide (V ≤ (s2.c : Int)) = decide (V ≤ (s1.c : Int)); rw [hc2], T.e2.pk, T.e2.rf⟩, ⟨T.e3.n, rfl, rfl, by show decide (V ≤ (L.length : Int)) = decide (V ≤ (s1.c : Int)); rw [T.ok1.cL], T.e3.pk, T.e3.rf⟩⟩, VL.out, TB.out, FR.out.bel, FR.out.lo⟩, Nat.le_add_right _ _, FR.out.ch⟩
set_option maxHeartbeats 2000000 in
set_option maxRecDepth 100000 in
theorem does_books (w0 w : World) (T1 B1 T2 B2 R : Nat) (s1 s2 s3 : RS) (v : Value) (L : List Int) (on V I : Int) (h : St5 w0 w T1 B1 T2 B2 R s1 s2 s3 v L)  :
    Calls Tryd.prog 10 #[.pointer (some ⟨T1, 0, none⟩), .pointer (some ⟨T2, 0, none⟩), .pointer (some ⟨R, 0, none⟩), stV 7 on V I] w fun e w' => e = .returned (.bool true) ∧ DoesOk w0 w T1 B1 T2 B2 R s1 w' := by
  have k7 := (Bk.new w 43 (stL 7 on V I)).alloc (.cells #[.int .i64 0, .float .f64 0] 38)
  have k10 := Bk.new (w.alloc (.cells (stL 7 on V I).toArray 43)) 38 [.int .i64 0, .float .f64 0]
  have g0 := ((Gr.refl w).alloc (.cells (stL 7 on V I).toArray 43)).alloc (.cells #[.int .i64 0, .float .f64 0] 38)
  rw [World.size_alloc] at k10
  have FR : Hid (Fr w0 w ((w.alloc (.cells (stL 7 on V I).toArray 43)).alloc (.cells #[.int .i64 0, .float .f64 0] 38)) T1 B1 T2 B2 R w.heap.size (w.heap.size + 1) (stL 7 on V I) (.int .i64 0) (.float .f64 0)) := ⟨k7, k10, .of_gr g0, h.bel.trans (g0.below.mono h.bel.size), ⟨Nat.le_refl _, by omega⟩, ⟨h.tri.p.lt.1, h.tri.p.lt.2, h.tri.q.lt.1, h.tri.q.lt.2, h.tri.r.blk.lt⟩, h.lo⟩
  have TR := hid0 (h.tri.gr g0)
  have VL := hid0 h.vals
  have TB := hid0 h.tab0
  clear k7 k10 g0 h
  have sf := run_store_f
  go_enter Tryd.func10, Tryd.ntmps10
  go_upto_region 5 with fail
  obtain ⟨b10, e10⟩ : ∃ b10, b10 = w.heap.size + 1 := ⟨_, rfl⟩
  obtain ⟨b7, e7⟩ : ∃ b7, b7 = w.heap.size := ⟨_, rfl⟩
  rw [← e10] at FR ⊢
  rw [← e7] at FR ⊢
  clear e10 e7
  generalize (w.alloc (.cells (stL 7 on V I).toArray 43)).alloc (.cells #[.int .i64 0, .float .f64 0] 38) = W at *
  have x0 := FR.out.k7.at 0
  simp only [List.getElem?_cons_zero] at x0
  go_upto_region 29 with fail
  clear x0
  have P := hid0 TR.out.p
  have Q := hid0 TR.out.q
  have RR := hid0 TR.out.r
  have C := hid0 (books_any T1 B1 T2 B2 R s1 s2 s3 v L W ⟨P.out, Q.out, RR.out, TR.out.ok1, TR.out.ok2, TR.out.e2, TR.out.e3⟩)
  go_wp2_with fail
  refine C.out.mono ?_
  rintro e W1 ⟨rfl, m, hm⟩
  clear C
  have g1 : Gr W W1 := by rw [hm]; exact (Gr.refl W).drewN m
  clear hm
  replace P := hid0 (P.out.gr g1)
  replace Q := hid0 (Q.out.gr g1)
  replace RR := hid0 (RR.out.gr g1)
  replace FR := hid0 (FR.out.gr g1)
  clear g1
  go_wp2
  go_ret
  have T := TR.out
  exact ⟨rfl, s1, s2, s3, v, L, ⟨⟨P.out, Q.out, RR.out, T.ok1, T.ok2, T.e2, T.e3⟩, VL.out, TB.out, FR.out.bel, FR.out.lo⟩, by omega, FR.out.ch⟩
end Go.Proofs.YtodlhclaboofiaaDoor
