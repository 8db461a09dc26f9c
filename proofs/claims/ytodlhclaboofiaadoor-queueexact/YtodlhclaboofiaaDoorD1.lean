/- does: Push. -/
import Derived.Test.YtodlhclaboofiaaDoorDk
set_option linter.unusedSimpArgs false
set_option linter.unusedVariables false
namespace Go.Proofs.YtodlhclaboofiaaDoor
open Go.RowKit Go.Sort

theorem same12 {s1 s2 t1 t2 : RS} {L' : List Int} (e : Same s1 s2) (n1 : t1.n = s1.n) (n2 : t2.n = s2.n) (l1 : t1.low = s1.low) (l2 : t2.low = s2.low) (h1 : t1.high = s1.high ∧ t1.pr = prOf s1.high s1.low s1.pr t1.c) (h2 : t2.high = s2.high ∧ t2.pr = prOf s2.high s2.low s2.pr t2.c) (pk : t2.pk = t1.pk) (rf1 : t1.rf = s1.rf) (rf2 : t2.rf = s2.rf) (o1 : t1.Ok L') (o2 : t2.Ok L') : Same t1 t2 := by
  have hc : t2.c = t1.c := by rw [← o1.cL, ← o2.cL]
  exact ⟨n2.trans (e.n.trans n1.symm), l2.trans (e.low.trans l1.symm), h2.1.trans (e.high.trans h1.1.symm), by rw [h2.2, h1.2, e.high, e.low, e.pr, hc], pk, rf2.trans (e.rf.trans rf1.symm)⟩
theorem same13 {s1 s3 t1 t3 : RS} {L' : List Int} (e : Same s1 s3) (n1 : t1.n = s1.n) (l1 : t1.low = s1.low) (h1 : t1.high = s1.high ∧ t1.pr = prOf s1.high s1.low s1.pr t1.c) (rf1 : t1.rf = s1.rf) (o1 : t1.Ok L') (n3 : t3.n = s3.n) (l3 : t3.low = s3.low) (h3 : t3.high = s3.high) (p3 : t3.pr = prOf s3.high s3.low s3.pr L'.length) (pk : t3.pk = t1.pk) (rf3 : t3.rf = s3.rf) : Same t1 t3 :=
  ⟨n3.trans (e.n.trans n1.symm), l3.trans (e.low.trans l1.symm), h3.trans (e.high.trans h1.1.symm), by rw [p3, h1.2, e.high, e.low, e.pr, o1.cL], pk, rf3.trans (e.rf.trans rf1.symm)⟩
theorem pr_same {s1 s : RS} {L : List Int} (e : Same s1 s) (ok : s1.Ok L) : prOf s.high s.low s.pr L.length = s.pr := by
  rw [e.high, e.low, e.pr, ok.cL]
  exact ok.pr_id
theorem Vals.app {L : List Int} {x : Int} (h : Vals L) (hx : in64 x) : Vals (L ++ [x]) := fun i y hy => by
  by_cases e : i < L.length
  · rw [List.getElem?_append_left e] at hy; exact h i y hy
  · have := List.mem_of_getElem? hy
    simp at this
    rcases this with h2 | h2
    · obtain ⟨j, hj⟩ := List.mem_iff_getElem?.1 h2; exact h j y hj
    · rw [h2]; exact hx
theorem Vals.sub {L M : List Int} (h : Vals L) (hm : ∀ x, x ∈ M → x ∈ L) : Vals M := fun i y hy => by
  obtain ⟨j, hj⟩ := List.mem_iff_getElem?.1 (hm y (List.mem_of_getElem? hy))
  exact h j y hj
set_option maxHeartbeats 2000000 in
set_option maxRecDepth 100000 in
theorem does_push_yes (w0 w : World) (T1 B1 T2 B2 R : Nat) (s1 s2 s3 : RS) (v : Value) (L : List Int) (on V I : Int) (h : St5 w0 w T1 B1 T2 B2 R s1 s2 s3 v L) (hV : in64 V) (hn : L.length < s1.n) :
    Calls Tryd.prog 10 #[.pointer (some ⟨T1, 0, none⟩), .pointer (some ⟨T2, 0, none⟩), .pointer (some ⟨R, 0, none⟩), stV 1 on V I] w fun e w' => e = .returned (.bool true) ∧ DoesOk w0 w T1 B1 T2 B2 R s1 w' := by
  have k7 := (Bk.new w 43 (stL 1 on V I)).alloc (.cells #[.int .i64 0, .float .f64 0] 38)
  have k10 := Bk.new (w.alloc (.cells (stL 1 on V I).toArray 43)) 38 [.int .i64 0, .float .f64 0]
  have g0 := ((Gr.refl w).alloc (.cells (stL 1 on V I).toArray 43)).alloc (.cells #[.int .i64 0, .float .f64 0] 38)
  rw [World.size_alloc] at k10
  have FR : Hid (Fr w0 w ((w.alloc (.cells (stL 1 on V I).toArray 43)).alloc (.cells #[.int .i64 0, .float .f64 0] 38)) T1 B1 T2 B2 R w.heap.size (w.heap.size + 1) (stL 1 on V I) (.int .i64 0) (.float .f64 0)) := ⟨k7, k10, .of_gr g0, h.bel.trans (g0.below.mono h.bel.size), ⟨Nat.le_refl _, by omega⟩, ⟨h.tri.p.lt.1, h.tri.p.lt.2, h.tri.q.lt.1, h.tri.q.lt.2, h.tri.r.blk.lt⟩, h.lo⟩
  have TR := hid0 (h.tri.gr g0)
  have VL := hid0 h.vals
  have TB := hid0 h.tab0
  clear k7 k10 g0 h
  have sf := run_store_f
  go_enter Tryd.func10, Tryd.ntmps10
  go_upto_region 5 with fail
  obtain ⟨b10, e10⟩ : ∃ b10, b10 = w.heap.size + 1 := ⟨_, rfl⟩
  obtain ⟨b7, e7⟩ : ∃ b7, b7 = w.heap.size := ⟨_, rfl⟩
  rw [← e10] at FR ⊢
  rw [← e7] at FR ⊢
  clear e10 e7
  generalize (w.alloc (.cells (stL 1 on V I).toArray 43)).alloc (.cells #[.int .i64 0, .float .f64 0] 38) = W at *
  have x0 := FR.out.k7.at 0
  simp only [List.getElem?_cons_zero] at x0
  go_upto_region 8 with fail
  clear x0
  have P := hid0 TR.out.p
  have Q := hid0 TR.out.q
  have RR := hid0 TR.out.r
  have x2 := FR.out.k7.at 2
  simp only [List.getElem?_cons_succ, List.getElem?_cons_zero] at x2
  have C := hid0 (rpush_yes R s3 v L V W RR.out (by rw [TR.out.e3.n]; exact hn) (by rw [TR.out.e3.n]; exact TR.out.ok1.n2))
  go_wp2_with fail
  refine C.out.mono ?_
  rintro e W1 ⟨rfl, v2, r1, g1⟩
  clear C
  clear x2
  replace P := hid0 (s_R P.out RR.out g1)
  replace Q := hid0 (p_R Q.out RR.out g1)
  replace RR := hid0 r1
  replace FR := hid0 (FR.out.chg g1.wR)
  clear g1 r1
  have x2 := FR.out.k7.at 2
  simp only [List.getElem?_cons_succ, List.getElem?_cons_zero] at x2
  have C := hid0 (text_any V W1 hV (FR.out.tab TB.out))
  go_wp2_with fail
  refine C.out.mono ?_
  rintro e W2 ⟨rfl, g2⟩
  clear C
  clear x2
  replace P := hid0 (P.out.gr g2)
  replace Q := hid0 (Q.out.gr g2)
  replace RR := hid0 (RR.out.gr g2)
  replace FR := hid0 (FR.out.gr g2)
  clear g2
  have C := hid0 (s_push_yes T1 B1 s1 L V W2 P.out TR.out.ok1 (by rw [← TR.out.ok1.cL]; exact hn))
  go_wp2_with fail
  refine C.out.mono ?_
  rintro e W3 ⟨rfl, t1, o1, n1, pk1, rf1, low1, h1, p2, g3⟩
  clear C
  have F1 := hid0 (And.intro o1 (And.intro n1 (And.intro pk1 (And.intro rf1 (And.intro low1 h1)))))
  clear o1 n1 pk1 rf1 low1 h1
  replace Q := hid0 (p_S Q.out P.out g3)
  replace RR := hid0 (r_S RR.out P.out g3)
  replace P := hid0 p2
  replace FR := hid0 (FR.out.chg g3.wS)
  clear g3 p2
  have x2 := FR.out.k7.at 2
  simp only [List.getElem?_cons_succ, List.getElem?_cons_zero] at x2
  have C := hid0 (p_push_yes T2 B2 s2 L V W3 Q.out TR.out.ok2 (by rw [← TR.out.ok2.cL, TR.out.e2.n]; exact hn))
  go_wp2_with fail
  refine C.out.mono ?_
  rintro e W4 ⟨rfl, t2, o2, n2, pk2, rf2, low2, h2, q2, g4⟩
  clear C
  clear x2
  have F2 := hid0 (And.intro o2 (And.intro n2 (And.intro pk2 (And.intro rf2 (And.intro low2 h2)))))
  clear o2 n2 pk2 rf2 low2 h2
  replace P := hid0 (s_P P.out Q.out g4)
  replace RR := hid0 (r_P RR.out Q.out g4)
  replace Q := hid0 q2
  replace FR := hid0 (FR.out.chg g4.wP)
  clear g4 q2
  go_wp2
  go_ret
  obtain ⟨o1, n1, pk1, rf1, low1, h1⟩ := F1.out
  obtain ⟨o2, n2, pk2, rf2, low2, h2⟩ := F2.out
  have T := TR.out
  refine ⟨rfl, t1, t2, _, v2, L ++ [V], ⟨⟨P.out, Q.out, RR.out, o1, o2, same12 T.e2 n1 n2 low1 low2 h1 h2 ?_ rf1 rf2 o1 o2, same13 T.e3 n1 low1 h1 rf1 o1 rfl rfl rfl (by simp) ?_ rfl⟩, VL.out.app hV, TB.out, FR.out.bel, FR.out.lo⟩, by omega, FR.out.ch⟩
  · rw [pk2, pk1, T.e2.pk, ← T.ok1.cL, ← T.ok2.cL]
  · show max s3.pk (L.length + 1) = t1.pk
    rw [pk1, T.e3.pk, T.ok1.cL]
set_option maxHeartbeats 2000000 in
set_option maxRecDepth 100000 in
theorem does_push_full (w0 w : World) (T1 B1 T2 B2 R : Nat) (s1 s2 s3 : RS) (v : Value) (L : List Int) (on V I : Int) (h : St5 w0 w T1 B1 T2 B2 R s1 s2 s3 v L) (hV : in64 V) (hn : L.length = s1.n) (hr : s1.rf < 8000000000000000000) :
    Calls Tryd.prog 10 #[.pointer (some ⟨T1, 0, none⟩), .pointer (some ⟨T2, 0, none⟩), .pointer (some ⟨R, 0, none⟩), stV 1 on V I] w fun e w' => e = .returned (.bool true) ∧ DoesOk w0 w T1 B1 T2 B2 R s1 w' := by
  have k7 := (Bk.new w 43 (stL 1 on V I)).alloc (.cells #[.int .i64 0, .float .f64 0] 38)
  have k10 := Bk.new (w.alloc (.cells (stL 1 on V I).toArray 43)) 38 [.int .i64 0, .float .f64 0]
  have g0 := ((Gr.refl w).alloc (.cells (stL 1 on V I).toArray 43)).alloc (.cells #[.int .i64 0, .float .f64 0] 38)
  rw [World.size_alloc] at k10
  have FR : Hid (Fr w0 w ((w.alloc (.cells (stL 1 on V I).toArray 43)).alloc (.cells #[.int .i64 0, .float .f64 0] 38)) T1 B1 T2 B2 R w.heap.size (w.heap.size + 1) (stL 1 on V I) (.int .i64 0) (.float .f64 0)) := ⟨k7, k10, .of_gr g0, h.bel.trans (g0.below.mono h.bel.size), ⟨Nat.le_refl _, by omega⟩, ⟨h.tri.p.lt.1, h.tri.p.lt.2, h.tri.q.lt.1, h.tri.q.lt.2, h.tri.r.blk.lt⟩, h.lo⟩
  have TR := hid0 (h.tri.gr g0)
  have VL := hid0 h.vals
  have TB := hid0 h.tab0
  clear k7 k10 g0 h
  have sf := run_store_f
  go_enter Tryd.func10, Tryd.ntmps10
  go_upto_region 5 with fail
  obtain ⟨b10, e10⟩ : ∃ b10, b10 = w.heap.size + 1 := ⟨_, rfl⟩
  obtain ⟨b7, e7⟩ : ∃ b7, b7 = w.heap.size := ⟨_, rfl⟩
  rw [← e10] at FR ⊢
  rw [← e7] at FR ⊢
  clear e10 e7
  generalize (w.alloc (.cells (stL 1 on V I).toArray 43)).alloc (.cells #[.int .i64 0, .float .f64 0] 38) = W at *
  have x0 := FR.out.k7.at 0
  simp only [List.getElem?_cons_zero] at x0
  go_upto_region 8 with fail
  clear x0
  have P := hid0 TR.out.p
  have Q := hid0 TR.out.q
  have RR := hid0 TR.out.r
  have x2 := FR.out.k7.at 2
  simp only [List.getElem?_cons_succ, List.getElem?_cons_zero] at x2
  have C := hid0 (rpush_full R s3 v L V W RR.out (by rw [TR.out.e3.n, hn]; exact Nat.le_refl _) (by rw [TR.out.e3.rf]; omega))
  go_wp2_with fail
  refine C.out.mono ?_
  rintro e W1 ⟨rfl, r1, g1⟩
  clear C
  clear x2
  replace P := hid0 (s_R P.out RR.out g1)
  replace Q := hid0 (p_R Q.out RR.out g1)
  replace RR := hid0 r1
  replace FR := hid0 (FR.out.chg g1.wR)
  clear g1 r1
  have x2 := FR.out.k7.at 2
  simp only [List.getElem?_cons_succ, List.getElem?_cons_zero] at x2
  have C := hid0 (text_any V W1 hV (FR.out.tab TB.out))
  go_wp2_with fail
  refine C.out.mono ?_
  rintro e W2 ⟨rfl, g2⟩
  clear C
  clear x2
  replace P := hid0 (P.out.gr g2)
  replace Q := hid0 (Q.out.gr g2)
  replace RR := hid0 (RR.out.gr g2)
  replace FR := hid0 (FR.out.gr g2)
  clear g2
  have C := hid0 (s_push_full T1 B1 s1 V W2 P.out TR.out.ok1.n1 TR.out.ok1.n2 (by rw [← TR.out.ok1.cL]; exact hn) (by omega))
  go_wp2_with fail
  refine C.out.mono ?_
  rintro e W3 ⟨rfl, p2, g3⟩
  clear C
  replace g3 := g3.w1 (B1 := B1)
  replace Q := hid0 (p_S Q.out P.out g3)
  replace RR := hid0 (r_S RR.out P.out g3)
  replace P := hid0 p2
  replace FR := hid0 (FR.out.chg g3.wS)
  clear g3 p2
  have x2 := FR.out.k7.at 2
  simp only [List.getElem?_cons_succ, List.getElem?_cons_zero] at x2
  have C := hid0 (p_push_full T2 B2 s2 V W3 Q.out TR.out.ok2.n1 TR.out.ok2.n2 (by rw [← TR.out.ok2.cL, TR.out.e2.n]; exact hn) (by rw [TR.out.e2.rf]; omega))
  go_wp2_with fail
  refine C.out.mono ?_
  rintro e W4 ⟨rfl, q2, g4⟩
  clear C
  clear x2
  replace g4 := g4.w1 (B1 := B2)
  replace P := hid0 (s_P P.out Q.out g4)
  replace RR := hid0 (r_P RR.out Q.out g4)
  replace Q := hid0 q2
  replace FR := hid0 (FR.out.chg g4.wP)
  clear g4 q2
  go_wp2
  go_ret
  have T := TR.out
  exact ⟨rfl, { s1 with rf := s1.rf + 1 }, { s2 with rf := s2.rf + 1 }, _, v, L, ⟨⟨P.out, Q.out, RR.out, T.ok1.refused (by omega), T.ok2.refused (by rw [T.e2.rf]; omega), ⟨T.e2.n, T.e2.low, T.e2.high, T.e2.pr, T.e2.pk, by show s2.rf + 1 = s1.rf + 1; rw [T.e2.rf]⟩, ⟨T.e3.n, T.e3.low, T.e3.high, T.e3.pr, T.e3.pk, by show s3.rf + 1 = s1.rf + 1; rw [T.e3.rf]⟩⟩, VL.out, TB.out, FR.out.bel, FR.out.lo⟩, Nat.le_refl _, FR.out.ch⟩
end Go.Proofs.YtodlhclaboofiaaDoor
