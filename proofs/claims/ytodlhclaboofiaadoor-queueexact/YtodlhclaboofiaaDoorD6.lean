/- does: All, and all of it. -/
import Derived.Test.YtodlhclaboofiaaDoorD5
set_option linter.unusedSimpArgs false
set_option linter.unusedVariables false
namespace Go.Proofs.YtodlhclaboofiaaDoor
open Go.RowKit Go.Sort

set_option maxHeartbeats 2000000 in
set_option maxRecDepth 100000 in
theorem does_all (w0 w : World) (T1 B1 T2 B2 R : Nat) (s1 s2 s3 : RS) (v : Value) (L : List Int) (on V I : Int) (h : St5 w0 w T1 B1 T2 B2 R s1 s2 s3 v L)  :
    Calls Tryd.prog 10 #[.pointer (some ⟨T1, 0, none⟩), .pointer (some ⟨T2, 0, none⟩), .pointer (some ⟨R, 0, none⟩), stV 9 on V I] w fun e w' => e = .returned (.bool true) ∧ DoesOk w0 w T1 B1 T2 B2 R s1 w' := by
  have k7 := (Bk.new w 43 (stL 9 on V I)).alloc (.cells #[.int .i64 0, .float .f64 0] 38)
  have k10 := Bk.new (w.alloc (.cells (stL 9 on V I).toArray 43)) 38 [.int .i64 0, .float .f64 0]
  have g0 := ((Gr.refl w).alloc (.cells (stL 9 on V I).toArray 43)).alloc (.cells #[.int .i64 0, .float .f64 0] 38)
  rw [World.size_alloc] at k10
  have FR : Hid (Fr w0 w ((w.alloc (.cells (stL 9 on V I).toArray 43)).alloc (.cells #[.int .i64 0, .float .f64 0] 38)) T1 B1 T2 B2 R w.heap.size (w.heap.size + 1) (stL 9 on V I) (.int .i64 0) (.float .f64 0)) := ⟨k7, k10, .of_gr g0, h.bel.trans (g0.below.mono h.bel.size), ⟨Nat.le_refl _, by omega⟩, ⟨h.tri.p.lt.1, h.tri.p.lt.2, h.tri.q.lt.1, h.tri.q.lt.2, h.tri.r.blk.lt⟩, h.lo⟩
  have TR := hid0 (h.tri.gr g0)
  have VL := hid0 h.vals
  have TB := hid0 h.tab0
  clear k7 k10 g0 h
  have sf := run_store_f
  go_enter Tryd.func10, Tryd.ntmps10
  go_upto_region 5 with fail
  obtain ⟨b10, e10⟩ : ∃ b10, b10 = w.heap.size + 1 := ⟨_, rfl⟩
  obtain ⟨b7, e7⟩ : ∃ b7, b7 = w.heap.size := ⟨_, rfl⟩
  rw [← e10] at FR ⊢
  rw [← e7] at FR ⊢
  clear e10 e7
  generalize (w.alloc (.cells (stL 9 on V I).toArray 43)).alloc (.cells #[.int .i64 0, .float .f64 0] 38) = W at *
  have x0 := FR.out.k7.at 0
  simp only [List.getElem?_cons_zero] at x0
  go_upto_region 34 with fail
  clear x0
  have P := hid0 TR.out.p
  have Q := hid0 TR.out.q
  have RR := hid0 TR.out.r
  have gd := (Gr.refl W).drew
  have hL6 : L.length ≤ 65536 := by rw [TR.out.ok1.cL]; have := TR.out.ok1.cn; have := TR.out.ok1.n2; omega
  obtain ⟨ao, cap, rfl⟩ := RR.out.sl
  obtain ⟨rl, hrl, hr0⟩ : ∃ rl, Bk W R 49 rl ∧ rl[0]? = some (.slice ao L.length cap) := ⟨_, RR.out.blk, rfl⟩
  have c0 : ∀ X, Bk X R 49 rl → X.cell? ⟨R, 0, none⟩ = some (.slice ao L.length cap) := fun X k => (k.at 0).trans hr0
  go_wp2_with fail
  go_region_held3 (fun X => Bk X R 49 rl)
    (first
      | exact Bk.gr (by assumption) ((Gr.refl _).drew)
      | exact Bk.gr (by assumption) (by assumption)
      | exact Bk.mono (by assumption) (by assumption) (Bk.lt (by assumption)))
    (first
      | (go_at_call 9; refine (s_all T1 B1 s1 L _ (P.out.gr gd) TR.out.ok1).mono ?_; rintro e X1 ⟨b, N, rfl, hbb, hNN, kk, x1⟩)
      | (go_at_call 12; refine (tells_any b N _ L _ kk ((RR.out.gr gd).gr x1).lst (((FR.out.gr gd).gr x1).tab TB.out) hL6 VL.out).mono ?_; rintro e X2 ⟨rfl, x2⟩))
  have gg := gd.trans x1
  clear hbb hNN kk x1 gd hrl hr0 c0
  replace P := hid0 (P.out.gr gg)
  replace Q := hid0 (Q.out.gr gg)
  replace RR := hid0 (RR.out.gr gg)
  replace FR := hid0 (FR.out.gr gg)
  clear gg
  replace P := hid0 (P.out.below x2)
  replace Q := hid0 (Q.out.below x2)
  replace RR := hid0 (RR.out.below x2)
  replace FR := hid0 (FR.out.chg (.of_below x2))
  clear x2
  go_wp2
  go_ret
  have T := TR.out
  exact ⟨rfl, s1, s2, s3, _, L, ⟨⟨P.out, Q.out, RR.out, T.ok1, T.ok2, T.e2, T.e3⟩, VL.out, TB.out, FR.out.bel, FR.out.lo⟩, by omega, FR.out.ch⟩
theorem nat_of {I : Int} (h : 0 ≤ I) : I = ((I.toNat : Nat) : Int) := by omega
theorem does_any (w0 w : World) (T1 B1 T2 B2 R : Nat) (s1 s2 s3 : RS) (v : Value) (L : List Int) (kd on V I : Int) (h : St5 w0 w T1 B1 T2 B2 R s1 s2 s3 v L) (hV : in64 V) (hr : s1.rf < 8000000000000000000) :
    Calls Tryd.prog 10 #[.pointer (some ⟨T1, 0, none⟩), .pointer (some ⟨T2, 0, none⟩), .pointer (some ⟨R, 0, none⟩), stV kd on V I] w fun e w' => e = .returned (.bool true) ∧ DoesOk w0 w T1 B1 T2 B2 R s1 w' := by
  by_cases k1 : kd = 1
  · subst k1
    by_cases hn : L.length < s1.n
    · exact does_push_yes w0 w T1 B1 T2 B2 R s1 s2 s3 v L on V I h hV hn
    · exact does_push_full w0 w T1 B1 T2 B2 R s1 s2 s3 v L on V I h hV (by have := h.tri.ok1.cL; have := h.tri.ok1.cn; omega) hr
  by_cases k2 : kd = 2
  · subst k2
    cases L with
    | nil => exact does_pop_no w0 w T1 B1 T2 B2 R s1 s2 s3 v [] on V I h rfl
    | cons x M => exact does_pop_yes w0 w T1 B1 T2 B2 R s1 s2 s3 v (x :: M) on V I h x M rfl
  by_cases k3 : kd = 3
  · subst k3
    by_cases hI : I < 0 ∨ (L.length : Int) ≤ I
    · exact does_at_no w0 w T1 B1 T2 B2 R s1 s2 s3 v L on V I h hI
    · obtain ⟨i, rfl⟩ : ∃ i : Nat, I = (i : Int) := ⟨I.toNat, by omega⟩
      have hi : i < L.length := by omega
      exact does_at_yes i w0 w T1 B1 T2 B2 R s1 s2 s3 v L on V h L[i] (List.getElem?_eq_getElem hi)
  by_cases k4 : kd = 4
  · subst k4
    by_cases hI : I < 0 ∨ (L.length : Int) ≤ I
    · exact does_set_no w0 w T1 B1 T2 B2 R s1 s2 s3 v L on V I h hV hI
    · obtain ⟨i, rfl⟩ : ∃ i : Nat, I = (i : Int) := ⟨I.toNat, by omega⟩
      exact does_set_yes i w0 w T1 B1 T2 B2 R s1 s2 s3 v L on V h hV (by omega)
  by_cases k5 : kd = 5
  · subst k5
    by_cases hI : I < 0 ∨ (L.length : Int) ≤ I
    · exact does_cut_no w0 w T1 B1 T2 B2 R s1 s2 s3 v L on V I h hI
    · obtain ⟨i, rfl⟩ : ∃ i : Nat, I = (i : Int) := ⟨I.toNat, by omega⟩
      have hi : i < L.length := by omega
      exact does_cut_yes i w0 w T1 B1 T2 B2 R s1 s2 s3 v L on V h L[i] (List.getElem?_eq_getElem hi)
  by_cases k6 : kd = 6
  · subst k6
    exact does_drop w0 w T1 B1 T2 B2 R s1 s2 s3 v L on V I h (min (max I 0) (L.length : Int)).toNat (by show (_ : Int) = _; omega)
  by_cases k7 : kd = 7
  · subst k7
    exact does_books w0 w T1 B1 T2 B2 R s1 s2 s3 v L on V I h
  by_cases k8 : kd = 8
  · subst k8
    by_cases hm : I < 0 ∨ V ≤ I ∨ (s1.n : Int) < V
    · exact does_mark_no w0 w T1 B1 T2 B2 R s1 s2 s3 v L on V I h hm
    · exact does_mark_yes w0 w T1 B1 T2 B2 R s1 s2 s3 v L on V I h (by omega) (by omega) (by omega)
  by_cases k9 : kd = 9
  · subst k9
    exact does_all w0 w T1 B1 T2 B2 R s1 s2 s3 v L on V I h
  exact does_none w0 w T1 B1 T2 B2 R s1 s2 s3 v L on V I h kd (by simpa using k1) (by simpa using k2) (by simpa using k3) (by simpa using k4) (by simpa using k5) (by simpa using k6) (by simpa using k7) (by simpa using k8) (by simpa using k9)
end Go.Proofs.YtodlhclaboofiaaDoor
