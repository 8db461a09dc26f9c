/- cut of Dues. -/
import Derived.Test.YtaapdkjmlplhgaaSe
set_option linter.unusedSimpArgs false
set_option linter.unusedVariables false
namespace Go.Proofs.Ytaapdkjmlplhgaa
open Go.RowKit Go.Sort Go.Shelf Go.Maps
attribute [local go_sem] Oper.semAt_some wide_fn
attribute [local simp] wide_fn

set_option maxHeartbeats 2000000 in
set_option maxRecDepth 100000 in
theorem dcut_any {B : Nat} {w : World} {d h pb mb : Nat} {v : Value} {l : List Du} {m : Pf} {most : Nat} (D : Ds B w d h pb mb v l m most) (i : Nat) (hi : i < l.length) :
    Calls Try.prog 33 #[.pointer (some ⟨d, 0, none⟩), .int .i64 i] w fun e w' => e = .returned (dV (nth l i)) ∧
      ∃ v' l' m', Ds B w' d h pb mb v' l' m' most ∧ (∀ y, y ∈ l' ↔ y ∈ l ∧ y.2 ≠ (nth l i).2) ∧ l'.length + 1 = l.length ∧ DCh h mb v v' w w' := by
  have hxo : okD (nth l i) := D.pd.ok _ (mem_nth.2 ⟨i, hi, rfl⟩)
  have g0 := (Gr.refl w).alloc (.cells #[.int .u32 0, .int .u32 0, .int .u32 0] 32)
  have k4 := Bk.new w 32 [.int .u32 0, .int .u32 0, .int .u32 0]
  have D1 := D.gr g0
  have hdw := D.due.lt
  have hhw := D.hv.heap.lt
  have hmw := D.hv.map.lt
  have hpw := D.hv.cap.lt
  have hgw := fun g e => (row_lt D.hv.row (g := g) e).1
  clear D
  obtain ⟨x, hx⟩ : ∃ x, x = nth l i := ⟨_, rfl⟩
  rw [← hx] at hxo ⊢
  obtain ⟨xa, xo, xf⟩ := x
  dsimp only
  have HX := hid0 hx
  clear hx
  go_enter Try.func33, Try.ntmps33
  go_upto_region 1 with fail
  generalize w.alloc _ = W at *
  obtain ⟨b4, e4⟩ : ∃ b4, b4 = w.heap.size := ⟨_, rfl⟩
  rw [← e4] at k4 ⊢
  have hb4 : w.heap.size ≤ b4 := by omega
  clear e4
  have hmo := D1.mo
  obtain ⟨g, cp, rfl, hBg, R, hcp⟩ : ∃ g cp, v = .slice (some ⟨g, 0, none⟩) l.length cp ∧ B ≤ g ∧ RowG W g cp l ∧ l.length ≤ cp := by
    rcases D1.shape with ⟨_, rfl⟩ | h
    · simp at hi
    · exact h
  have hgw' := hgw g rfl
  have HS := D1.hv.hs.1
  obtain ⟨k, hk⟩ : ∃ k, l.length = k + 1 := ⟨l.length - 1, by omega⟩
  have HC := hcut_any h pb mb g cp l l.length m i k W HS hk hi (by omega) (by omega) D1.pd.heap D1.pd.ok D1.pd.tie
  obtain ⟨c0, c1, c2, c3⟩ := D1.cells
  clear R
  rw [← HX.out] at HC
  replace HC := hid0 HC
  go_wp2_with fail
  refine HC.out.mono ?_
  rintro e w1 ⟨rfl, l', m', CI, H1, C1⟩
  have hd1 : d ≠ h := fun e => by subst e; have := bk_ty D1.due D1.hv.heap; cases this
  have hd2 : d ≠ mb := fun e => by subst e; obtain ⟨es, c, hm⟩ := D1.hv.map.isMap; exact bk_map D1.due hm
  have hd3 : d ≠ g := fun e => by subst e; obtain ⟨_, _, cur, hr⟩ := row_lt D1.hv.row (g := d) rfl; have := bk_ty D1.due hr; cases this
  have due1 := D1.due.chg C1 (by rintro (e | e | e); exact hd1 e; exact hd2 e; exact hd3 e)
  have k41 := k4.chg C1 (by rintro (e | e | e) <;> omega)
  have PC := D1.pd.cut hi CI
  rw [← HX.out] at PC
  obtain ⟨P', M', L'⟩ := PC
  have hmi : m' (xo, xf) = some i := by
    have := CI.keep (xo, xf) (fun y hy e => by
      obtain ⟨j, h1, h2, h3⟩ := hy
      have a := D1.pd.tie j h1
      have b := D1.pd.tie i hi
      rw [h3, e] at a
      rw [← HX.out] at b
      rw [show m (xo, xf) = some i from b] at a
      exact h2 (Option.some.inj a).symm)
    rw [this]
    have b := D1.pd.tie i hi
    rw [← HX.out] at b
    exact b
  have lo := D1.lo
  have CX : Chg (fun j => j = h ∨ j = mb ∨ j = g) w w1 := (Chg.of_gr g0).trans C1
  have ga := (Gr.refl w1).alloc (.cells #[.int .u32 xa, .int .u32 xo, .int .u32 xf] 32)
  have k5 := Bk.new w1 32 [.int .u32 xa, .int .u32 xo, .int .u32 xf]
  have due2 := due1.gr ga
  have k42 := k41.gr ga
  have H2 := H1.gr ga
  have CX2 := CX.gr ga
  have hb5 : w.heap.size ≤ w1.heap.size := CX.size
  have hb45 : b4 ≠ w1.heap.size := by have := k41.lt; omega
  clear D1 c0 c1 c2 c3 HC CI H1 C1 due1 k41 CX ga k4 g0 HS
  go_upto_region 2 with fail
  generalize w1.alloc _ = X1 at *
  obtain ⟨b5, e5⟩ : ∃ b5, b5 = w1.heap.size := ⟨_, rfl⟩
  rw [← e5] at k5 hb5 hb45 ⊢
  clear e5
  have c2 := cell_gr (due2.at 2)
  have x0 := cell_gr (k5.at 0)
  have x1 := cell_gr (k5.at 1)
  have x2 := cell_gr (k5.at 2)
  have OF : Hid (∀ n os, Calls Try.prog 20 #[dV (xa, xo, xf)] (grow (X1.drewN n) os) fun e w' => e = .returned (kV (xo, xf)) ∧ ∃ p : GrownBy, w' = grow (X1.drewN p.n) p.os) := fun n os => calmG n os (of_any (xa, xo, xf) _)
  obtain ⟨nF, hnF⟩ : ∃ nF : Nat, 5 ≤ nF := ⟨5, by omega⟩
  have h1n : 1 ≤ nF := by omega
  refine (wpIn_wide (n := nF)).1 ?_
  refine region_head_grown 6 (by kernel_rfl) (by kernel_rfl) (by simp) (by kernel_rfl) ?_
  simp only [List.take_succ_cons, List.take_zero, List.drop_succ_cons, List.drop_zero]
  repeat (gi_big_quiet_step (fail))
  refine BigFrame.wpQuietIn_want (by intro w _ f hf; exact trivial) (by rfl) ?_
  intro K hK
  gi_big_quiet_op
  gi_big_quiet_call (exact callsIn_wide.2 (OF.out _ _))
  repeat (gi_big_quiet_step (fail))
  refine wpQuietIn_nil ?_
  intro _ hw'
  obtain ⟨⟨nq, osq⟩, hw''⟩ := hw'
  subst hw''
  have g2 : Gr X1 (grow (X1.drewN nq) osq) := ⟨nq, osq, rfl⟩
  have due3 := due2.gr g2
  have k43 := k42.gr g2
  have k53 := k5.gr g2
  have H3 := H2.gr g2
  have CX3 := CX2.gr g2
  clear c2 x0 x1 x2 OF due2 k42 k5 H2 CX2 g2
  generalize grow (X1.drewN nq) osq = X2 at *
  obtain ⟨Dm, hDm, hDs, hDq⟩ := H3.map
  refine wpListIn_delete_own _ rfl _ _ 52 57 rfl 3 m_law Try.underlying52 _ mb l.length Dm rfl hDm _ _ rfl (key_of hxo.2) ?_
  intro w5 hown5 hturn5
  have M5 := MapF.del hxo.2 hDm hDs hDq hown5
  rw [hmi] at M5
  simp only [Option.isSome_some, if_true] at M5
  rw [show l.length - 1 = l'.length by omega] at M5
  have C5 := Chg.grown hturn5.grown
  obtain ⟨n1, n2, n3, n4, n5⟩ := H3.ne
  have due5 := due3.chg C5 hd2
  have k45 := k43.chg C5 (by omega)
  have k55 := k53.chg C5 (by omega)
  have H5 : Hs w5 h pb mb g cp l' l'.length (upd m' (xo, xf) none) :=
    ⟨H3.heap.chg C5 n3, H3.cap.chg C5 n4, H3.row.same (C5.block _ H3.row.lt n5), M5⟩
  have CX5 : Chg (fun j => j = h ∨ j = mb ∨ j = g) w w5 := CX3.trans (C5.wide (fun j _ e => .inr (.inl e)))
  have y0 := k55.at 0
  have y1 := k55.at 1
  have y2 := k55.at 2
  have z0 := k45.at 0
  have z1 := k45.at 1
  have z2 := k45.at 2
  have f0 := k45.frozen 0
  have f1 := k45.frozen 1
  have f2 := k45.frozen 2
  simp only [List.getElem?_cons_zero, List.getElem?_cons_succ] at y0 y1 y2 z0 z1 z2
  have K6 := hid0 (put3_bk (x := (xa, xo, xf)) (y := (0, 0, 0)) k45)
  have o4 : ∀ j, j ≠ b4 → (put3 w5 b4 0 (xa, xo, xf)).heap[j]? = w5.heap[j]? := fun j hj => put3_other hj
  have H6 : Hs (put3 w5 b4 0 (xa, xo, xf)) h pb mb g cp l' l'.length (upd m' (xo, xf) none) :=
    ⟨H5.heap.same (o4 _ (by omega)), H5.cap.same (o4 _ (by omega)), H5.row.same (o4 _ (by omega)), H5.map.same (o4 _ (by omega))⟩
  have C6 : Chg (fun j => j = h ∨ j = mb ∨ j = g) w (put3 w5 b4 0 (xa, xo, xf)) := CX5.next (put3_chg (p := fun j => j = b4) (Chg.refl _ _) rfl) (fun j hj e => by omega)
  have F : Hid (∃ v' l' m', Ds B (put3 w5 b4 0 (xa, xo, xf)) d h pb mb v' l' m' most ∧ (∀ y, y ∈ l' ↔ y ∈ l ∧ y.2 ≠ (xo, xf)) ∧ l'.length + 1 = l.length ∧ DCh h mb (.slice (some ⟨g, 0, none⟩) l.length cp) v' w (put3 w5 b4 0 (xa, xo, xf))) := by
    refine ⟨.slice (some ⟨g, 0, none⟩) l'.length cp, l', upd m' (xo, xf) none, ⟨due5.same (o4 _ (by omega)), H6.hv hBg, P', lo, by omega, hmo.2⟩, M', L', ?_, ?_⟩
    · exact C6.wide (fun j _ e => by rcases e with e | e | e; exact .inl e; exact .inr (.inl e); exact .inr (.inr (by rw [e]; rfl)))
    · intro g' e
      exact .inl e
  clear k43 k53 H3 CX3 due3 hDm hDs hDq hown5 hturn5 M5 C5 due5 k45 k55 H5 CX5 H6 C6 o4 P' M' L'
  gi_wp2
  go_wp2
  clear y0 y1 y2 z0 z1 z2 f0 f1 f2
  dsimp only [put3, Nat.zero_add] at K6 F
  generalize World.setCell _ _ _ = X at *
  have k3 := K6.out
  have q0 := k3.at 0
  have q1 := k3.at 1
  have q2 := k3.at 2
  simp only [List.getElem?_cons_zero, List.getElem?_cons_succ] at q0 q1 q2
  refine bodyPost_ret (v := dV (xa, xo, xf)) (by simp [results, Try.results33, go_sem, q0, q1, q2]) rfl ⟨rfl, F.out⟩
end Go.Proofs.Ytaapdkjmlplhgaa
