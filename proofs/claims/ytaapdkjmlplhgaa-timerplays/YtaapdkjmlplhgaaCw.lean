/- cutAll, CutObject, CutFence. -/
import Derived.Test.YtaapdkjmlplhgaaCa
import Derived.Lib.QuietBelowIn
set_option linter.unusedSimpArgs false
set_option linter.unusedVariables false
namespace Go.Proofs.Ytaapdkjmlplhgaa
open Go.RowKit Go.Sort Go.Shelf
attribute [local go_sem] Oper.semAt_some wide_fn
attribute [local simp] wide_fn

set_option maxRecDepth 100000 in
set_option maxHeartbeats 8000000 in
theorem cutAll_in {B : Nat} {w : World} {d h pb mb : Nat} {v : Value} {l L : List Du} {m : Pf} {most : Nat} (D : Ds B w d h pb mb v l m most) (S : SortOf L l) (c fb : Nat) (x0 : Int) (P : Du → Bool) (hf : Bk w fb 30 [.int .u32 x0])
    (hen : ∀ args W, (callFunc c args).run Try.prog W = .ok (.enter c args) W)
    (hc : ∀ W y, Bk W fb 30 [.int .u32 x0] → Calls Try.prog c #[dV y, .pointer (some ⟨fb, 0, none⟩)] W fun e W' => e = .returned (.bool (P y)) ∧ Gr W W') :
    CallsIn Fence.wide 20 Try.prog 38 #[.pointer (some ⟨d, 0, none⟩), .func (.func c) #[] #[.pointer (some ⟨fb, 0, none⟩)]] w fun e w' => e = .returned (.int .i64 ((L.filter P).length : Nat)) ∧
      ∃ v' l' m', Ds B w' d h pb mb v' l' m' most ∧ (∀ y, y ∈ l' ↔ y ∈ l ∧ P y = false) ∧ DCh h mb v v' w w' := by
  have g0 := ((Gr.refl w).alloc (.cells #[.pointer (some ⟨d, 0, none⟩)] 23)).alloc (.cells #[.func (.func c) #[] #[.pointer (some ⟨fb, 0, none⟩)]] 55)
  have g1 := g0.alloc (.cells #[.int .i64 0] 3)
  have k2 := ((Bk.new w 23 [.pointer (some ⟨d, 0, none⟩)]).alloc (.cells #[.func (.func c) #[] #[.pointer (some ⟨fb, 0, none⟩)]] 55)).alloc (.cells #[.int .i64 0] 3)
  have k3 := (Bk.new (w.alloc (.cells #[.pointer (some ⟨d, 0, none⟩)] 23)) 55 [.func (.func c) #[] #[.pointer (some ⟨fb, 0, none⟩)]]).alloc (.cells #[.int .i64 0] 3)
  have k5 := Bk.new ((w.alloc (.cells #[.pointer (some ⟨d, 0, none⟩)] 23)).alloc (.cells #[.func (.func c) #[] #[.pointer (some ⟨fb, 0, none⟩)]] 55)) 3 [.int .i64 0]
  rw [World.size_alloc] at k3
  rw [World.size_alloc, World.size_alloc] at k5
  have C1 := hid0 (all_any (some ⟨d, 0, none⟩) (((w.alloc (.cells #[.pointer (some ⟨d, 0, none⟩)] 23)).alloc (.cells #[.func (.func c) #[] #[.pointer (some ⟨fb, 0, none⟩)]] 55)).alloc (.cells #[.int .i64 0] 3)))
  have hLm : L.length ≤ 4096 := by have := S.len D.pd; have := D.mo; omega
  refine callsIn_of_wp_marks Try.func38 rfl trivial ?_ rfl
  simp only [Try.ntmps38, List.size_toArray, List.length_cons, List.length_nil, Nat.reduceAdd, Nat.reduceSub, Array.replicate_succ, Array.replicate_zero, List.push_toArray, List.append_toArray, List.nil_append, List.cons_append]
  have z2 := k2.one
  gi_wp2_with fail
  refine (callsIn_wide.2 C1.out).mono ?_
  rintro e w2 ⟨bt, rfl, hbt, kt, g3⟩
  replace k2 := k2.gr g3
  replace k3 := k3.gr g3
  replace k5 := k5.gr g3
  replace g1 := g1.trans g3
  replace hf := hf.gr g1
  have D2 := D.gr g1
  clear g3 C1 g0 z2
  dsimp only
  obtain ⟨b2, e2⟩ : ∃ b2, b2 = w.heap.size := ⟨_, rfl⟩
  obtain ⟨b3, e3⟩ : ∃ b3, b3 = w.heap.size + 1 := ⟨_, rfl⟩
  obtain ⟨b5, e5⟩ : ∃ b5, b5 = w.heap.size + 1 + 1 := ⟨_, rfl⟩
  have hb5 : w.heap.size ≤ b5 := by omega
  rw [← e5] at k5 ⊢
  rw [← e3] at k3 ⊢
  rw [← e2] at k2 ⊢
  clear e2 e3 e5
  have SQ := all1_seq 19 bt (by omega) (.pointer (some ⟨d, 0, none⟩)) L hLm w2 kt (fun _ => False) (fun W g => sorted_yes (D2.gr g) L S)
  have e34 : ∀ args w, (callFunc 34 args).run Try.prog w = .ok (.enter 34 args) w := enters_of Try.func34 (by kernel_rfl) rfl
  have hmw := D2.hv.map.lt
  have W0 : Wk B w w2 d h pb mb most b2 b3 b5 c fb x0 P l v (fun _ => False) [] w2 :=
    ⟨k2, k3, hf, k5, ⟨v, l, m, D2, fun y => by simp, ⟨Chg.of_gr g1, fun g e => .inl e⟩, fun b hb => hb.elim⟩, fun b hb => hb.elim, hb5, g1.size, hmw⟩
  replace hc := hid0 hc
  replace hen := hid0 hen
  clear D D2 k2 k3 k5 kt hf
  gi_wp2_with fail
  refine range_out (p0 := fun _ => False) (L := L) (encs := dE) (I := Wk B w w2 d h pb mb most b2 b3 b5 c fb x0 P l v) (Ix := fun _ _ _ => False)
    (Ax := fun x a' A => ∃ b6, Bk A b6 32 (dL x) ∧ a' = { tmps := #[.pointer (some ⟨d, 0, none⟩), .func (.func c) #[] #[.pointer (some ⟨fb, 0, none⟩)], .pointer (some ⟨b2, 0, none⟩), .pointer (some ⟨b3, 0, none⟩), .int .i64 0, .pointer (some ⟨b5, 0, none⟩), .pointer (some ⟨b6, 0, none⟩), .pointer (some ⟨d, 0, none⟩), .func (.func 34) #[] #[.pointer (some ⟨bt, 0, none⟩)], dV x, undef, undef, undef, undef, undef, undef, undef, undef, undef, undef, undef, undef, undef, undef], defers := [] })
    rfl e34 SQ ?owes (fun _ => False) (fun _ h => h) (fun _ h => h.elim) W0 ?done ?stop
  case stop =>
    rintro D c pre A hD hpre hx hK
    exact hx.elim
  case owes =>
    clear SQ e34 W0
    refine ⟨wk_con, fun c s A A' row h _ _ => h, fun x a' _ A A' row h hg hr => ?_, fun _ => rfl, ?_, ?_⟩
    · obtain ⟨b6, h1, h2⟩ := h
      exact ⟨b6, h1.chg (Chg.grownR hg) (fun e => by
        obtain ⟨o, h3, h4⟩ := (hr b6 e).2
        unfold Bk at h1
        rw [h1] at h3
        cases h3
        cases h4), h2⟩
    · intro li p pre x W K hp hpb hI hs hK
      obtain ⟨xa, xo, xf⟩ := x
      have HK := hid0 hK
      have HI := hid0 hI
      clear hK hI
      simp only [dE, dV]
      gi_wp2_with fail
      have g := (Gr.refl W).alloc (.cells #[.int .u32 xa, .int .u32 xo, .int .u32 xf] 32)
      exact HK.out _ _ (g.from _) (Kp.gr hpb g) (wk_con.gr HI.out g) ⟨W.heap.size, Bk.new _ _ _, rfl⟩
    · intro li p pre x a' W hli hrl hp hpb hI hA hpre
      obtain ⟨b6, k6, rfl⟩ := hA
      obtain ⟨k2, k3, kf, k5, ⟨v1, lst, m1, D1, M1, C1, pp⟩, p5, lo⟩ := hI
      have hx := hid0 (told_in S hpre M1)
      have hfl : (pre.filter P).length ≤ 4096 := by
        obtain ⟨t, ht⟩ := hpre
        have h1 := List.length_filter_le P pre
        have h2 : (pre ++ [x] ++ t).length = L.length := by rw [ht]
        simp only [List.length_append] at h2
        omega
      obtain ⟨n, hn⟩ : ∃ n, n = (pre.filter P).length := ⟨_, rfl⟩
      rw [← hn] at k5 hfl
      have HN := hid0 hn
      clear hn hpre
      have CL := hid0 (hc.out W x kf)
      have en := hen.out
      have y3 := k3.one
      have x0' := k6.at 0
      have x1 := k6.at 1
      have x2 := k6.at 2
      have hPx : ∃ q, P x = q := ⟨_, rfl⟩
      obtain ⟨q, hq⟩ := hPx
      rw [hq] at CL
      replace hq := hid0 hq
      obtain ⟨xa, xo, xf⟩ := x
      simp only [dL, List.getElem?_cons_zero, List.getElem?_cons_succ] at x0' x1 x2
      dsimp only [dV] at CL
      cases q with
      | false =>
        have hcnt : ((pre ++ [(xa, xo, xf)]).filter P).length = n := by
          rw [List.filter_append, List.length_append, ← HN.out]
          simp [hq.out]
        replace hcnt := hid0 hcnt
        have HD := hid0 D1
        have HM := hid0 M1
        have HC := hid0 C1
        clear D1 M1 C1 hx
        gi_wp2_with fail
        refine (CallsIn.inRound li (callsIn_wide.2 CL.out)).mono ?_
        rintro e W1 ⟨rfl, g1⟩
        have F : Hid (Wk B w w2 d h pb mb most b2 b3 b5 c fb x0 P l v p (pre ++ [(xa, xo, xf)]) W1) :=
          ⟨k2.gr g1, k3.gr g1, kf.gr g1, by rw [hcnt.out]; exact k5.gr g1, ⟨v1, lst, m1, HD.out.gr g1, mem_skip hq.out HM.out, HC.out.far' (q := fun _ => False) (Chg.of_gr g1) (fun _ h => h.elim), pp⟩, p5, lo⟩
        have K1 := hid0 (g1.from w2.heap.size)
        have K2 := hid0 (Kp.gr hpb g1)
        clear CL g1 k2 k3 kf k5 pp p5 lo HD HM HC y3 x0' x1 x2 k6
        gi_wp2
        exact ⟨K1.out, K2.out, F.out⟩
      | true =>
        have hcnt : ((pre ++ [(xa, xo, xf)]).filter P).length = n + 1 := by
          rw [List.filter_append, List.length_append, ← HN.out]
          simp [hq.out]
        replace hcnt := hid0 hcnt
        obtain ⟨j, hj⟩ := (D1.pd.has (xo, xf)).2 ⟨_, hx.out, rfl⟩
        have hk := (D1.pd.ok _ hx.out).2
        have CT := hid0 (fun W1 (g : Gr W W1) => cut_some (D1.gr g) (xo, xf) hk hj)
        have HD := hid0 D1
        have HM := hid0 M1
        have HC := hid0 C1
        clear D1 M1 C1 hk hj
        gi_wp2_with fail
        refine (CallsIn.inRound li (callsIn_wide.2 CL.out)).mono ?_
        rintro e W1 ⟨rfl, g1⟩
        replace CT := hid0 (CT.out W1 g1)
        have K1 := g1.from w2.heap.size
        have K2 := Kp.gr hpb g1
        have D1 := HD.out.gr g1
        have hpb1 : ∀ b, p b → b < W1.heap.size := fun b hb => Nat.lt_of_lt_of_le (hpb b hb) g1.size
        replace HC := hid0 (HC.out.far' (q := fun _ => False) (Chg.of_gr g1) (fun _ h => h.elim))
        replace k2 := k2.gr g1
        replace k3 := k3.gr g1
        replace kf := kf.gr g1
        replace k5 := k5.gr g1
        replace k6 := k6.gr g1
        clear CL g1 y3 x0' x1 x2 HD
        have HD := hid0 D1
        have HK1 := hid0 K1
        have HK2 := hid0 K2
        clear D1 K1 K2
        have y2 := k2.one
        have x1 := k6.at 1
        have x2 := k6.at 2
        simp only [dL, List.getElem?_cons_zero, List.getElem?_cons_succ] at x1 x2
        gi_wp2_with fail
        refine (CallsIn.inRound li (callsIn_wide.2 CT.out)).mono ?_
        rintro e W2 ⟨rfl, v3, l3, m3, D3, M3, L3, C3⟩
        have D1 := HD.out
        replace k2 := C3.kept D1 k2 (by decide) (by decide)
        replace k3 := C3.kept D1 k3 (by decide) (by decide)
        replace kf := C3.kept D1 kf (by decide) (by decide)
        replace k5 := C3.kept D1 k5 (by decide) (by decide)
        obtain ⟨K3, K4⟩ := C3.keeps D1 lo.2.2 hpb1 pp
        have pp3 : ∀ b, p b → b ≠ h ∧ b ≠ mb ∧ v3.ownBlock ≠ some b := fun b hb => (C3.far (hpb1 b hb) (pp b hb)).2
        have M4 := mem_cut D1.pd hq.out hx.out HM.out M3
        have C4 := HC.out.tr C3
        have ne : ∀ {b t : Nat} {cs : List Value}, Bk W2 b t cs → t ≠ 3 → b ≠ b5 := fun k hn e => by rw [e] at k; exact hn (bk_ty k k5)
        have CS : Chg (fun k => k = b5) W2 (W2.setCell ⟨b5, 0, none⟩ (.int .i64 ((n : Int) + 1))) := Chg.set (p := fun k => k = b5) W2 (a := ⟨b5, 0, none⟩) rfl _
        have D5 := D3.chg CS (ne D3.due (by decide)) (ne D3.hv.heap (by decide)) (ne D3.hv.cap (by decide)) (fun g e => by obtain ⟨_, _, cur, hr⟩ := row_lt D3.hv.row e; exact ne hr (by decide)) (fun e => by
          obtain ⟨es, c, hm⟩ := D3.hv.map.isMap
          rw [e] at hm
          exact bk_map k5 hm)
        obtain ⟨K5, K6⟩ := set_keeps (X := w2) (i := 0) k5 p5 (.int .i64 ((n : Int) + 1))
        have k5' := k5.set 0 (.int .i64 ((n : Int) + 1))
        have F : Hid (Wk B w w2 d h pb mb most b2 b3 b5 c fb x0 P l v p (pre ++ [(xa, xo, xf)]) (W2.setCell ⟨b5, 0, none⟩ (.int .i64 ((n : Int) + 1)))) :=
          ⟨k2.other (ne k2 (by decide)) _, k3.other (ne k3 (by decide)) _, kf.other (ne kf (by decide)) _, by rw [hcnt.out]; exact k5', ⟨v3, l3, m3, D5, M4, C4.far' CS (fun k e => by rw [e]; exact lo.1), pp3⟩, p5, lo⟩
        have K7 := hid0 ((HK1.out.trans K3).trans K5)
        have K8 := hid0 ((HK2.out.t K4).t K6)
        have y5 := k5.one
        have f5 := k5.frozen 0
        have hwn : wrap64 ((n : Int) + 1) = (n : Int) + 1 := by unfold wrap64; omega
        clear CT HD D1 k2 k3 kf K3 K4 pp3 M4 C4 ne CS D5 K5 K6 k5' D3 M3 L3 C3 HM HC y2 x1 x2 k6 HK1 HK2 pp p5 lo hx k5
        gi_wp2

        exact ⟨K7.out, K8.out, F.out⟩
  case done =>
    rintro DD q A hDD hI hpq hDd
    obtain ⟨k2, k3, kf, k5, ⟨v1, lst, m1, D1, M1, C1, pp⟩, p5, lo⟩ := hI
    have y5 := k5.one
    have g2 := Chg.grown (grownBy_putObj' A DD (.deferred none))
    have nD : ∀ b t cs, Bk A b t cs → ¬ b = DD := fun b t cs k e => by
      rw [e] at k
      unfold Bk at k
      rw [hDd] at k
      cases k
    have FD := hid0 (D1.far g2 nD (by omega))
    have FM : Hid (∀ y, y ∈ lst ↔ y ∈ l ∧ P y = false) := fun y => by
      rw [M1 y, ← S.mem y]
      cases hP : P y <;> simp
    have FC := hid0 (C1.far' g2 (fun k e => by rw [e]; omega))
    clear SQ e34 W0 k2 k3 kf k5 D1 M1 C1 pp p5 lo g2 nD hpq
    obtain ⟨r, hr⟩ : ∃ r, r = (L.filter P).length := ⟨_, rfl⟩
    rw [← hr] at y5
    replace hr := hid0 hr
    gi_wp2
    refine ⟨by simp, .inl ⟨_, _, rfl, run_takeDeferred hDd, ?_⟩⟩
    exact ⟨.int .i64 r, by simp [results, Try.results38, go_sem], by rw [hr.out], _, _, _, FD.out, FM.out, FC.out⟩
theorem cutAll_some {B : Nat} {w : World} {d h pb mb : Nat} {v : Value} {l L : List Du} {m : Pf} {most : Nat} (D : Ds B w d h pb mb v l m most) (S : SortOf L l) (c fb : Nat) (x0 : Int) (P : Du → Bool) (hf : Bk w fb 30 [.int .u32 x0])
    (hen : ∀ args W, (callFunc c args).run Try.prog W = .ok (.enter c args) W)
    (hc : ∀ W y, Bk W fb 30 [.int .u32 x0] → Calls Try.prog c #[dV y, .pointer (some ⟨fb, 0, none⟩)] W fun e W' => e = .returned (.bool (P y)) ∧ Gr W W') :
    Calls Try.prog 38 #[.pointer (some ⟨d, 0, none⟩), .func (.func c) #[] #[.pointer (some ⟨fb, 0, none⟩)]] w fun e w' => e = .returned (.int .i64 ((L.filter P).length : Nat)) ∧
      ∃ v' l' m', Ds B w' d h pb mb v' l' m' most ∧ (∀ y, y ∈ l' ↔ y ∈ l ∧ P y = false) ∧ DCh h mb v v' w w' :=
  callsIn_wide.1 (cutAll_in D S c fb x0 P hf hen hc)
theorem cob_pred (x : Int) (y : Du) (W : World) (fb : Nat) (hf : Bk W fb 30 [.int .u32 x]) : Calls Try.prog 39 #[dV y, .pointer (some ⟨fb, 0, none⟩)] W fun e W' => e = .returned (.bool (decide (y.2.1 = x))) ∧ Gr W W' := by
  obtain ⟨ya, yo, yf⟩ := y
  have y0 := hf.one
  have g := hid0 ((Gr.refl W).alloc (.cells #[.int .u32 ya, .int .u32 yo, .int .u32 yf] 32))
  have z := hid0 ((hf.gr g.out).one)
  go_enter Try.func39, Try.ntmps39
  have z := z.out
  go_wp2
  go_ret
  exact ⟨by rfl, g.out⟩
theorem cfe_pred (x : Int) (y : Du) (W : World) (fb : Nat) (hf : Bk W fb 30 [.int .u32 x]) : Calls Try.prog 40 #[dV y, .pointer (some ⟨fb, 0, none⟩)] W fun e W' => e = .returned (.bool (decide (y.2.2 = x))) ∧ Gr W W' := by
  obtain ⟨ya, yo, yf⟩ := y
  have y0 := hf.one
  have g := hid0 ((Gr.refl W).alloc (.cells #[.int .u32 ya, .int .u32 yo, .int .u32 yf] 32))
  have z := hid0 ((hf.gr g.out).one)
  go_enter Try.func40, Try.ntmps40
  have z := z.out
  go_wp2
  go_ret
  exact ⟨by rfl, g.out⟩
theorem cutOb_some {B : Nat} {w : World} {d h pb mb : Nat} {v : Value} {l L : List Du} {m : Pf} {most : Nat} (D : Ds B w d h pb mb v l m most) (S : SortOf L l) (x : Int) :
    Calls Try.prog 24 #[.pointer (some ⟨d, 0, none⟩), .int .u32 x] w fun e w' => e = .returned (.int .i64 ((L.filter (fun y => decide (y.2.1 = x))).length : Nat)) ∧
      ∃ v' l' m', Ds B w' d h pb mb v' l' m' most ∧ (∀ y, y ∈ l' ↔ y ∈ l ∧ decide (y.2.1 = x) = false) ∧ DCh h mb v v' w w' := by
  have g0 := (Gr.refl w).alloc (.cells #[.int .u32 x] 30)
  have I := hid0 (cutAll_some (D.gr g0) S 39 w.heap.size x (fun y => decide (y.2.1 = x)) (Bk.new w 30 [.int .u32 x]) (enters_of Try.func39 (by kernel_rfl) rfl) (fun W y hf => cob_pred x y W _ hf))
  have C0 := hid0 ((DCh.refl h mb v w).far' (q := fun _ => False) (Chg.of_gr g0) (fun _ h => h.elim))
  clear D g0
  obtain ⟨r, hr⟩ : ∃ r, r = (L.filter (fun y => decide (y.2.1 = x))).length := ⟨_, rfl⟩
  rw [← hr] at I
  rw [← hr]
  clear hr
  go_enter Try.func24, Try.ntmps24
  go_wp2_with fail
  refine I.out.mono ?_
  rintro e w1 ⟨rfl, v', l', m', D3, M3, C3⟩
  have FC := hid0 (C0.out.tr C3)
  have FD := hid0 D3
  have FM := hid0 M3
  clear I C0 D3 M3 C3
  go_wp2
  go_ret
  exact ⟨rfl, _, _, _, FD.out, FM.out, FC.out⟩
theorem cutFe_some {B : Nat} {w : World} {d h pb mb : Nat} {v : Value} {l L : List Du} {m : Pf} {most : Nat} (D : Ds B w d h pb mb v l m most) (S : SortOf L l) (x : Int) :
    Calls Try.prog 25 #[.pointer (some ⟨d, 0, none⟩), .int .u32 x] w fun e w' => e = .returned (.int .i64 ((L.filter (fun y => decide (y.2.2 = x))).length : Nat)) ∧
      ∃ v' l' m', Ds B w' d h pb mb v' l' m' most ∧ (∀ y, y ∈ l' ↔ y ∈ l ∧ decide (y.2.2 = x) = false) ∧ DCh h mb v v' w w' := by
  have g0 := (Gr.refl w).alloc (.cells #[.int .u32 x] 30)
  have I := hid0 (cutAll_some (D.gr g0) S 40 w.heap.size x (fun y => decide (y.2.2 = x)) (Bk.new w 30 [.int .u32 x]) (enters_of Try.func40 (by kernel_rfl) rfl) (fun W y hf => cfe_pred x y W _ hf))
  have C0 := hid0 ((DCh.refl h mb v w).far' (q := fun _ => False) (Chg.of_gr g0) (fun _ h => h.elim))
  clear D g0
  obtain ⟨r, hr⟩ : ∃ r, r = (L.filter (fun y => decide (y.2.2 = x))).length := ⟨_, rfl⟩
  rw [← hr] at I
  rw [← hr]
  clear hr
  go_enter Try.func25, Try.ntmps25
  go_wp2_with fail
  refine I.out.mono ?_
  rintro e w1 ⟨rfl, v', l', m', D3, M3, C3⟩
  have FC := hid0 (C0.out.tr C3)
  have FD := hid0 D3
  have FM := hid0 M3
  clear I C0 D3 M3 C3
  go_wp2
  go_ret
  exact ⟨rfl, _, _, _, FD.out, FM.out, FC.out⟩
end Go.Proofs.Ytaapdkjmlplhgaa
