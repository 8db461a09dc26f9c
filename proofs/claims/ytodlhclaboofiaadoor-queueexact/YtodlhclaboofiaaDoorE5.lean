/- The law QueueExact, walked. -/
import Derived.Test.YtodlhclaboofiaaDoorE2c
import Derived.Test.YtodlhclaboofiaaDoorWk
import Derived.Deep.CutBlock
set_option linter.unusedSimpArgs false
set_option linter.unusedVariables false
namespace Go.Proofs.YtodlhclaboofiaaDoor
open Go.RowKit Go.Sort

theorem Lay.size {w wr : World} {b2 bp bq br : Nat} {p0 p1 : Int} : ∀ {k : Nat}, Lay w wr b2 bp bq br p0 p1 k → k ≤ 2 → w.heap.size ≤ wr.heap.size
  | 0, h, _ => Arr.bel h |>.size
  | 1, ⟨_, _, h, _⟩, _ => h.bel.size
  | 2, ⟨_, _, _, _, _, _, _, h, _⟩, _ => h.size
  | k + 3, _, h => by omega
/-- The cells that the last loop's statements read. -/
def S6 (bp bq br R : Nat) (d0 d1 : Ids) (rl : List Value) (X : World) : Prop :=
  Bk X bp 26 [.pointer (some ⟨d0.T1, 0, none⟩), .pointer (some ⟨d1.T1, 0, none⟩)] ∧ Bk X bq 28 [.pointer (some ⟨d0.T2, 0, none⟩), .pointer (some ⟨d1.T2, 0, none⟩)] ∧ Bk X br 30 [.pointer (some ⟨d0.R, 0, none⟩), .pointer (some ⟨d1.R, 0, none⟩)] ∧ Bk X R 49 rl
theorem S6.below {bp bq br R : Nat} {d0 d1 : Ids} {rl : List Value} {X Y : World} (h : S6 bp bq br R d0 d1 rl X) (g : Below X.heap.size X Y) : S6 bp bq br R d0 d1 rl Y := ⟨h.1.mono g h.1.lt, h.2.1.mono g h.2.1.lt, h.2.2.1.mono g h.2.2.1.lt, h.2.2.2.mono g h.2.2.2.lt⟩
theorem S6.gr {bp bq br R : Nat} {d0 d1 : Ids} {rl : List Value} {X Y : World} (h : S6 bp bq br R d0 d1 rl X) (g : Gr X Y) : S6 bp bq br R d0 d1 rl Y := h.below g.below
set_option maxRecDepth 100000 in
set_option maxHeartbeats 16000000 in
theorem exact_walk (p0 p1 : Int) (l : List Stp) (al : Option Addr) (cl : Nat) (w : World) (hl : Steps w al l) (hv : ∀ (k : Nat) (x : Stp), l[k]? = some x → in64 x.2.2.1) (hT : Tab w) (hN : l.length ≤ 4398046511104) :
    Calls Tryd.prog 3 #[.agg #[.int .i64 p0, .int .i64 p1], .slice al l.length cl] w fun e w' => e = .returned (.bool true) ∧ Below w.heap.size w w' := by
  obtain ⟨N, hNe⟩ : ∃ N, N = l.length := ⟨_, rfl⟩
  have HN : Hid (N = l.length ∧ N ≤ 4398046511104) := ⟨hNe, by omega⟩
  rw [← hNe]
  clear hNe hN
  have HL := hid0 hl
  have HV := hid0 hv
  have TB := hid0 hT
  clear hl hv hT
  have k2 := Bk.new w 22 [.int .i64 p0, .int .i64 p1]
  have g2 := (Gr.refl w).alloc (.cells #[.int .i64 p0, .int .i64 p1] 22)
  have WK := hid0 (works_any (w.alloc (.cells #[.int .i64 p0, .int .i64 p1] 22)))
  go_enter Tryd.func3, Tryd.ntmps3
  go_wp2_with fail
  refine WK.out.mono ?_
  rintro e w1 ⟨rfl, h1⟩
  have g3 := (((Gr.refl w1).alloc (.cells #[.pointer none, .pointer none] 26)).alloc (.cells #[.pointer none, .pointer none] 28)).alloc (.cells #[.pointer none, .pointer none] 30)
  have kp := ((Bk.new w1 26 [.pointer none, .pointer none]).alloc (.cells #[.pointer none, .pointer none] 28)).alloc (.cells #[.pointer none, .pointer none] 30)
  have kq := (Bk.new (w1.alloc (.cells #[.pointer none, .pointer none] 26)) 28 [.pointer none, .pointer none]).alloc (.cells #[.pointer none, .pointer none] 30)
  have kr := Bk.new ((w1.alloc (.cells #[.pointer none, .pointer none] 26)).alloc (.cells #[.pointer none, .pointer none] 28)) 30 [.pointer none, .pointer none]
  simp only [World.size_alloc] at kq kr
  have hB1 : Below w.heap.size w w1 := g2.below.trans (h1.mono g2.size)
  have LY0 : Hid (Lay w (((w1.alloc (.cells #[.pointer none, .pointer none] 26)).alloc (.cells #[.pointer none, .pointer none] 28)).alloc (.cells #[.pointer none, .pointer none] 30)) w.heap.size w1.heap.size (w1.heap.size + 1) (w1.heap.size + 1 + 1) p0 p1 0) :=
    (⟨(k2.mono h1 k2.lt).gr g3, kp, kq, kr, hB1.trans (g3.below.mono hB1.size), by have := hB1.size; omega⟩ : Arr _ _ _ _ _ _ _ _ _ _ _ _ _ _)
  clear k2 g2 WK h1 g3 kp kq kr hB1
  go_upto_block 0 with fail
  obtain ⟨br, e3⟩ : ∃ br, br = w1.heap.size + 1 + 1 := ⟨_, rfl⟩
  rw [← e3] at LY0 ⊢
  obtain ⟨bq, e2⟩ : ∃ bq, bq = w1.heap.size + 1 := ⟨_, rfl⟩
  rw [← e2] at LY0 ⊢
  obtain ⟨bp, e1⟩ : ∃ bp, bp = w1.heap.size := ⟨_, rfl⟩
  rw [← e1] at LY0 ⊢
  obtain ⟨b2, e0⟩ : ∃ b2, b2 = w.heap.size := ⟨_, rfl⟩
  have LY1 : Hid (Lay w (((w1.alloc (.cells #[.pointer none, .pointer none] 26)).alloc (.cells #[.pointer none, .pointer none] 28)).alloc (.cells #[.pointer none, .pointer none] 30)) b2 bp bq br p0 p1 0) := by rw [e0]; exact LY0.out
  rw [← e0]
  clear LY0 e0 e1 e2 e3
  generalize ((w1.alloc (.cells #[.pointer none, .pointer none] 26)).alloc (.cells #[.pointer none, .pointer none] 28)).alloc (.cells #[.pointer none, .pointer none] 30) = W0 at *
  go_cut [] (fun wx => Hid (Lay w wx b2 bp bq br p0 p1 2))
  case first =>
    go_wp2_with fail
    go_loopg [8] 2 (fun gk i wr => ∃ (k : Nat) (iI : Int), i = .int .i64 iI ∧ Hid (iI = (k : Int)) ∧ k ≤ 2 ∧ gk = 2 - k ∧ Hid (Lay w wr b2 bp bq br p0 p1 k))
    case atStart => exact ⟨0, 0, rfl, rfl, by omega, rfl, LY1⟩
    case round =>
      obtain ⟨k, iI, rfl, HI, hk, rfl, LY⟩ := hrel
      clear LY1
      have WS : Hid (w.heap.size ≤ wr.heap.size) := LY.out.size hk
      by_cases k2 : k = 2
      · subst k2
        have hi2 : iI = 2 := HI.out
        subst hi2
        go_wp2
        go_meet
        case rel => exact LY
      by_cases k0 : k = 0
      · subst k0
        have hi2 : iI = 0 := HI.out
        subst hi2
        clear hk
        have AR : Hid (Arr w wr b2 bp bq br p0 p1 (.pointer none) (.pointer none) (.pointer none) (.pointer none) (.pointer none) (.pointer none)) := LY.out
        by_cases hp : p0 < 1 ∨ 65536 < p0
        · have C1 := hid0 (s_new_no p0 wr hp)
          have C2 := hid0 (p_new_no p0 wr hp)
          have C3 := hid0 (rnew_no p0 wr hp)
          have BL := hid0 AR.out.bel
          have x2 := AR.out.k2.at 0
          simp only [List.getElem?_cons_zero, List.getElem?_cons_succ] at x2
          have yr := AR.out.kr.at 0
          have fr := AR.out.kr.frozen 0
          simp only [List.getElem?_cons_zero, List.getElem?_cons_succ] at yr
          clear hp LY
          go_wp2_with fail
          refine C1.out.mono ?_
          rintro e V1 ⟨rfl, hw⟩
          cases hw
          go_wp2_with fail
          refine C2.out.mono ?_
          rintro e V1 ⟨rfl, hw⟩
          cases hw
          go_wp2_with fail
          refine C3.out.mono ?_
          rintro e V1 ⟨rfl, hw⟩
          cases hw
          have hN : Below w.heap.size w (wr.setCell ⟨br, 0, none⟩ (.pointer none)) := BL.out.setCell (p := ⟨br, 0, none⟩) AR.out.lo.2.2 _
          have KR := hid0 (AR.out.setr 0 (.pointer none)).kr
          have HN := hid0 hN
          have HB := hid0 BL.out
          clear C1 C2 C3 AR hN BL
          go_wp2
          go_ret
          first
            | exact ⟨rfl, HB.out⟩
            | exact ⟨rfl, HN.out⟩
        · obtain ⟨n, hn, h1, h2⟩ : ∃ n : Nat, p0 = (n : Int) ∧ 1 ≤ n ∧ n ≤ 65536 := ⟨p0.toNat, by omega, by omega, by omega⟩
          subst hn
          clear hp LY
          have C1 := hid0 (s_new_yes n wr h1 h2)
          have x2 := AR.out.k2.at 0
          simp only [List.getElem?_cons_zero, List.getElem?_cons_succ] at x2
          go_wp2_with fail
          refine C1.out.mono ?_
          rintro e V1 ⟨T1, B1, rfl, hT1, hB1, k1, g1⟩
          have K1 := hid0 k1
          have H1 : Hid (wr.heap.size ≤ T1 ∧ wr.heap.size ≤ B1) := ⟨hT1, hB1⟩
          have W1 : Hid (wr.heap.size ≤ V1.heap.size) := g1.size
          replace AR := hid0 (AR.out.gr g1)
          clear C1 x2 k1 g1 hT1 hB1
          have C2 := hid0 (p_new_yes n V1 h1 h2)
          have x2 := AR.out.k2.at 0
          simp only [List.getElem?_cons_zero, List.getElem?_cons_succ] at x2
          go_wp2_with fail
          refine C2.out.mono ?_
          rintro e V2 ⟨T2, B2, rfl, hT2, hB2, k2, g2⟩
          have K2 := hid0 k2
          replace K1 := hid0 (K1.out.gr g2)
          have H2 : Hid (wr.heap.size ≤ T2 ∧ wr.heap.size ≤ B2) := ⟨Nat.le_trans W1.out hT2, Nat.le_trans W1.out hB2⟩
          have W2 : Hid (wr.heap.size ≤ V2.heap.size) := Nat.le_trans W1.out g2.size
          replace AR := hid0 (AR.out.gr g2)
          clear C2 x2 k2 g2 hT2 hB2 W1
          have C3 := hid0 (rnew_yes n V2 h1 h2)
          have x2 := AR.out.k2.at 0
          simp only [List.getElem?_cons_zero, List.getElem?_cons_succ] at x2
          have yr := AR.out.kr.at 0
          have fr := AR.out.kr.frozen 0
          simp only [List.getElem?_cons_zero, List.getElem?_cons_succ] at yr
          go_wp2_with fail
          refine C3.out.mono ?_
          rintro e V3 ⟨R, rfl, hR, k3, g3⟩
          have H3 : Hid (wr.heap.size ≤ R) := Nat.le_trans W2.out hR
          replace K1 := K1.out.gr g3
          replace K2 := K2.out.gr g3
          replace AR := AR.out.gr g3

          have TR := made_tri h1 h2 K1 K2 k3
          clear C3 x2 yr fr k3 g3 hR W2 K1 K2
          -- the ring of the document is laid into its array
          have G4 := Chg.set (p := aB bp bq br) (a := ⟨br, 0, none⟩) V3 (.inr (.inr rfl)) (ptrV R)
          have TR4 := hid0 (TR.only AR.types G4)

          have AR4 := hid0 (AR.setr 0 (ptrV R))
          simp only [if_true, if_false, reduceIte, Nat.zero_ne_one, Nat.one_ne_zero] at AR4
          have yr := AR.kr.at 0
          have fr := AR.kr.frozen 0
          simp only [List.getElem?_cons_zero, List.getElem?_cons_succ] at yr
          clear AR TR G4
          go_upto_region 12 with fail
          clear yr fr
          generalize World.setCell V3 _ _ = V4 at *
          have yr := AR4.out.kr.at 0
          try simp only [List.getElem?_cons_zero, List.getElem?_cons_succ] at yr
          go_upto_region 14 with fail
          clear yr
          have MO := calls_d (fun m => s_most T1 B1 (RS.made n) _ (TR4.out.p.gr ((Gr.refl V4).drewN m)) h1)
          rw [show ((RS.made n).n : Int) = (n : Int) from rfl] at MO
          have x2 := fun m => below_cell (AR4.out.k2.at 0) ((Gr.refl V4).drewN m).below
          try simp only [List.getElem?_cons_zero, List.getElem?_cons_succ] at x2
          refine wp_region_quiet_lit (by kernel_rfl) (by kernel_rfl) ?_
          repeat (go_big_quiet_step (fail))
          go_big_quiet_step (exact MO.out _)
          repeat (go_big_quiet_step (fail))
          refine wpQuiet_nil ?_
          intro _ hw'
          obtain ⟨q, rfl⟩ := hw'
          have TR5 := TR4.out.gr ((Gr.refl V4).drewN q)
          have AR5 := AR4.out.gr ((Gr.refl V4).drewN q)

          clear MO x2 TR4 AR4
          generalize V4.drewN q = V5 at *
          have G6 := Chg.set (p := aB bp bq br) (a := ⟨bp, 0, none⟩) V5 (.inl rfl) (ptrV T1)
          have TR6 := hid0 (TR5.only AR5.types G6)

          have AR6 := hid0 (AR5.setp 0 (ptrV T1))
          simp only [if_true, if_false, reduceIte, Nat.zero_ne_one, Nat.one_ne_zero] at AR6
          have yp := AR5.kp.at 0
          have fp := AR5.kp.frozen 0
          try simp only [List.getElem?_cons_zero, List.getElem?_cons_succ] at yp
          clear TR5 AR5 G6
          go_upto_region 17 with fail
          clear yp fp
          generalize World.setCell V5 _ _ = V6 at *
          have G7 := Chg.set (p := aB bp bq br) (a := ⟨bq, 0, none⟩) V6 (.inr (.inl rfl)) (ptrV T2)
          have TR7 := hid0 (TR6.out.only AR6.out.types G7)

          have AR7 := hid0 (AR6.out.setq 0 (ptrV T2))
          simp only [if_true, if_false, reduceIte, Nat.zero_ne_one, Nat.one_ne_zero] at AR7
          have yq := AR6.out.kq.at 0
          have fq := AR6.out.kq.frozen 0
          try simp only [List.getElem?_cons_zero, List.getElem?_cons_succ] at yq
          have HS : Hid (w.heap.size ≤ wr.heap.size) := WS.out
          have S7 : Hid (S5 w (V6.setCell ⟨bq, 0, none⟩ (ptrV T2)) ⟨T1, B1, T2, B2, R⟩ (Sts.made n)) := ⟨TR7.out, (fun i x h => by cases h), TB.out, AR7.out.bel, ⟨Nat.le_trans HS.out H1.out.1, Nat.le_trans HS.out H1.out.2, Nat.le_trans HS.out H2.out.1, Nat.le_trans HS.out H2.out.2, Nat.le_trans HS.out H3.out⟩⟩
          clear TR6 AR6 G7 TR7
          go_wp2
          go_roundg 1
          case measure => omega
          case rel => exact ⟨1, 1, rfl, rfl, by omega, rfl, ⟨⟨T1, B1, T2, B2, R⟩, Sts.made n, AR7.out, S7.out, rfl⟩⟩
      · have k1 : k = 1 := by omega
        clear k0 k2
        subst k1
        have hi2 : iI = 1 := HI.out
        subst hi2
        clear hk
        obtain ⟨d0, x0, ar, sr, hr0⟩ := LY.out
        have AR := hid0 ar
        have SR := hid0 sr
        have HR0 := hid0 hr0
        have PL := hid0 sr
        clear ar sr hr0
        by_cases hp : p1 < 1 ∨ 65536 < p1
        · have C1 := hid0 (s_new_no p1 wr hp)
          have C2 := hid0 (p_new_no p1 wr hp)
          have C3 := hid0 (rnew_no p1 wr hp)
          have BL := hid0 AR.out.bel
          have x2 := AR.out.k2.at 1
          simp only [List.getElem?_cons_zero, List.getElem?_cons_succ] at x2
          have yr := AR.out.kr.at 1
          have fr := AR.out.kr.frozen 1
          simp only [List.getElem?_cons_zero, List.getElem?_cons_succ] at yr
          clear hp LY
          go_wp2_with fail
          refine C1.out.mono ?_
          rintro e V1 ⟨rfl, hw⟩
          cases hw
          go_wp2_with fail
          refine C2.out.mono ?_
          rintro e V1 ⟨rfl, hw⟩
          cases hw
          go_wp2_with fail
          refine C3.out.mono ?_
          rintro e V1 ⟨rfl, hw⟩
          cases hw
          have hN : Below w.heap.size w (wr.setCell ⟨br, 1, none⟩ (.pointer none)) := BL.out.setCell (p := ⟨br, 1, none⟩) AR.out.lo.2.2 _
          have KR := hid0 (AR.out.setr 1 (.pointer none)).kr
          have HN := hid0 hN
          have HB := hid0 BL.out
          clear C1 C2 C3 AR hN BL
          go_wp2
          go_ret
          first
            | exact ⟨rfl, HB.out⟩
            | exact ⟨rfl, HN.out⟩
        · obtain ⟨n, hn, h1, h2⟩ : ∃ n : Nat, p1 = (n : Int) ∧ 1 ≤ n ∧ n ≤ 65536 := ⟨p1.toNat, by omega, by omega, by omega⟩
          subst hn
          clear hp LY
          have C1 := hid0 (s_new_yes n wr h1 h2)
          have x2 := AR.out.k2.at 1
          simp only [List.getElem?_cons_zero, List.getElem?_cons_succ] at x2
          go_wp2_with fail
          refine C1.out.mono ?_
          rintro e V1 ⟨T1, B1, rfl, hT1, hB1, k1, g1⟩
          have K1 := hid0 k1
          have H1 : Hid (wr.heap.size ≤ T1 ∧ wr.heap.size ≤ B1) := ⟨hT1, hB1⟩
          have W1 : Hid (wr.heap.size ≤ V1.heap.size) := g1.size
          replace AR := hid0 (AR.out.gr g1)
          replace SR := hid0 (SR.out.gr g1)
          clear C1 x2 k1 g1 hT1 hB1
          have C2 := hid0 (p_new_yes n V1 h1 h2)
          have x2 := AR.out.k2.at 1
          simp only [List.getElem?_cons_zero, List.getElem?_cons_succ] at x2
          go_wp2_with fail
          refine C2.out.mono ?_
          rintro e V2 ⟨T2, B2, rfl, hT2, hB2, k2, g2⟩
          have K2 := hid0 k2
          replace K1 := hid0 (K1.out.gr g2)
          have H2 : Hid (wr.heap.size ≤ T2 ∧ wr.heap.size ≤ B2) := ⟨Nat.le_trans W1.out hT2, Nat.le_trans W1.out hB2⟩
          have W2 : Hid (wr.heap.size ≤ V2.heap.size) := Nat.le_trans W1.out g2.size
          replace AR := hid0 (AR.out.gr g2)
          replace SR := hid0 (SR.out.gr g2)
          clear C2 x2 k2 g2 hT2 hB2 W1
          have C3 := hid0 (rnew_yes n V2 h1 h2)
          have x2 := AR.out.k2.at 1
          simp only [List.getElem?_cons_zero, List.getElem?_cons_succ] at x2
          have yr := AR.out.kr.at 1
          have fr := AR.out.kr.frozen 1
          simp only [List.getElem?_cons_zero, List.getElem?_cons_succ] at yr
          go_wp2_with fail
          refine C3.out.mono ?_
          rintro e V3 ⟨R, rfl, hR, k3, g3⟩
          have H3 : Hid (wr.heap.size ≤ R) := Nat.le_trans W2.out hR
          replace K1 := K1.out.gr g3
          replace K2 := K2.out.gr g3
          replace AR := AR.out.gr g3
          replace SR := SR.out.gr g3
          have TR := made_tri h1 h2 K1 K2 k3
          clear C3 x2 yr fr k3 g3 hR W2 K1 K2
          -- the ring of the document is laid into its array
          have G4 := Chg.set (p := aB bp bq br) (a := ⟨br, 1, none⟩) V3 (.inr (.inr rfl)) (ptrV R)
          have TR4 := hid0 (TR.only AR.types G4)
          have SR4 := hid0 (SR.only AR.types G4 AR.hlo)
          have AR4 := hid0 (AR.setr 1 (ptrV R))
          simp only [if_true, if_false, reduceIte, Nat.zero_ne_one, Nat.one_ne_zero] at AR4
          have yr := AR.kr.at 1
          have fr := AR.kr.frozen 1
          simp only [List.getElem?_cons_zero, List.getElem?_cons_succ] at yr
          clear AR TR G4 SR
          go_upto_region 12 with fail
          clear yr fr
          generalize World.setCell V3 _ _ = V4 at *
          have yr := AR4.out.kr.at 1
          try simp only [List.getElem?_cons_zero, List.getElem?_cons_succ] at yr
          go_upto_region 14 with fail
          clear yr
          have MO := calls_d (fun m => s_most T1 B1 (RS.made n) _ (TR4.out.p.gr ((Gr.refl V4).drewN m)) h1)
          rw [show ((RS.made n).n : Int) = (n : Int) from rfl] at MO
          have x2 := fun m => below_cell (AR4.out.k2.at 1) ((Gr.refl V4).drewN m).below
          try simp only [List.getElem?_cons_zero, List.getElem?_cons_succ] at x2
          refine wp_region_quiet_lit (by kernel_rfl) (by kernel_rfl) ?_
          repeat (go_big_quiet_step (fail))
          go_big_quiet_step (exact MO.out _)
          repeat (go_big_quiet_step (fail))
          refine wpQuiet_nil ?_
          intro _ hw'
          obtain ⟨q, rfl⟩ := hw'
          have TR5 := TR4.out.gr ((Gr.refl V4).drewN q)
          have AR5 := AR4.out.gr ((Gr.refl V4).drewN q)
          have SR5 := SR4.out.gr ((Gr.refl V4).drewN q)
          clear MO x2 TR4 AR4 SR4
          generalize V4.drewN q = V5 at *
          have G6 := Chg.set (p := aB bp bq br) (a := ⟨bp, 1, none⟩) V5 (.inl rfl) (ptrV T1)
          have TR6 := hid0 (TR5.only AR5.types G6)
          have SR6 := hid0 (SR5.only AR5.types G6 AR5.hlo)
          have AR6 := hid0 (AR5.setp 1 (ptrV T1))
          simp only [if_true, if_false, reduceIte, Nat.zero_ne_one, Nat.one_ne_zero] at AR6
          have yp := AR5.kp.at 1
          have fp := AR5.kp.frozen 1
          try simp only [List.getElem?_cons_zero, List.getElem?_cons_succ] at yp
          clear TR5 AR5 G6 SR5
          go_upto_region 17 with fail
          clear yp fp
          generalize World.setCell V5 _ _ = V6 at *
          have G7 := Chg.set (p := aB bp bq br) (a := ⟨bq, 1, none⟩) V6 (.inr (.inl rfl)) (ptrV T2)
          have TR7 := hid0 (TR6.out.only AR6.out.types G7)
          have SR7 := hid0 (SR6.out.only AR6.out.types G7 AR6.out.hlo)
          have AR7 := hid0 (AR6.out.setq 1 (ptrV T2))
          simp only [if_true, if_false, reduceIte, Nat.zero_ne_one, Nat.one_ne_zero] at AR7
          have yq := AR6.out.kq.at 1
          have fq := AR6.out.kq.frozen 1
          try simp only [List.getElem?_cons_zero, List.getElem?_cons_succ] at yq
          have HS : Hid (w.heap.size ≤ wr.heap.size) := WS.out
          have S7 : Hid (S5 w (V6.setCell ⟨bq, 1, none⟩ (ptrV T2)) ⟨T1, B1, T2, B2, R⟩ (Sts.made n)) := ⟨TR7.out, (fun i x h => by cases h), TB.out, AR7.out.bel, ⟨Nat.le_trans HS.out H1.out.1, Nat.le_trans HS.out H1.out.2, Nat.le_trans HS.out H2.out.1, Nat.le_trans HS.out H2.out.2, Nat.le_trans HS.out H3.out⟩⟩
          clear TR6 AR6 G7 TR7 SR6
          go_wp2
          go_roundg 0
          case measure => omega
          case rel =>
            refine ⟨2, 2, rfl, rfl, by omega, rfl, d0, ⟨T1, B1, T2, B2, R⟩, x0, Sts.made n, ⟨AR7.out.kp, AR7.out.kq, AR7.out.kr, SR7.out, S7.out, fun k hk hk2 => ?_⟩, HR0.out, rfl, AR7.out.bel, AR7.out.lo.1, AR7.out.lo.2.1, AR7.out.lo.2.2⟩
            have hlt := PL.out.plt k hk
            have h1 := H1.out
            have h2 := H2.out
            have h3 := H3.out
            rcases hk2 with e | e | e | e | e <;> (simp only at e; omega)
  case rest =>
    obtain ⟨d0, d1, x0, x1, du0, hr0, hr1, hbw, hlo⟩ := hcut.out
    obtain ⟨S0, hS0⟩ : ∃ S0, S0 = wc.heap.size := ⟨_, rfl⟩
    have RN0 : Hid (Rnd w wc S0 bp bq br d0 d1 x0 x1 (.slice none 0 0) [] 0) := ⟨du0, fun x h => (by cases h), World.ownsRow_nil _ _ _ _, by omega, by omega, by omega, by rw [hS0]; exact du0.a0.tri.p.lt.2, by rw [hS0]; exact du0.a1.tri.p.lt.2, by rw [hS0]; exact hbw.size⟩
    clear du0 hr0 hr1 hbw hlo hS0 hcut LY1
    go_upto_block 2 with fail
    obtain ⟨i0, hi, hz0, hz1, hz2⟩ := info_parts Tryd.info51
    go_cut [13] (fun sv wx => ∃ x0 x1 ks, Hid (ks.length ≤ N) ∧ Hid (Rnd w wx S0 bp bq br d0 d1 x0 x1 sv ks N))
    case first =>
      go_wp2_with fail
      go_loopg [13, 14] N (fun gk sv kv wr => ∃ (k : Nat) (x0 x1 : Sts) (ks : List Kp4), kv = .int .i64 (k : Int) ∧ k ≤ N ∧ gk = N - k ∧ Hid (ks.length ≤ k) ∧ Hid (Rnd w wr S0 bp bq br d0 d1 x0 x1 sv ks k))
      case atStart => exact ⟨0, x0, x1, [], rfl, Nat.zero_le _, rfl, Nat.le_refl _, RN0⟩
      case round =>
        obtain ⟨k, x0, x1, ks, rfl, hk, rfl, NK, RN⟩ := hrel
        clear RN0
        by_cases ck : k < N
        · have ck' : (k : Int) < (N : Int) := by omega
          have HK : Hid (k < N ∧ N ≤ 4398046511104) := ⟨ck, HN.out.2⟩
          have hk6 : (k : Int) ≤ 4398046511104 := by have := HN.out.2; omega
          obtain ⟨x, hx⟩ : ∃ x, l[k]? = some x := ⟨l[k]'(by have := HN.out.1; omega), List.getElem?_eq_getElem _⟩
          have hV := HV.out k x hx
          obtain ⟨bl, ol, rfl, cc⟩ := (HL.out.below RN.out.du.a0.bel) k x hx
          obtain ⟨kd, on, V, I⟩ := x
          dsimp only [Stp.l] at cc hV
          have z0 := cc 0 _ rfl
          have z1 := cc 1 _ rfl
          have z2 := cc 2 _ rfl
          have z3 := cc 3 _ rfl
          simp only [Nat.add_zero] at z0
          clear cc hx
          have ga := (Gr.refl wr).alloc (.cells (stL kd on V I).toArray 43)
          have K15 : Hid (Bk (wr.alloc (.cells (stL kd on V I).toArray 43)) wr.heap.size 43 (stL kd on V I)) := Bk.new wr 43 (stL kd on V I)
          replace RN := hid0 (RN.out.gr ga)
          go_upto_region 23 with fail
          clear z0 z1 z2 z3 ga
          generalize wr.alloc (.cells (stL kd on V I).toArray 43) = W2 at *
          generalize wr.heap.size = b15 at *
          have t1 := K15.out.at 1
          simp only [List.getElem?_cons_zero, List.getElem?_cons_succ] at t1
          rcases and1 on with ea | ea
          · go_upto_region 24 with fail
            clear t1
            have t0 := K15.out.at 0
            simp only [List.getElem?_cons_zero] at t0
            by_cases ck : kd = 10
            · have ckb : (kd == 10) = true := by simp [ck]
              clear ck
              go_upto_region 25 with fail
              clear t0
              obtain ⟨ao, cap, hvx⟩ := RN.out.du.a0.tri.r.sl
              have hAO : Lst W2 (.slice ao x0.L.length cap) x0.L := by rw [← hvx]; exact RN.out.du.a0.tri.r.lst
              have SS0 := S4.of (w0 := w) (W := W2) RN.out.du K15.out
              obtain ⟨rl, hrl, hr0⟩ : ∃ rl, Bk W2 d0.R 49 rl ∧ rl[0]? = some (.slice ao x0.L.length cap) := ⟨_, RN.out.du.a0.tri.r.blk, by rw [hvx]; rfl⟩
              have cp : ∀ X, S4 bp bq br b15 d0 d1 (stL kd on V I) X ∧ Bk X d0.R 49 rl → X.cell? ⟨bp, 0, none⟩ = some (.pointer (some ⟨d0.T1, 0, none⟩)) := fun X h => h.1.1.at 0
              have cr : ∀ X, S4 bp bq br b15 d0 d1 (stL kd on V I) X ∧ Bk X d0.R 49 rl → X.cell? ⟨br, 0, none⟩ = some (.pointer (some ⟨d0.R, 0, none⟩)) := fun X h => h.1.2.2.1.at 0
              have c0 : ∀ X, S4 bp bq br b15 d0 d1 (stL kd on V I) X ∧ Bk X d0.R 49 rl → X.cell? ⟨d0.R, 0, none⟩ = some (.slice ao x0.L.length cap) := fun X h => (h.2.at 0).trans hr0
              refine wp_region_held_drew (S := (fun X => S4 bp bq br b15 d0 d1 (stL kd on V I) X ∧ Bk X d0.R 49 rl)) (by kernel_rfl) ⟨SS0, hrl⟩ (fun hHeld => ?_)
              refine wpAnyH_take (i := 0) (v := ?tv1) rfl (by kernel_rfl) (by kernel_rfl) (by kernel_rfl) (fun _ _ _ h => h) (Or.inl ⟨by rfl, ?ty1⟩) (by assumption) ?tr1
              case ty1 => (intro w hSw; (try dsimp only at hSw); go_simp <;> with_reducible rfl)
              try simp only [Act.put, List.getElem_toArray, List.getElem_cons_zero, List.getElem_cons_succ, List.setIfInBounds_toArray, List.set_cons_zero, List.set_cons_succ]
              refine wpAnyH_take (i := 1) (v := ?tv2) rfl (by kernel_rfl) (by kernel_rfl) (by kernel_rfl) (fun _ _ _ h => h) (Or.inl ⟨by rfl, ?ty2⟩) (by assumption) ?tr2
              case ty2 => (intro w hSw; (try dsimp only at hSw); go_simp <;> with_reducible rfl)
              try simp only [Act.put, List.getElem_toArray, List.getElem_cons_zero, List.getElem_cons_succ, List.setIfInBounds_toArray, List.set_cons_zero, List.set_cons_succ]
              refine wpAnyH_take (i := 2) (v := ?tv3) rfl (by kernel_rfl) (by kernel_rfl) (by kernel_rfl) (fun _ _ _ h => h) (Or.inl ⟨by rfl, ?ty3⟩) (by assumption) ?tr3
              case ty3 => (intro w hSw; (try dsimp only at hSw); go_simp <;> with_reducible rfl)
              try simp only [Act.put, List.getElem_toArray, List.getElem_cons_zero, List.getElem_cons_succ, List.setIfInBounds_toArray, List.set_cons_zero, List.set_cons_succ]
              refine wpAnyH_take (i := 3) (v := ?tv4) rfl (by kernel_rfl) (by kernel_rfl) (by kernel_rfl) (fun _ _ _ h => h) (Or.inl ⟨by rfl, ?ty4⟩) (by assumption) ?tr4
              case ty4 => (intro w hSw; (try dsimp only at hSw); go_simp <;> with_reducible rfl)
              try simp only [Act.put, List.getElem_toArray, List.getElem_cons_zero, List.getElem_cons_succ, List.setIfInBounds_toArray, List.set_cons_zero, List.set_cons_succ]
              refine wpAnyH_take (i := 5) (v := ?tv5) rfl (by kernel_rfl) (by kernel_rfl) (by kernel_rfl) (fun _ _ _ h => h) (Or.inl ⟨by rfl, ?ty5⟩) (by assumption) ?tr5
              case ty5 => (intro w hSw; (try dsimp only at hSw); go_simp <;> with_reducible rfl)
              try simp only [Act.put, List.getElem_toArray, List.getElem_cons_zero, List.getElem_cons_succ, List.setIfInBounds_toArray, List.set_cons_zero, List.set_cons_succ]
              refine wpAnyH_take (i := 6) (v := ?tv6) rfl (by kernel_rfl) (by kernel_rfl) (by kernel_rfl) (fun _ _ _ h => h) (Or.inl ⟨by rfl, ?ty6⟩) (by assumption) ?tr6
              case ty6 => (intro w hSw; (try dsimp only at hSw); go_simp <;> with_reducible rfl)
              try simp only [Act.put, List.getElem_toArray, List.getElem_cons_zero, List.getElem_cons_succ, List.setIfInBounds_toArray, List.set_cons_zero, List.set_cons_succ]
              refine wpAnyH_take (i := 7) (v := ?tv7) rfl (by kernel_rfl) (by kernel_rfl) (by kernel_rfl) (fun _ _ _ h => h) (Or.inl ⟨by rfl, ?ty7⟩) (by assumption) ?tr7
              case ty7 => (intro w hSw; (try dsimp only at hSw); go_simp <;> with_reducible rfl)
              try simp only [Act.put, List.getElem_toArray, List.getElem_cons_zero, List.getElem_cons_succ, List.setIfInBounds_toArray, List.set_cons_zero, List.set_cons_succ]
              refine wpAnyH_take (i := 8) (v := ?tv8) rfl (by kernel_rfl) (by kernel_rfl) (by kernel_rfl) (fun _ _ _ h => h) (Or.inl ⟨by rfl, ?ty8⟩) (by assumption) ?tr8
              case ty8 => (intro w hSw; (try dsimp only at hSw); go_simp <;> with_reducible rfl)
              try simp only [Act.put, List.getElem_toArray, List.getElem_cons_zero, List.getElem_cons_succ, List.setIfInBounds_toArray, List.set_cons_zero, List.set_cons_succ]
              refine wpAnyH_take (i := 9) (v := ?tv9) rfl (by kernel_rfl) (by kernel_rfl) (by kernel_rfl) (fun _ _ _ h => h) (Or.inl ⟨by rfl, ?ty9⟩) (by assumption) ?tr9
              case ty9 => (intro w hSw; (try dsimp only at hSw); go_simp <;> with_reducible rfl)
              try simp only [Act.put, List.getElem_toArray, List.getElem_cons_zero, List.getElem_cons_succ, List.setIfInBounds_toArray, List.set_cons_zero, List.set_cons_succ]
              refine wpAnyH_take (i := 10) (v := ?tv10) rfl (by kernel_rfl) (by kernel_rfl) (by kernel_rfl) (fun _ _ _ h => h) (Or.inl ⟨by rfl, ?ty10⟩) (by assumption) ?tr10
              case ty10 => (intro w hSw; (try dsimp only at hSw); go_simp <;> with_reducible rfl)
              try simp only [Act.put, List.getElem_toArray, List.getElem_cons_zero, List.getElem_cons_succ, List.setIfInBounds_toArray, List.set_cons_zero, List.set_cons_succ]
              refine wpAnyH_ready (rs := [4]) (by kernel_rfl) (by simp) (AllReadyH.cons rfl (fun K hK => ?_) AllReadyH.nil)
              go_simp
              refine (s_all d0.T1 d0.B1 x0.s1 x0.L _ (RN.out.du.a0.tri.p.gr ((Gr.refl _).drew)) RN.out.du.a0.tri.ok1).mono ?_
              rintro e X1 ⟨bk, bN, rfl, hbk, hbN, kk, g1⟩
              dsimp only
              refine hK.out _ _ ?_ (fun hHeld => ?_)
              · exact ⟨hHeld.1.gr g1, hHeld.2.gr g1⟩
              clear hK K
              try simp only [Act.put, List.getElem_toArray, List.getElem_cons_zero, List.getElem_cons_succ, List.setIfInBounds_toArray, List.set_cons_zero, List.set_cons_succ]
              refine wpAnyH_take (i := 11) (v := ?tv11) rfl (by kernel_rfl) (by kernel_rfl) (by kernel_rfl) (fun _ _ _ h => h) (Or.inl ⟨by rfl, ?ty11⟩) (by assumption) ?tr11
              case ty11 => (intro w hSw; (try dsimp only at hSw); go_simp <;> with_reducible rfl)
              try simp only [Act.put, List.getElem_toArray, List.getElem_cons_zero, List.getElem_cons_succ, List.setIfInBounds_toArray, List.set_cons_zero, List.set_cons_succ]
              refine wpAnyH_ready (rs := [12]) (by kernel_rfl) (by simp) (AllReadyH.cons rfl (fun K hK => ?_) AllReadyH.nil)
              go_simp
              refine hK.out _ _ ?_ (fun hHeld => ?_)
              · exact ⟨hHeld.1.gr ((Gr.refl _).alloc _), hHeld.2.gr ((Gr.refl _).alloc _)⟩
              clear hK K
              try simp only [Act.put, List.getElem_toArray, List.getElem_cons_zero, List.getElem_cons_succ, List.setIfInBounds_toArray, List.set_cons_zero, List.set_cons_succ]
              refine wpAnyH_ready (rs := [13]) (by kernel_rfl) (by simp) (AllReadyH.cons rfl (fun K hK => ?_) AllReadyH.nil)
              refine wp_append_own _ (.tmp 107) (.tmp 119) 41 rfl S0 51 i0 (.agg #[.nilFunc, .slice none 0 0]) 2 32 Tryd.underlying41 hi hz0 hz1 hz2 rfl (by decide) _ ks.length _ rfl (own_below (RN.out.ow) ((((Gr.refl W2).drew).trans g1).alloc _).below) ⟨X1.heap.size, 0, none⟩ 1 1 [.func (.func 20) #[] #[.pointer (some ⟨bk, 0, none⟩)], .slice ao x0.L.length cap] rfl rfl (one_cell2 _ _ _ _) (fun u hu => by simp at hu; rcases hu with rfl | rfl <;> rfl) (by have := NK.out; have := HK.out; unfold maxLen; omega) (by have := NK.out; have := HK.out; omega) (Nat.le_trans RN.out.s0 (((((Gr.refl W2).drew).trans g1).alloc _).size)) ?_
              intro sv' X3 ho' hg' _
              have RK := (RN.out.gr (((Gr.refl W2).drew).trans g1)).keep (y := (bk, bN, .slice ao x0.L.length cap, x0.L)) ⟨kk, hAO.gr (((Gr.refl W2).drew).trans g1), RN.out.du.a0.vals, RN.out.du.a0.len, Nat.le_trans RN.out.s0 (Nat.le_trans (Gr.size ((Gr.refl W2).drew)) hbN)⟩ hg' ho'
              refine hK.out _ _ ?_ (fun hHeld => ?_)
              · exact ⟨S4.of (w0 := w) (W := X3) RK.2.du (RK.1 _ _ (K15.out.gr (((Gr.refl W2).drew).trans g1))), (hHeld.2.only (own_types (own_below (RN.out.ow) ((((Gr.refl W2).drew).trans g1).alloc _).below)) (Chg.of_grown hg') (by decide))⟩
              clear hK K
              try simp only [Act.put, List.getElem_toArray, List.getElem_cons_zero, List.getElem_cons_succ, List.setIfInBounds_toArray, List.set_cons_zero, List.set_cons_succ]
              refine wpAnyH_take (i := 14) (v := ?tv12) rfl (by kernel_rfl) (by kernel_rfl) (by kernel_rfl) (fun _ _ _ h => h) (Or.inl ⟨by rfl, ?ty12⟩) (by assumption) ?tr12
              case ty12 => (intro w hSw; (try dsimp only at hSw); go_simp <;> with_reducible rfl)
              try simp only [Act.put, List.getElem_toArray, List.getElem_cons_zero, List.getElem_cons_succ, List.setIfInBounds_toArray, List.set_cons_zero, List.set_cons_succ]
              refine wpAnyH_done (by kernel_rfl) ?_ _
              have RN3 := hid0 RK.2
              have K3 := hid0 (RK.1 _ _ (K15.out.gr (((Gr.refl W2).drew).trans g1)))
              clear SS0 cp cr c0 hrl hr0 RK ho' hg' kk g1 hbk hbN hHeld RN K15 hAO hvx
              have RN := RN3
              have K15 := K3
              clear RN3 K3
              obtain ⟨aa, cc, rfl⟩ : ∃ aa cc, sv' = .slice aa (ks.length + 1) cc := by
                have ho := RN.out.ow
                rw [List.length_append] at ho
                obtain ⟨_, ho⟩ := ho
                rcases ho with ⟨e1, e2⟩ | ⟨g, cp, cu, e1, _⟩
                · exact absurd e2 (by simp)
                · exact ⟨_, _, e1⟩
              generalize X3 = W2 at *
              go_upto_region 26 with fail
              have SS0 := S4.of (w0 := w) (W := W2) RN.out.du K15.out
              have cp : ∀ X, S4 bp bq br b15 d0 d1 (stL kd on V I) X → X.cell? ⟨bp, 0, none⟩ = some (.pointer (some ⟨d0.T1, 0, none⟩)) := fun X h => h.1.at 0
              have cq : ∀ X, S4 bp bq br b15 d0 d1 (stL kd on V I) X → X.cell? ⟨bq, 0, none⟩ = some (.pointer (some ⟨d0.T2, 0, none⟩)) := fun X h => h.2.1.at 0
              have cr : ∀ X, S4 bp bq br b15 d0 d1 (stL kd on V I) X → X.cell? ⟨br, 0, none⟩ = some (.pointer (some ⟨d0.R, 0, none⟩)) := fun X h => h.2.2.1.at 0
              have t0 : ∀ X, S4 bp bq br b15 d0 d1 (stL kd on V I) X → X.cell? ⟨b15, 0, none⟩ = some (.int .i64 kd) := fun X h => h.2.2.2.at 0
              have t1 : ∀ X, S4 bp bq br b15 d0 d1 (stL kd on V I) X → X.cell? ⟨b15, 1, none⟩ = some (.int .i64 on) := fun X h => h.2.2.2.at 1
              have t2 : ∀ X, S4 bp bq br b15 d0 d1 (stL kd on V I) X → X.cell? ⟨b15, 2, none⟩ = some (.int .i64 V) := fun X h => h.2.2.2.at 2
              have t3 : ∀ X, S4 bp bq br b15 d0 d1 (stL kd on V I) X → X.cell? ⟨b15, 3, none⟩ = some (.int .i64 I) := fun X h => h.2.2.2.at 3
              have gd := (Gr.refl W2).drew
              have hrb : x0.s1.rf < 8000000000000000000 := by have := RN.out.r0; have := HK.out; omega
              go_region_held3 (S4 bp bq br b15 d0 d1 (stL kd on V I))
                (first
                  | exact S4.gr (by assumption) ((Gr.refl _).drew)
                  | assumption)
                (first
                  | (go_at_call 10; refine (does_any w _ d0.T1 d0.B1 d0.T2 d0.B2 d0.R x0.s1 x0.s2 x0.s3 x0.v x0.L kd on V I (RN.out.du.a0.gr gd) hV hrb).mono ?_; rintro e X1 ⟨rfl, dk⟩; obtain ⟨xn, rn, k15'⟩ := (RN.out.gr gd).does0 (K15.out.gr gd) dk; have ss1 := S4.of (w0 := w) (W := X1) rn.du k15')
                  | (go_at_call 11; refine (books_any d0.T1 d0.B1 d0.T2 d0.B2 d0.R xn.s1 xn.s2 xn.s3 xn.v xn.L _ rn.du.a0.tri).mono ?_; rintro e X2 ⟨rfl, bk⟩; obtain ⟨mm, bk⟩ := bk; have g2 : Gr X1 X2 := (by rw [bk]; exact (Gr.refl X1).drewN mm); have ss2 := ss1.gr g2; have RN2 := hid0 (rn.gr g2); clear bk))
              clear SS0 cp cq cr t0 t1 t2 t3 dk rn k15' ss1 g2 ss2 RN K15 gd
              go_wp2
              go_roundg (N - (k + 1))
              case measure => omega
              case rel => exact ⟨k + 1, xn, x1, ks ++ [(bk, bN, .slice ao x0.L.length cap, x0.L)], by simp, by omega, rfl, hid0 (by have := NK.out; rw [List.length_append]; simp; omega), RN2⟩
            · have ckb : (kd == 10) = false := by simp [ck]
              clear ck
              go_upto_region 26 with fail
              clear t0
              have SS0 := S4.of (w0 := w) (W := W2) RN.out.du K15.out
              have cp : ∀ X, S4 bp bq br b15 d0 d1 (stL kd on V I) X → X.cell? ⟨bp, 0, none⟩ = some (.pointer (some ⟨d0.T1, 0, none⟩)) := fun X h => h.1.at 0
              have cq : ∀ X, S4 bp bq br b15 d0 d1 (stL kd on V I) X → X.cell? ⟨bq, 0, none⟩ = some (.pointer (some ⟨d0.T2, 0, none⟩)) := fun X h => h.2.1.at 0
              have cr : ∀ X, S4 bp bq br b15 d0 d1 (stL kd on V I) X → X.cell? ⟨br, 0, none⟩ = some (.pointer (some ⟨d0.R, 0, none⟩)) := fun X h => h.2.2.1.at 0
              have t0 : ∀ X, S4 bp bq br b15 d0 d1 (stL kd on V I) X → X.cell? ⟨b15, 0, none⟩ = some (.int .i64 kd) := fun X h => h.2.2.2.at 0
              have t1 : ∀ X, S4 bp bq br b15 d0 d1 (stL kd on V I) X → X.cell? ⟨b15, 1, none⟩ = some (.int .i64 on) := fun X h => h.2.2.2.at 1
              have t2 : ∀ X, S4 bp bq br b15 d0 d1 (stL kd on V I) X → X.cell? ⟨b15, 2, none⟩ = some (.int .i64 V) := fun X h => h.2.2.2.at 2
              have t3 : ∀ X, S4 bp bq br b15 d0 d1 (stL kd on V I) X → X.cell? ⟨b15, 3, none⟩ = some (.int .i64 I) := fun X h => h.2.2.2.at 3
              have gd := (Gr.refl W2).drew
              have hrb : x0.s1.rf < 8000000000000000000 := by have := RN.out.r0; have := HK.out; omega
              go_region_held3 (S4 bp bq br b15 d0 d1 (stL kd on V I))
                (first
                  | exact S4.gr (by assumption) ((Gr.refl _).drew)
                  | assumption)
                (first
                  | (go_at_call 10; refine (does_any w _ d0.T1 d0.B1 d0.T2 d0.B2 d0.R x0.s1 x0.s2 x0.s3 x0.v x0.L kd on V I (RN.out.du.a0.gr gd) hV hrb).mono ?_; rintro e X1 ⟨rfl, dk⟩; obtain ⟨xn, rn, k15'⟩ := (RN.out.gr gd).does0 (K15.out.gr gd) dk; have ss1 := S4.of (w0 := w) (W := X1) rn.du k15')
                  | (go_at_call 11; refine (books_any d0.T1 d0.B1 d0.T2 d0.B2 d0.R xn.s1 xn.s2 xn.s3 xn.v xn.L _ rn.du.a0.tri).mono ?_; rintro e X2 ⟨rfl, bk⟩; obtain ⟨mm, bk⟩ := bk; have g2 : Gr X1 X2 := (by rw [bk]; exact (Gr.refl X1).drewN mm); have ss2 := ss1.gr g2; have RN2 := hid0 (rn.gr g2); clear bk))
              clear SS0 cp cq cr t0 t1 t2 t3 dk rn k15' ss1 g2 ss2 RN K15 gd
              go_wp2
              go_roundg (N - (k + 1))
              case measure => omega
              case rel => exact ⟨k + 1, xn, x1, _, by simp, by omega, rfl, hid0 (by have := NK.out; omega), RN2⟩
          · go_upto_region 24 with fail
            clear t1
            have t0 := K15.out.at 0
            simp only [List.getElem?_cons_zero] at t0
            by_cases ck : kd = 10
            · have ckb : (kd == 10) = true := by simp [ck]
              clear ck
              go_upto_region 25 with fail
              clear t0
              obtain ⟨ao, cap, hvx⟩ := RN.out.du.a1.tri.r.sl
              have hAO : Lst W2 (.slice ao x1.L.length cap) x1.L := by rw [← hvx]; exact RN.out.du.a1.tri.r.lst
              have SS0 := S4.of (w0 := w) (W := W2) RN.out.du K15.out
              obtain ⟨rl, hrl, hr0⟩ : ∃ rl, Bk W2 d1.R 49 rl ∧ rl[0]? = some (.slice ao x1.L.length cap) := ⟨_, RN.out.du.a1.tri.r.blk, by rw [hvx]; rfl⟩
              have cp : ∀ X, S4 bp bq br b15 d0 d1 (stL kd on V I) X ∧ Bk X d1.R 49 rl → X.cell? ⟨bp, 1, none⟩ = some (.pointer (some ⟨d1.T1, 0, none⟩)) := fun X h => h.1.1.at 1
              have cr : ∀ X, S4 bp bq br b15 d0 d1 (stL kd on V I) X ∧ Bk X d1.R 49 rl → X.cell? ⟨br, 1, none⟩ = some (.pointer (some ⟨d1.R, 0, none⟩)) := fun X h => h.1.2.2.1.at 1
              have c0 : ∀ X, S4 bp bq br b15 d0 d1 (stL kd on V I) X ∧ Bk X d1.R 49 rl → X.cell? ⟨d1.R, 0, none⟩ = some (.slice ao x1.L.length cap) := fun X h => (h.2.at 0).trans hr0
              refine wp_region_held_drew (S := (fun X => S4 bp bq br b15 d0 d1 (stL kd on V I) X ∧ Bk X d1.R 49 rl)) (by kernel_rfl) ⟨SS0, hrl⟩ (fun hHeld => ?_)
              refine wpAnyH_take (i := 0) (v := ?tv13) rfl (by kernel_rfl) (by kernel_rfl) (by kernel_rfl) (fun _ _ _ h => h) (Or.inl ⟨by rfl, ?ty13⟩) (by assumption) ?tr13
              case ty13 => (intro w hSw; (try dsimp only at hSw); go_simp <;> with_reducible rfl)
              try simp only [Act.put, List.getElem_toArray, List.getElem_cons_zero, List.getElem_cons_succ, List.setIfInBounds_toArray, List.set_cons_zero, List.set_cons_succ]
              refine wpAnyH_take (i := 1) (v := ?tv14) rfl (by kernel_rfl) (by kernel_rfl) (by kernel_rfl) (fun _ _ _ h => h) (Or.inl ⟨by rfl, ?ty14⟩) (by assumption) ?tr14
              case ty14 => (intro w hSw; (try dsimp only at hSw); go_simp <;> with_reducible rfl)
              try simp only [Act.put, List.getElem_toArray, List.getElem_cons_zero, List.getElem_cons_succ, List.setIfInBounds_toArray, List.set_cons_zero, List.set_cons_succ]
              refine wpAnyH_take (i := 2) (v := ?tv15) rfl (by kernel_rfl) (by kernel_rfl) (by kernel_rfl) (fun _ _ _ h => h) (Or.inl ⟨by rfl, ?ty15⟩) (by assumption) ?tr15
              case ty15 => (intro w hSw; (try dsimp only at hSw); go_simp <;> with_reducible rfl)
              try simp only [Act.put, List.getElem_toArray, List.getElem_cons_zero, List.getElem_cons_succ, List.setIfInBounds_toArray, List.set_cons_zero, List.set_cons_succ]
              refine wpAnyH_take (i := 3) (v := ?tv16) rfl (by kernel_rfl) (by kernel_rfl) (by kernel_rfl) (fun _ _ _ h => h) (Or.inl ⟨by rfl, ?ty16⟩) (by assumption) ?tr16
              case ty16 => (intro w hSw; (try dsimp only at hSw); go_simp <;> with_reducible rfl)
              try simp only [Act.put, List.getElem_toArray, List.getElem_cons_zero, List.getElem_cons_succ, List.setIfInBounds_toArray, List.set_cons_zero, List.set_cons_succ]
              refine wpAnyH_take (i := 5) (v := ?tv17) rfl (by kernel_rfl) (by kernel_rfl) (by kernel_rfl) (fun _ _ _ h => h) (Or.inl ⟨by rfl, ?ty17⟩) (by assumption) ?tr17
              case ty17 => (intro w hSw; (try dsimp only at hSw); go_simp <;> with_reducible rfl)
              try simp only [Act.put, List.getElem_toArray, List.getElem_cons_zero, List.getElem_cons_succ, List.setIfInBounds_toArray, List.set_cons_zero, List.set_cons_succ]
              refine wpAnyH_take (i := 6) (v := ?tv18) rfl (by kernel_rfl) (by kernel_rfl) (by kernel_rfl) (fun _ _ _ h => h) (Or.inl ⟨by rfl, ?ty18⟩) (by assumption) ?tr18
              case ty18 => (intro w hSw; (try dsimp only at hSw); go_simp <;> with_reducible rfl)
              try simp only [Act.put, List.getElem_toArray, List.getElem_cons_zero, List.getElem_cons_succ, List.setIfInBounds_toArray, List.set_cons_zero, List.set_cons_succ]
              refine wpAnyH_take (i := 7) (v := ?tv19) rfl (by kernel_rfl) (by kernel_rfl) (by kernel_rfl) (fun _ _ _ h => h) (Or.inl ⟨by rfl, ?ty19⟩) (by assumption) ?tr19
              case ty19 => (intro w hSw; (try dsimp only at hSw); go_simp <;> with_reducible rfl)
              try simp only [Act.put, List.getElem_toArray, List.getElem_cons_zero, List.getElem_cons_succ, List.setIfInBounds_toArray, List.set_cons_zero, List.set_cons_succ]
              refine wpAnyH_take (i := 8) (v := ?tv20) rfl (by kernel_rfl) (by kernel_rfl) (by kernel_rfl) (fun _ _ _ h => h) (Or.inl ⟨by rfl, ?ty20⟩) (by assumption) ?tr20
              case ty20 => (intro w hSw; (try dsimp only at hSw); go_simp <;> with_reducible rfl)
              try simp only [Act.put, List.getElem_toArray, List.getElem_cons_zero, List.getElem_cons_succ, List.setIfInBounds_toArray, List.set_cons_zero, List.set_cons_succ]
              refine wpAnyH_take (i := 9) (v := ?tv21) rfl (by kernel_rfl) (by kernel_rfl) (by kernel_rfl) (fun _ _ _ h => h) (Or.inl ⟨by rfl, ?ty21⟩) (by assumption) ?tr21
              case ty21 => (intro w hSw; (try dsimp only at hSw); go_simp <;> with_reducible rfl)
              try simp only [Act.put, List.getElem_toArray, List.getElem_cons_zero, List.getElem_cons_succ, List.setIfInBounds_toArray, List.set_cons_zero, List.set_cons_succ]
              refine wpAnyH_take (i := 10) (v := ?tv22) rfl (by kernel_rfl) (by kernel_rfl) (by kernel_rfl) (fun _ _ _ h => h) (Or.inl ⟨by rfl, ?ty22⟩) (by assumption) ?tr22
              case ty22 => (intro w hSw; (try dsimp only at hSw); go_simp <;> with_reducible rfl)
              try simp only [Act.put, List.getElem_toArray, List.getElem_cons_zero, List.getElem_cons_succ, List.setIfInBounds_toArray, List.set_cons_zero, List.set_cons_succ]
              refine wpAnyH_ready (rs := [4]) (by kernel_rfl) (by simp) (AllReadyH.cons rfl (fun K hK => ?_) AllReadyH.nil)
              go_simp
              refine (s_all d1.T1 d1.B1 x1.s1 x1.L _ (RN.out.du.a1.tri.p.gr ((Gr.refl _).drew)) RN.out.du.a1.tri.ok1).mono ?_
              rintro e X1 ⟨bk, bN, rfl, hbk, hbN, kk, g1⟩
              dsimp only
              refine hK.out _ _ ?_ (fun hHeld => ?_)
              · exact ⟨hHeld.1.gr g1, hHeld.2.gr g1⟩
              clear hK K
              try simp only [Act.put, List.getElem_toArray, List.getElem_cons_zero, List.getElem_cons_succ, List.setIfInBounds_toArray, List.set_cons_zero, List.set_cons_succ]
              refine wpAnyH_take (i := 11) (v := ?tv23) rfl (by kernel_rfl) (by kernel_rfl) (by kernel_rfl) (fun _ _ _ h => h) (Or.inl ⟨by rfl, ?ty23⟩) (by assumption) ?tr23
              case ty23 => (intro w hSw; (try dsimp only at hSw); go_simp <;> with_reducible rfl)
              try simp only [Act.put, List.getElem_toArray, List.getElem_cons_zero, List.getElem_cons_succ, List.setIfInBounds_toArray, List.set_cons_zero, List.set_cons_succ]
              refine wpAnyH_ready (rs := [12]) (by kernel_rfl) (by simp) (AllReadyH.cons rfl (fun K hK => ?_) AllReadyH.nil)
              go_simp
              refine hK.out _ _ ?_ (fun hHeld => ?_)
              · exact ⟨hHeld.1.gr ((Gr.refl _).alloc _), hHeld.2.gr ((Gr.refl _).alloc _)⟩
              clear hK K
              try simp only [Act.put, List.getElem_toArray, List.getElem_cons_zero, List.getElem_cons_succ, List.setIfInBounds_toArray, List.set_cons_zero, List.set_cons_succ]
              refine wpAnyH_ready (rs := [13]) (by kernel_rfl) (by simp) (AllReadyH.cons rfl (fun K hK => ?_) AllReadyH.nil)
              refine wp_append_own _ (.tmp 107) (.tmp 119) 41 rfl S0 51 i0 (.agg #[.nilFunc, .slice none 0 0]) 2 32 Tryd.underlying41 hi hz0 hz1 hz2 rfl (by decide) _ ks.length _ rfl (own_below (RN.out.ow) ((((Gr.refl W2).drew).trans g1).alloc _).below) ⟨X1.heap.size, 0, none⟩ 1 1 [.func (.func 20) #[] #[.pointer (some ⟨bk, 0, none⟩)], .slice ao x1.L.length cap] rfl rfl (one_cell2 _ _ _ _) (fun u hu => by simp at hu; rcases hu with rfl | rfl <;> rfl) (by have := NK.out; have := HK.out; unfold maxLen; omega) (by have := NK.out; have := HK.out; omega) (Nat.le_trans RN.out.s0 (((((Gr.refl W2).drew).trans g1).alloc _).size)) ?_
              intro sv' X3 ho' hg' _
              have RK := (RN.out.gr (((Gr.refl W2).drew).trans g1)).keep (y := (bk, bN, .slice ao x1.L.length cap, x1.L)) ⟨kk, hAO.gr (((Gr.refl W2).drew).trans g1), RN.out.du.a1.vals, RN.out.du.a1.len, Nat.le_trans RN.out.s0 (Nat.le_trans (Gr.size ((Gr.refl W2).drew)) hbN)⟩ hg' ho'
              refine hK.out _ _ ?_ (fun hHeld => ?_)
              · exact ⟨S4.of (w0 := w) (W := X3) RK.2.du (RK.1 _ _ (K15.out.gr (((Gr.refl W2).drew).trans g1))), (hHeld.2.only (own_types (own_below (RN.out.ow) ((((Gr.refl W2).drew).trans g1).alloc _).below)) (Chg.of_grown hg') (by decide))⟩
              clear hK K
              try simp only [Act.put, List.getElem_toArray, List.getElem_cons_zero, List.getElem_cons_succ, List.setIfInBounds_toArray, List.set_cons_zero, List.set_cons_succ]
              refine wpAnyH_take (i := 14) (v := ?tv24) rfl (by kernel_rfl) (by kernel_rfl) (by kernel_rfl) (fun _ _ _ h => h) (Or.inl ⟨by rfl, ?ty24⟩) (by assumption) ?tr24
              case ty24 => (intro w hSw; (try dsimp only at hSw); go_simp <;> with_reducible rfl)
              try simp only [Act.put, List.getElem_toArray, List.getElem_cons_zero, List.getElem_cons_succ, List.setIfInBounds_toArray, List.set_cons_zero, List.set_cons_succ]
              refine wpAnyH_done (by kernel_rfl) ?_ _
              have RN3 := hid0 RK.2
              have K3 := hid0 (RK.1 _ _ (K15.out.gr (((Gr.refl W2).drew).trans g1)))
              clear SS0 cp cr c0 hrl hr0 RK ho' hg' kk g1 hbk hbN hHeld RN K15 hAO hvx
              have RN := RN3
              have K15 := K3
              clear RN3 K3
              obtain ⟨aa, cc, rfl⟩ : ∃ aa cc, sv' = .slice aa (ks.length + 1) cc := by
                have ho := RN.out.ow
                rw [List.length_append] at ho
                obtain ⟨_, ho⟩ := ho
                rcases ho with ⟨e1, e2⟩ | ⟨g, cp, cu, e1, _⟩
                · exact absurd e2 (by simp)
                · exact ⟨_, _, e1⟩
              generalize X3 = W2 at *
              go_upto_region 26 with fail
              have SS0 := S4.of (w0 := w) (W := W2) RN.out.du K15.out
              have cp : ∀ X, S4 bp bq br b15 d0 d1 (stL kd on V I) X → X.cell? ⟨bp, 1, none⟩ = some (.pointer (some ⟨d1.T1, 0, none⟩)) := fun X h => h.1.at 1
              have cq : ∀ X, S4 bp bq br b15 d0 d1 (stL kd on V I) X → X.cell? ⟨bq, 1, none⟩ = some (.pointer (some ⟨d1.T2, 0, none⟩)) := fun X h => h.2.1.at 1
              have cr : ∀ X, S4 bp bq br b15 d0 d1 (stL kd on V I) X → X.cell? ⟨br, 1, none⟩ = some (.pointer (some ⟨d1.R, 0, none⟩)) := fun X h => h.2.2.1.at 1
              have t0 : ∀ X, S4 bp bq br b15 d0 d1 (stL kd on V I) X → X.cell? ⟨b15, 0, none⟩ = some (.int .i64 kd) := fun X h => h.2.2.2.at 0
              have t1 : ∀ X, S4 bp bq br b15 d0 d1 (stL kd on V I) X → X.cell? ⟨b15, 1, none⟩ = some (.int .i64 on) := fun X h => h.2.2.2.at 1
              have t2 : ∀ X, S4 bp bq br b15 d0 d1 (stL kd on V I) X → X.cell? ⟨b15, 2, none⟩ = some (.int .i64 V) := fun X h => h.2.2.2.at 2
              have t3 : ∀ X, S4 bp bq br b15 d0 d1 (stL kd on V I) X → X.cell? ⟨b15, 3, none⟩ = some (.int .i64 I) := fun X h => h.2.2.2.at 3
              have gd := (Gr.refl W2).drew
              have hrb : x1.s1.rf < 8000000000000000000 := by have := RN.out.r1; have := HK.out; omega
              go_region_held3 (S4 bp bq br b15 d0 d1 (stL kd on V I))
                (first
                  | exact S4.gr (by assumption) ((Gr.refl _).drew)
                  | assumption)
                (first
                  | (go_at_call 10; refine (does_any w _ d1.T1 d1.B1 d1.T2 d1.B2 d1.R x1.s1 x1.s2 x1.s3 x1.v x1.L kd on V I (RN.out.du.a1.gr gd) hV hrb).mono ?_; rintro e X1 ⟨rfl, dk⟩; obtain ⟨xn, rn, k15'⟩ := (RN.out.gr gd).does1 (K15.out.gr gd) dk; have ss1 := S4.of (w0 := w) (W := X1) rn.du k15')
                  | (go_at_call 11; refine (books_any d1.T1 d1.B1 d1.T2 d1.B2 d1.R xn.s1 xn.s2 xn.s3 xn.v xn.L _ rn.du.a1.tri).mono ?_; rintro e X2 ⟨rfl, bk⟩; obtain ⟨mm, bk⟩ := bk; have g2 : Gr X1 X2 := (by rw [bk]; exact (Gr.refl X1).drewN mm); have ss2 := ss1.gr g2; have RN2 := hid0 (rn.gr g2); clear bk))
              clear SS0 cp cq cr t0 t1 t2 t3 dk rn k15' ss1 g2 ss2 RN K15 gd
              go_wp2
              go_roundg (N - (k + 1))
              case measure => omega
              case rel => exact ⟨k + 1, x0, xn, ks ++ [(bk, bN, .slice ao x1.L.length cap, x1.L)], by simp, by omega, rfl, hid0 (by have := NK.out; rw [List.length_append]; simp; omega), RN2⟩
            · have ckb : (kd == 10) = false := by simp [ck]
              clear ck
              go_upto_region 26 with fail
              clear t0
              have SS0 := S4.of (w0 := w) (W := W2) RN.out.du K15.out
              have cp : ∀ X, S4 bp bq br b15 d0 d1 (stL kd on V I) X → X.cell? ⟨bp, 1, none⟩ = some (.pointer (some ⟨d1.T1, 0, none⟩)) := fun X h => h.1.at 1
              have cq : ∀ X, S4 bp bq br b15 d0 d1 (stL kd on V I) X → X.cell? ⟨bq, 1, none⟩ = some (.pointer (some ⟨d1.T2, 0, none⟩)) := fun X h => h.2.1.at 1
              have cr : ∀ X, S4 bp bq br b15 d0 d1 (stL kd on V I) X → X.cell? ⟨br, 1, none⟩ = some (.pointer (some ⟨d1.R, 0, none⟩)) := fun X h => h.2.2.1.at 1
              have t0 : ∀ X, S4 bp bq br b15 d0 d1 (stL kd on V I) X → X.cell? ⟨b15, 0, none⟩ = some (.int .i64 kd) := fun X h => h.2.2.2.at 0
              have t1 : ∀ X, S4 bp bq br b15 d0 d1 (stL kd on V I) X → X.cell? ⟨b15, 1, none⟩ = some (.int .i64 on) := fun X h => h.2.2.2.at 1
              have t2 : ∀ X, S4 bp bq br b15 d0 d1 (stL kd on V I) X → X.cell? ⟨b15, 2, none⟩ = some (.int .i64 V) := fun X h => h.2.2.2.at 2
              have t3 : ∀ X, S4 bp bq br b15 d0 d1 (stL kd on V I) X → X.cell? ⟨b15, 3, none⟩ = some (.int .i64 I) := fun X h => h.2.2.2.at 3
              have gd := (Gr.refl W2).drew
              have hrb : x1.s1.rf < 8000000000000000000 := by have := RN.out.r1; have := HK.out; omega
              go_region_held3 (S4 bp bq br b15 d0 d1 (stL kd on V I))
                (first
                  | exact S4.gr (by assumption) ((Gr.refl _).drew)
                  | assumption)
                (first
                  | (go_at_call 10; refine (does_any w _ d1.T1 d1.B1 d1.T2 d1.B2 d1.R x1.s1 x1.s2 x1.s3 x1.v x1.L kd on V I (RN.out.du.a1.gr gd) hV hrb).mono ?_; rintro e X1 ⟨rfl, dk⟩; obtain ⟨xn, rn, k15'⟩ := (RN.out.gr gd).does1 (K15.out.gr gd) dk; have ss1 := S4.of (w0 := w) (W := X1) rn.du k15')
                  | (go_at_call 11; refine (books_any d1.T1 d1.B1 d1.T2 d1.B2 d1.R xn.s1 xn.s2 xn.s3 xn.v xn.L _ rn.du.a1.tri).mono ?_; rintro e X2 ⟨rfl, bk⟩; obtain ⟨mm, bk⟩ := bk; have g2 : Gr X1 X2 := (by rw [bk]; exact (Gr.refl X1).drewN mm); have ss2 := ss1.gr g2; have RN2 := hid0 (rn.gr g2); clear bk))
              clear SS0 cp cq cr t0 t1 t2 t3 dk rn k15' ss1 g2 ss2 RN K15 gd
              go_wp2
              go_roundg (N - (k + 1))
              case measure => omega
              case rel => exact ⟨k + 1, x0, xn, _, by simp, by omega, rfl, hid0 (by have := NK.out; omega), RN2⟩
        · have ck' : ¬ (k : Int) < (N : Int) := by omega
          obtain rfl : k = N := by omega
          go_wp2
          go_meet
          case rel => exact ⟨x0, x1, ks, NK, RN⟩
    case rest =>
      obtain ⟨x0, x1, ks, NK1, RN1⟩ := hcut
      clear RN0
      obtain ⟨aa, cc, hsv⟩ := own_slice RN1.out.ow
      subst hsv
      obtain ⟨M, hM⟩ : ∃ M, M = ks.length := ⟨_, rfl⟩
      rw [← hM]
      have HM := hid0 hM
      have HMM : Hid (M ≤ 4398046511104) := by have := NK1.out; have := HN.out.2; show M ≤ _; omega
      clear hM NK1
      go_upto_block 4 with fail
      go_cut [] (fun wx => Hid (Rnd w wx S0 bp bq br d0 d1 x0 x1 (.slice aa ks.length cc) ks N))
      case first =>
        go_wp2_with fail
        go_loopg [17] M (fun gk kv wr => ∃ (k : Nat), kv = .int .i64 (k : Int) ∧ k ≤ M ∧ gk = M - k ∧ Hid (Rnd w wr S0 bp bq br d0 d1 x0 x1 (.slice aa ks.length cc) ks N))
        case atStart => exact ⟨0, rfl, Nat.zero_le _, rfl, RN1⟩
        case round =>
          obtain ⟨k, rfl, hk, rfl, RN⟩ := hrel
          clear RN1
          by_cases ck : k < M
          · have ck' : (k : Int) < (M : Int) := by omega
            obtain ⟨x, hx⟩ : ∃ x, ks[k]? = some x := ⟨_, List.getElem?_eq_getElem (by have := HM.out; omega)⟩
            obtain ⟨y1, y2, y3, y4, y5⟩ := RN.out.ka x (List.mem_of_getElem? hx)
            obtain ⟨f1, f2⟩ := flatK_at ks k x hx
            obtain ⟨gg, cg, e1, z0⟩ := own_cells RN.out.ow f1
            obtain ⟨gg2, cg2, e2, z1⟩ := own_cells RN.out.ow f2
            cases e1
            cases e2
            have TL := hid0 (tells_any x.1 x.2.1 x.2.2.1 x.2.2.2 wr y1 y2 RN.out.du.a0.tab y4 y3)
            obtain ⟨ao, ca, ev, _⟩ := y2
            obtain ⟨k1, k2, k3, k4⟩ := x
            dsimp only [Kp4.f] at z0 z1 TL ev
            subst ev
            have hk6 : (k : Int) ≤ 4398046511104 + (M : Int) := by omega
            have hwk : wrap64 ((k : Int) + 1) = (k : Int) + 1 := by have := RN.out.ow.1; have := HMM.out; unfold wrap64; omega
            clear f1 f2 hx y1 y3 y4 y5
            go_wp2_with fail
            refine TL.out.mono ?_
            rintro e V ⟨rfl, hb⟩
            have RN3 := hid0 (RN.out.below hb)
            clear TL RN hb z0 z1
            go_wp2
            go_roundg (M - (k + 1))
            case measure => omega
            case rel => exact ⟨k + 1, by first | (simp; done) | (simp; exact hwk), by omega, rfl, RN3⟩
          · have ck' : ¬ (k : Int) < (M : Int) := by omega
            go_wp2
            go_meet
            case rel => exact RN
      case rest =>
        clear RN1
        have RN2 := hcut
        clear hcut
        go_upto_block 6 with fail
        go_cut [] (fun wx => Hid (Rnd w wx S0 bp bq br d0 d1 x0 x1 (.slice aa ks.length cc) ks N))
        case first =>
          go_wp2_with fail
          go_loopg [18] 2 (fun gk kv wr => ∃ (k : Nat) (iI : Int), kv = .int .i64 iI ∧ Hid (iI = (k : Int)) ∧ k ≤ 2 ∧ gk = 2 - k ∧ Hid (Rnd w wr S0 bp bq br d0 d1 x0 x1 (.slice aa ks.length cc) ks N))
          case atStart => exact ⟨0, 0, rfl, rfl, by omega, rfl, RN2⟩
          case round =>
            obtain ⟨k, iI, rfl, HI, hk, rfl, RN⟩ := hrel
            clear RN2
            by_cases k2 : k = 2
            · subst k2
              have hi2 : iI = 2 := HI.out
              subst hi2
              go_wp2
              go_meet
              case rel => exact RN
            by_cases k0 : k = 0
            · subst k0
              have hi2 : iI = 0 := HI.out
              subst hi2
              obtain ⟨ao, cap, hvx⟩ := RN.out.du.a0.tri.r.sl
              have hAO : Lst wr (.slice ao x0.L.length cap) x0.L := by rw [← hvx]; exact RN.out.du.a0.tri.r.lst
              obtain ⟨rl, hrl, hr0⟩ : ∃ rl, Bk wr d0.R 49 rl ∧ rl[0]? = some (.slice ao x0.L.length cap) := ⟨_, RN.out.du.a0.tri.r.blk, by rw [hvx]; rfl⟩
              have SS0 : S6 bp bq br d0.R d0 d1 rl wr := ⟨RN.out.du.kp, RN.out.du.kq, RN.out.du.kr, hrl⟩
              have cp : ∀ X, S6 bp bq br d0.R d0 d1 rl X → X.cell? ⟨bp, 0, none⟩ = some (.pointer (some ⟨d0.T1, 0, none⟩)) := fun X h => h.1.at 0
              have cq : ∀ X, S6 bp bq br d0.R d0 d1 rl X → X.cell? ⟨bq, 0, none⟩ = some (.pointer (some ⟨d0.T2, 0, none⟩)) := fun X h => h.2.1.at 0
              have cr : ∀ X, S6 bp bq br d0.R d0 d1 rl X → X.cell? ⟨br, 0, none⟩ = some (.pointer (some ⟨d0.R, 0, none⟩)) := fun X h => h.2.2.1.at 0
              have c0 : ∀ X, S6 bp bq br d0.R d0 d1 rl X → X.cell? ⟨d0.R, 0, none⟩ = some (.slice ao x0.L.length cap) := fun X h => (h.2.2.2.at 0).trans hr0
              have gd := (Gr.refl wr).drew
              clear hrl hr0 hvx
              go_wp2_with fail
              go_region_held3 (S6 bp bq br d0.R d0 d1 rl)
                (first
                  | exact S6.gr (by assumption) ((Gr.refl _).drew)
                  | exact S6.gr (by assumption) (by assumption)
                  | exact S6.below (by assumption) (by assumption)
                  | assumption)
                (first
                  | (go_at_call 11; refine (books_any d0.T1 d0.B1 d0.T2 d0.B2 d0.R x0.s1 x0.s2 x0.s3 x0.v x0.L _ (RN.out.du.a0.tri.gr gd)).mono ?_; rintro e X1 ⟨rfl, bk⟩; obtain ⟨mm, bk⟩ := bk; have g1 : Gr wr X1 := (by rw [bk]; exact gd.drewN mm); have ss1 := SS0.gr g1; clear bk)
                  | (go_at_call 9; refine (s_all d0.T1 d0.B1 x0.s1 x0.L _ (RN.out.du.a0.tri.p.gr g1) RN.out.du.a0.tri.ok1).mono ?_; rintro e X2 ⟨bk, bN, rfl, hbk, hbN, kk, g2⟩)
                  | (go_at_call 12; refine (tells_any bk bN _ x0.L _ kk (hAO.gr (g1.trans g2)) ((RN.out.du.a0.gr (g1.trans g2)).tab) RN.out.du.a0.len RN.out.du.a0.vals).mono ?_; rintro e X3 ⟨rfl, b3⟩))
              have RN3 := hid0 ((RN.out.gr (g1.trans g2)).below b3)
              clear SS0 cp cq cr c0 hAO hbk hbN kk ss1 g1 g2 b3 gd RN
              go_wp2
              go_roundg 1
              case measure => omega
              case rel => exact ⟨1, 1, rfl, rfl, by omega, rfl, RN3⟩
            · have k1 : k = 1 := by omega
              clear k0 k2
              subst k1
              have hi2 : iI = 1 := HI.out
              subst hi2
              obtain ⟨ao, cap, hvx⟩ := RN.out.du.a1.tri.r.sl
              have hAO : Lst wr (.slice ao x1.L.length cap) x1.L := by rw [← hvx]; exact RN.out.du.a1.tri.r.lst
              obtain ⟨rl, hrl, hr0⟩ : ∃ rl, Bk wr d1.R 49 rl ∧ rl[0]? = some (.slice ao x1.L.length cap) := ⟨_, RN.out.du.a1.tri.r.blk, by rw [hvx]; rfl⟩
              have SS0 : S6 bp bq br d1.R d0 d1 rl wr := ⟨RN.out.du.kp, RN.out.du.kq, RN.out.du.kr, hrl⟩
              have cp : ∀ X, S6 bp bq br d1.R d0 d1 rl X → X.cell? ⟨bp, 1, none⟩ = some (.pointer (some ⟨d1.T1, 0, none⟩)) := fun X h => h.1.at 1
              have cq : ∀ X, S6 bp bq br d1.R d0 d1 rl X → X.cell? ⟨bq, 1, none⟩ = some (.pointer (some ⟨d1.T2, 0, none⟩)) := fun X h => h.2.1.at 1
              have cr : ∀ X, S6 bp bq br d1.R d0 d1 rl X → X.cell? ⟨br, 1, none⟩ = some (.pointer (some ⟨d1.R, 0, none⟩)) := fun X h => h.2.2.1.at 1
              have c0 : ∀ X, S6 bp bq br d1.R d0 d1 rl X → X.cell? ⟨d1.R, 0, none⟩ = some (.slice ao x1.L.length cap) := fun X h => (h.2.2.2.at 0).trans hr0
              have gd := (Gr.refl wr).drew
              clear hrl hr0 hvx
              go_wp2_with fail
              go_region_held3 (S6 bp bq br d1.R d0 d1 rl)
                (first
                  | exact S6.gr (by assumption) ((Gr.refl _).drew)
                  | exact S6.gr (by assumption) (by assumption)
                  | exact S6.below (by assumption) (by assumption)
                  | assumption)
                (first
                  | (go_at_call 11; refine (books_any d1.T1 d1.B1 d1.T2 d1.B2 d1.R x1.s1 x1.s2 x1.s3 x1.v x1.L _ (RN.out.du.a1.tri.gr gd)).mono ?_; rintro e X1 ⟨rfl, bk⟩; obtain ⟨mm, bk⟩ := bk; have g1 : Gr wr X1 := (by rw [bk]; exact gd.drewN mm); have ss1 := SS0.gr g1; clear bk)
                  | (go_at_call 9; refine (s_all d1.T1 d1.B1 x1.s1 x1.L _ (RN.out.du.a1.tri.p.gr g1) RN.out.du.a1.tri.ok1).mono ?_; rintro e X2 ⟨bk, bN, rfl, hbk, hbN, kk, g2⟩)
                  | (go_at_call 12; refine (tells_any bk bN _ x1.L _ kk (hAO.gr (g1.trans g2)) ((RN.out.du.a1.gr (g1.trans g2)).tab) RN.out.du.a1.len RN.out.du.a1.vals).mono ?_; rintro e X3 ⟨rfl, b3⟩))
              have RN3 := hid0 ((RN.out.gr (g1.trans g2)).below b3)
              clear SS0 cp cq cr c0 hAO hbk hbN kk ss1 g1 g2 b3 gd RN
              go_wp2
              go_roundg 0
              case measure => omega
              case rel => exact ⟨2, 2, rfl, rfl, by omega, rfl, RN3⟩
        case rest =>
          have FIN := hid0 hcut.out.du.a0.bel
          clear hcut RN2
          go_wp2
          go_ret
          exact ⟨rfl, FIN.out⟩
end Go.Proofs.YtodlhclaboofiaaDoor
