/- TimerMeanwhile's walk. -/
import Derived.Test.YtaapdkjmlplhgaaMi
import Derived.Test.YtaapdkjmlplhgaaMj
import Derived.Test.YtaapdkjmlplhgaaQr
import Derived.Lib.QuietBelowIn
set_option linter.unusedSimpArgs false
set_option linter.unusedVariables false
namespace Go.Proofs.Ytaapdkjmlplhgaa
open Go.RowKit Go.Sort Go.Shelf
attribute [local go_sem] Oper.semAt_some wide_fn
attribute [local simp] wide_fn

theorem wp_then {P : Program} {c : Code} {K : Act → World → Prop} {Q : Exit → Act → World → Prop} {a : Act} {w : World} (h : c.wp P (Exit.then K (fun _ _ _ => False)) a w) : c.wp P (Exit.then K Q) a w :=
  Code.wp_mono (fun e a w h => by cases e <;> first | exact h | exact h.elim) h
set_option maxRecDepth 100000 in
set_option maxHeartbeats 4000000 in
theorem while_in (ao : Option Addr) (cap : Nat) (l : List Du) (w : World) (hl : l.length ≤ 1024) (hP : Pts w ao l) (hok : ∀ y ∈ l, okD y) :
    CallsIn Fence.wide 20 Try.prog 5 #[.slice ao l.length cap] w fun e w' => e = .returned (.bool true) ∧ Below w.heap.size w w' := by
  have HP := hid0 hP
  have k2 := Bk.new w 4 [.bool false]
  have g0 := (Gr.refl w).alloc (.cells #[.bool false] 4)
  have NW := fun W => hid0 (new_yes 4096 W (by omega) (by omega))
  have RN := fun W => hid0 (rnew_yes 4096 W (by omega) (by omega))
  have hl' : ¬ (l.length : Int) > 1024 := by omega
  have hl2 : (l.length : Int) ≤ 1024 := by omega
  clear hP
  refine callsIn_of_wp_marks Try.func5 rfl trivial ?_ rfl
  simp only [Try.ntmps5, List.size_toArray, List.length_cons, List.length_nil, Nat.reduceAdd, Nat.reduceSub, Array.replicate_succ, Array.replicate_zero, List.push_toArray, List.append_toArray, List.nil_append, List.cons_append]
  refine wpIn_wide.2 ?_
  go_upto_region 1 with fail
  generalize w.alloc _ = W at *
  obtain ⟨b2, e2⟩ : ∃ b2, b2 = w.heap.size := ⟨_, rfl⟩
  rw [← e2] at k2 ⊢
  have hb2 : w.heap.size ≤ b2 := by omega
  clear e2
  have hWs := g0.size
  go_wp2_with fail
  refine (NW W).out.mono ?_
  rintro e w1 ⟨d, h, pb, mb, rfl, D1, g1⟩
  have g3 := (Gr.refl w1).alloc (.cells #[.pointer (some ⟨d, 0, none⟩)] 23)
  have k3 := Bk.new w1 23 [.pointer (some ⟨d, 0, none⟩)]
  go_wp2_with fail
  refine (RN _).out.mono ?_
  rintro e w2 ⟨rfl, R2, g2⟩
  rw [World.size_alloc] at R2 ⊢
  have g5 := (Gr.refl w2).alloc (.cells #[.pointer (some ⟨w1.heap.size + 1, 0, none⟩)] 27)
  have k5 := Bk.new w2 27 [.pointer (some ⟨w1.heap.size + 1, 0, none⟩)]
  have S0 : Ms W.heap.size w (w2.alloc (.cells #[.pointer (some ⟨w1.heap.size + 1, 0, none⟩)] 27)) d (w1.heap.size + 1) b2 w1.heap.size w2.heap.size :=
    ⟨(((k2.gr g1).gr g3).gr g2).gr g5, (k3.gr g2).gr g5, k5, ((g0.trans g1).trans g3 |>.trans g2 |>.trans g5).below⟩
  have P0 : Pr W.heap.size (w2.alloc (.cells #[.pointer (some ⟨w1.heap.size + 1, 0, none⟩)] 27)) d h pb mb (.slice none 0 0) [] (fun _ => none) 4096 (w1.heap.size + 1) (.slice none 0 0) [] := by
    have RR := R2.gr g5
    exact ⟨((D1.gr g3).gr g2).gr g5, ⟨RR.blk, World.ownsRow_nil _ _ _ _, by have := g1.size; omega⟩, ⟨List.Pairwise.nil, fun x => Iff.rfl⟩, fun g e => by cases e⟩
  have A0 : After W.heap.size d h pb mb 4096 (w1.heap.size + 1) 0 (w2.alloc (.cells #[.pointer (some ⟨w1.heap.size + 1, 0, none⟩)] 27)) := ⟨_, _, _, _, _, P0, Nat.le_refl _⟩
  clear P0 D1 R2 g0 g1 g2 g3 g5 k2 k3 k5 NW RN
  go_upto_region 5 with fail
  generalize w2.alloc _ = X0 at *
  obtain ⟨r, hr⟩ : ∃ r, r = w1.heap.size + 1 := ⟨_, rfl⟩
  rw [← hr] at S0 A0 ⊢
  obtain ⟨b5, e5⟩ : ∃ b5, b5 = w2.heap.size := ⟨_, rfl⟩
  rw [← e5] at S0 ⊢
  obtain ⟨b3, e3⟩ : ∃ b3, b3 = w1.heap.size := ⟨_, rfl⟩
  rw [← e3] at S0 ⊢
  clear e3 e5 hr
  obtain ⟨B, hB⟩ : ∃ B, B = W.heap.size := ⟨_, rfl⟩
  rw [← hB] at S0 A0 hWs
  clear hB
  have y3 := S0.k3.one
  have S0 := hid0 S0
  have A0 := hid0 A0
  go_wp2_with fail
  clear y3
  go_loopw [6] (fun i wr => ∃ k : Nat, k ≤ l.length ∧ i = .int .i64 k ∧ Hid (Ms B w wr d r b2 b3 b5) ∧ Hid (After B d h pb mb 4096 r k wr)) (fun i _ => l.length - (intOf i).toNat)
  case atStart => exact ⟨0, Nat.zero_le _, rfl, S0, A0⟩
  case round =>
    clear S0 A0
    obtain ⟨k, hk, rfl, S, A⟩ := hrel
    by_cases hlt : k < l.length
    · have hlt' : (k : Int) < (l.length : Int) := by omega
      obtain ⟨b, off, rfl, p0, p1, p2⟩ := HP.out k hlt
      have hxo := hok (nth l k) (mem_nth.2 ⟨k, hlt, rfl⟩)
      generalize nth l k = x at *
      obtain ⟨xa, xo, xf⟩ := x
      dsimp only at p0 p1 p2
      have f0 : ∀ V, Ms B w V d r b2 b3 b5 → V.cell? _ = _ := fun V hV => below_cell p0 hV.bel
      have f1 : ∀ V, Ms B w V d r b2 b3 b5 → V.cell? _ = _ := fun V hV => below_cell p1 hV.bel
      have f2 : ∀ V, Ms B w V d r b2 b3 b5 → V.cell? _ = _ := fun V hV => below_cell p2 hV.bel
      have f3 : ∀ V, Ms B w V d r b2 b3 b5 → V.cell? ⟨b3, 0, none⟩ = some (.pointer (some ⟨d, 0, none⟩)) := fun V hV => hV.k3.one
      have f5 : ∀ V, Ms B w V d r b2 b3 b5 → V.cell? ⟨b5, 0, none⟩ = some (.pointer (some ⟨r, 0, none⟩)) := fun V hV => hV.k5.one
      have SD := hid0 (S.out.gr ((Gr.refl wr).drew))
      obtain ⟨v, lst, m, rv, L, P, hn⟩ := A.out
      have P1 := hid0 (sets_any (P.gr ((Gr.refl wr).drew)) (xa, xo, xf) hxo)
      clear S A P p0 p1 p2
      go_wp2_with fail
      go_region_held3 (Ms B w · d r b2 b3 b5)
        (first
          | assumption
          | exact SD.out)
        (first
          | (go_at_call 12; refine P1.out.mono ?_; rintro e v1 ⟨c, rfl, h1, h2⟩; have s1 := SD.out.keeps h1 hWs)
          | (go_at_call 13; refine h2.mono ?_; rintro e v2 ⟨rfl, h3, h4⟩; have s2 := (SD.out.keeps h1 hWs).keeps h3 hWs))
      have S2 := hid0 s2
      have A2 : Hid (After B d h pb mb 4096 r (k + 1) v2) := by
        obtain ⟨v, l', m, rv, L, P, hn2⟩ := h4
        exact ⟨v, l', m, rv, L, P, by omega⟩
      clear h1 h2 h3 h4 s1 s2 SD P1 f0 f1 f2 f3 f5
      go_wp2
      go_roundw
      case rel => exact ⟨k + 1, by omega, by go_num, S2, A2⟩
      case measure => simp [intOf]; omega
    · have hlt' : ¬ (k : Int) < (l.length : Int) := by omega
      obtain ⟨v, lst, m, rv, L, P, hn⟩ := A.out
      have y3 := S.out.k3.one
      have AL := fun W => hid0 (all_any (some ⟨d, 0, none⟩) W)
      have S1 := S.out
      clear S A
      go_wp2_with fail
      refine (AL wr).out.mono ?_
      rintro e v1 ⟨bl, rfl, hbl, kl, g1⟩
      replace S1 := S1.gr g1
      replace P := P.gr g1
      clear y3 g1
      have y3 := S1.k3.one
      go_wp2_with fail
      refine (AL v1).out.mono ?_
      rintro e v2 ⟨bn, rfl, hbn, kn, g2⟩
      have hv2 := (P.gr g2).ds.size
      have gx := (Gr.refl v2).alloc (.cells #[.int .i64 0] 3)
      have k9 := Bk.new v2 3 [.int .i64 0]
      replace S1 := (S1.gr g2).gr gx
      replace P := (P.gr g2).gr gx
      replace kl := (kl.gr g2).gr gx
      replace kn := kn.gr gx
      have hE := run_eqf 34
      clear y3 AL g2
      go_wp2_with fail
      generalize v2.alloc _ = X at *
      obtain ⟨b9, e9⟩ : ∃ b9, b9 = v2.heap.size := ⟨_, rfl⟩
      rw [← e9] at k9 hv2 ⊢
      clear e9 gx
      have hLl := P.so.len P.ds.pd
      have hLm : L.length ≤ 4096 := by have := P.ds.mo; omega
      have SQ := all1_seq 19 bn (by omega) (.pointer (some ⟨d, 0, none⟩)) L hLm X kn (fun _ => False) (fun W' g => sorted_yes (P.ds.gr g) L P.so)
      have e34 : ∀ args w, (callFunc 34 args).run Try.prog w = .ok (.enter 34 args) w := enters_of Try.func34 (by kernel_rfl) rfl
      have hbX := P.ds.size
      have hmX := P.ds.hv.map.lt
      refine (wpIn_wide (n := 20)).1 ?_
      refine range_out (p0 := fun _ => False) (L := L) (encs := dE) (I := Wi B w X d h pb mb r b2 b3 b5 b9 bl L) (Ix := fun _ _ _ => False)
        (Ax := fun x a' A => ∃ b10, Bk A b10 32 (dL x) ∧ a' = { tmps := #[Value.slice ao l.length cap, undef, Value.pointer (some ⟨b2, 0, none⟩), Value.pointer (some ⟨b3, 0, none⟩), Value.int .i64 0, Value.pointer (some ⟨b5, 0, none⟩), Value.int .i64 (k : Int), Value.func (Fn.func 34) #[] #[Value.pointer (some ⟨bl, 0, none⟩)], Value.func (Fn.func 34) #[] #[Value.pointer (some ⟨bn, 0, none⟩)], Value.pointer (some ⟨b9, 0, none⟩), Value.pointer (some ⟨b10, 0, none⟩), Value.slice ao l.length cap, Value.int .i64 (l.length : Int), Value.bool false, Value.tuple #[Value.pointer (some ⟨d, 0, none⟩), Value.int .i64 0], Value.tuple #[Value.pointer (some ⟨d, 0, none⟩), Value.int .i64 0], Value.pointer (some ⟨d, 0, none⟩), Value.int .i64 0, Value.pointer (some ⟨r, 0, none⟩), Value.pointer (some ⟨d, 0, none⟩), Value.bool false, Value.int .i64 (k : Int), Value.slice ao l.length cap, Value.int .i64 (l.length : Int), Value.bool false, u25, u26, u27, u28, u29, u30, u31, u32, u33, u34, u35, u36, u37, u38, u39, Value.pointer (some ⟨d, 0, none⟩), Value.func (Fn.func 34) #[] #[Value.pointer (some ⟨bl, 0, none⟩)], Value.pointer (some ⟨d, 0, none⟩), Value.func (Fn.func 34) #[] #[Value.pointer (some ⟨bn, 0, none⟩)], Value.func (Fn.func 34) #[] #[Value.pointer (some ⟨bl, 0, none⟩)], Value.bool false, Value.bool false, Value.func (Fn.func 34) #[] #[Value.pointer (some ⟨bn, 0, none⟩)], Value.bool false, Value.bool false, Value.func (Fn.func 34) #[] #[Value.pointer (some ⟨bn, 0, none⟩)], dV x, undef, undef, undef, undef, undef, undef, undef, undef, undef, undef, undef, undef, undef, undef, undef, undef, undef, undef, undef, undef, undef, undef, undef, undef, undef, undef, undef, undef, undef, undef, undef, undef, undef, undef, undef, undef], defers := [] })
        rfl e34 SQ ?owes (fun _ => False) (fun _ h => h) (fun _ h => h.elim) ?start ?done ?stop
      case stop =>
        rintro D c pre A hD hpre hx hK
        exact hx.elim
      case start =>
        exact ⟨S1, ⟨v, lst, m, rv, P.ds, P.rf, P.so, P.ap, fun _ h => h.elim⟩, k9, kl, fun _ h => h.elim, hWs, hbX, hmX⟩
      case owes =>
        clear SQ e34 hE S1 P kl kn k9 hLl
        refine ⟨wi_con, fun c s A A' row h _ _ => h, fun x a' _ A A' row h hg hr => ?_, fun _ => rfl, ?_, ?_⟩
        · obtain ⟨b10, h1, h2⟩ := h
          exact ⟨b10, h1.chg (Chg.grownR hg) (fun e => by
            obtain ⟨o, h3, h4⟩ := (hr b10 e).2
            unfold Bk at h1
            rw [h1] at h3
            cases h3
            cases h4), h2⟩
        · intro li p pre x W K hp hpb hI hs hK
          obtain ⟨xa, xo, xf⟩ := x
          have HK := hid0 hK
          have HI := hid0 hI
          clear hK hI
          simp only [dE, dV]
          gi_wp2_with fail
          have g := (Gr.refl W).alloc (.cells #[.int .u32 xa, .int .u32 xo, .int .u32 xf] 32)
          exact HK.out _ _ (g.from _) (Kp.gr hpb g) (wi_con.gr HI.out g) ⟨W.heap.size, Bk.new _ _ _, rfl⟩
        · intro li p pre x a' W hli hrl hp hpb hI hA hpre
          obtain ⟨b10, k10, rfl⟩ := hA
          obtain ⟨n, hn⟩ : ∃ n, n = pre.length := ⟨_, rfl⟩
          obtain ⟨hnL, hnx⟩ : n < L.length ∧ nth L n = x := by
            obtain ⟨t, ht⟩ := hpre
            rw [← ht, hn]
            refine ⟨by simp, ?_⟩
            simp [nth, List.getD]
          obtain ⟨ms, ⟨v, lst, m, rv, D, R, S, ap, pp⟩, k9, kl, p9, lo⟩ := hI
          rw [← hn] at S k9
          obtain ⟨hl0, hh0⟩ := head_is D.pd S hnL
          obtain ⟨g, cp, rfl, _, RG, _⟩ : ∃ g cp, rv = .slice (some ⟨g, 0, none⟩) L.length cp ∧ B ≤ g ∧ RowG W g cp L ∧ L.length ≤ cp := by
            rcases R.shape with ⟨_, h⟩ | h
            · subst h; simp at hnL
            · exact h
          have hnL' : (n : Int) < (L.length : Int) := by omega
          have hge : ¬ (n : Int) ≥ (L.length : Int) := by omega
          have hgd : decide (L.length ≤ n) = false := decide_eq_false (by omega)
          have hiW : X.heap.size ≤ W.heap.size := by
            obtain ⟨_, hrl⟩ := hrl
            have := lt_of_block hrl
            omega
          have WJ := hid0 (Wj.mk (X := X) (bl := bl) ms D R ap pp k9 kl p9 lo hiW hv2)
          have c9 := fun q => below_cell k9.one ((Gr.refl W).drewN q).below
          have c5 := fun q => below_cell ms.k5.one ((Gr.refl W).drewN q).below
          have cr := fun q => below_cell R.cells.2 ((Gr.refl W).drewN q).below
          have p0 := fun q => below_cell (RG.at.cell hnL).1 ((Gr.refl W).drewN q).below
          have p1 := fun q => below_cell (RG.at.cell hnL).2.1 ((Gr.refl W).drewN q).below
          have p2 := fun q => below_cell (RG.at.cell hnL).2.2 ((Gr.refl W).drewN q).below
          rw [show L.getD n (0, 0, 0) = x from hnx] at p0 p1 p2
          have x0 := fun q => below_cell (k10.at 0) ((Gr.refl W).drewN q).below
          have x1 := fun q => below_cell (k10.at 1) ((Gr.refl W).drewN q).below
          have x2 := fun q => below_cell (k10.at 2) ((Gr.refl W).drewN q).below
          have EQ := run_neD x x
          simp only [decide_true, Bool.not_true] at EQ
          have HH := hid0 (hh0.trans hnx)
          have HX := hid0 hnx
          have HN := hid0 hn
          clear hh0 hnx hn hpre
          obtain ⟨xa, xo, xf⟩ := x
          dsimp only [dV] at EQ
          dsimp only at p0 p1 p2
          gi_wp2_with fail
          refine quiet_round rfl (by kernel_rfl) (by kernel_rfl) (by kernel_rfl) ?_
          repeat (gi_big_quiet_step (fail))
          refine wpQuietIn_nil ?_
          rintro _ ⟨nq, rfl⟩
          have WJ2 := WJ.out.gr ((Gr.refl W).drewN nq)
          have hpb2 : ∀ b, p b → b < (W.drewN nq).heap.size := fun b hb => hpb b hb
          have K1 := hid0 (((Gr.refl W).drewN nq).from X.heap.size)
          have K2 := hid0 (Kp.gr hpb ((Gr.refl W).drewN nq))
          clear c9 c5 cr p0 p1 p2 x0 x1 x2 EQ WJ ms D R RG ap pp k9 kl p9 lo k10
          generalize W.drewN nq = W2 at *
          have y9 := WJ2.k9.one
          have f9 := WJ2.k9.frozen 0
          obtain ⟨WJ3, K3, K4⟩ := WJ2.store ((n : Int) + 1)
          have hwn : wrap64 ((n : Int) + 1) = (n : Int) + 1 := by unfold wrap64; omega
          have K5 := hid0 K3
          have K6 := hid0 K4
          have y3 := WJ3.ms.k3.one
          have TK := hid0 (take_yes WJ3.ds 4294967295 (rdy_max hl0 WJ3.ds.pd.ok))
          have WJ4 := hid0 WJ3
          have PD2 := hid0 WJ3.ds.pd
          have SS := hid0 S
          clear WJ2 WJ3 K3 K4 S
          gi_wp2_with fail
          simp only [hwn]
          refine (CallsIn.inRound li (callsIn_wide.2 TK.out)).mono ?_
          rintro e A3 ⟨rfl, v', lst', m', D3, M3, L3, C3⟩
          obtain ⟨W3, K7, K8⟩ := WJ4.out.took (fun b hb => by rw [World.size_setCell]; exact hpb2 b hb) C3 D3
          have K9 := hid0 ((K1.out.trans K5.out).trans K7)
          have K10 := hid0 ((K2.out.t K6.out).t K8)
          have WF : Hid (Wi B w X d h pb mb r b2 b3 b5 b9 bl L p (pre ++ [(xa, xo, xf)]) A3) :=
            W3.wi (n := n + 1) (sort_next PD2.out SS.out hnL (fun y => by rw [HX.out, ← HH.out]; exact M3 y)) (by rw [HN.out]; simp) (by omega)
          clear TK WJ4 PD2 SS C3 D3 M3 L3 W3 K1 K2 K5 K6 K7 K8 y9 f9 y3
          gi_wp2
          exact ⟨K9.out, K10.out, WF.out⟩
      case done =>
        rintro D q W hD hI hpq hDd
        obtain ⟨ms, ⟨v, lst, m, rv, D0, R, S, ap, pp⟩, k9, kl, p9, lo⟩ := hI
        rw [List.drop_length] at S
        obtain rfl : lst = [] := by
          cases lst with
          | nil => rfl
          | cons y t => exact absurd ((S.mem y).2 List.mem_cons_self) (by simp)
        have SQ2 := all1_seq 19 bl (by omega) (.pointer (some ⟨d, 0, none⟩)) [] (by simp) W kl (fun _ => False) (fun W' g => sorted_yes (D0.gr g) [] S)
        clear SQ S1 P hpq pp p9 S kn
        go_wp2_with fail
        refine (wpIn_wide (n := 20)).1 ?_
        refine range_out (p0 := fun _ => False) (L := []) (encs := dE) (I := fun _ _ A => Below W.heap.size W A) (Ix := fun _ _ _ => False) (Ax := fun _ _ _ => True) rfl e34 SQ2 (nil_owes _ _ _ _ _ _ _ rfl ?hA2) (fun _ => False) (fun _ h => h) (fun _ h => h.elim) (BW.refl W) ?done2 ?stop2
        case hA2 =>
          intro l x W K hK
          obtain ⟨xa, xo, xf⟩ := x
          dsimp only [dE, dV]
          gi_wp2
          exact Gr.refl _
        case stop2 =>
          rintro D c pre A hD hpre hx hK
          exact hx.elim
        case done2 =>
          rintro D2 q2 A2 hD2 hI2 hq2 hK2
          have k9' := k9.mono hI2 k9.lt
          have k2' := ms.k2.mono hI2 ms.k2.lt
          have k3' := ms.k3.mono hI2 ms.k3.lt
          have k5' := ms.k5.mono hI2 ms.k5.lt
          have kr' := R.blk.mono hI2 R.blk.lt
          have DD : Ds B A2 d h pb mb v [] m 4096 := D0.chg (p := fun _ => False) (Chg.of_below hI2) (fun e => e) (fun e => e) (fun e => e) (fun _ _ e => e) (fun e => e)
          have LN := hid0 (fun W' (g : Gr A2 W') => len_yes (DD.gr g))
          have hDd' := hid0 ((hI2.block D (lt_of_block hDd)).trans hDd)
          have hB := hid0 (ms.bel.trans (hI2.mono ms.bel.size))
          have hDB : w.heap.size ≤ D := by omega
          have hDB2 : w.heap.size ≤ D2 := by have := lt_of_block hDd; have := k9.lt; have := ms.bel.size; omega
          have hDD : D ≠ D2 := by have := lt_of_block hDd; omega
          have nd : ∀ q o, A2.heap[q]? = some (.deferred o) → q ≠ b2 := fun q o e e2 => by
            rw [e2] at e
            unfold Bk at k2'
            rw [k2'] at e
            cases e
          have nd1 := hid0 (nd D _ hDd'.out)
          have nd2 := hid0 (nd D2 _ hK2)
          have hK2 := hid0 hK2
          obtain ⟨ra, rcp, rfl⟩ : ∃ ra rcp, rv = .slice ra L.length rcp := by
            rcases R.shape with ⟨h1, h2⟩ | ⟨g, cp, h1, _⟩
            · exact ⟨none, 0, by rw [h1, h2]; rfl⟩
            · exact ⟨_, cp, h1⟩
          clear nd hDd SQ2 D0 R ms k9 hI2 DD kl hE ap hLl
          obtain ⟨rc0, rc1⟩ := kr'.two
          have c9 := k9'.one
          have c3 := k3'.one
          have c5 := k5'.one
          have f2 := k2'.frozen 0
          have c2 := k2'.one
          have K2 := hid0 k2'
          clear kr' k9' k3' k5' k2'
          go_wp2_with fail
          refine wp_then ?_
          go_region_with (go_at_call 10; refine (LN.out _ ((Gr.refl A2).drew)).mono ?_; rintro e w' ⟨rfl, hw⟩; cases hw)
          all_goals
            have k0 := K2.out.set 0 (.bool true)
            have B0 : Below w.heap.size w (A2.setCell ⟨b2, 0, none⟩ (.bool true)) := Below.setCell (p := ⟨b2, 0, none⟩) hB.out hb2 (.bool true)
            have e1 : (A2.setCell ⟨b2, 0, none⟩ (.bool true)).heap[D]? = some (.deferred (some [])) := (Below.heap_setCell _ _ _ _ nd1.out).trans hDd'.out
            have e2 : (A2.setCell ⟨b2, 0, none⟩ (.bool true)).heap[D2]? = some (.deferred (some [])) := (Below.heap_setCell _ _ _ _ nd2.out).trans hK2.out
            have gd := (Gr.refl (A2.setCell ⟨b2, 0, none⟩ (.bool true))).drew
            have k1 := hid0 (k0.gr gd)
            have B1 := hid0 (B0.trans (gd.below.mono B0.size))
            have e3 := hid0 ((gd.below.block D (lt_of_block e1)).trans e1)
            have e4 := hid0 ((gd.below.block D2 (lt_of_block e2)).trans e2)
            clear k0 B0 e1 e2 gd K2 hB hDd' hK2 LN c2 f2 c5 c3 c9 rc0 rc1
            generalize World.drew _ = Y at *
            have g1 := grownBy_putObj' Y D2 (.deferred none)
            have k2 : Bk (Y.putObj D2 (.deferred none)) b2 4 [.bool true] := (g1.block b2 k1.out.lt (fun e => nd2.out (by cases e; rfl))).trans k1.out
            have e5 : (Y.putObj D2 (.deferred none)).heap[D]? = some (.deferred (some [])) := (World.putObj_heap_other hDD).trans e3.out
            have B2 := B1.out.trans (belowK_b (w := w) (Nat.le_refl _) Y D2 _ (.deferred none) hDB2 e4.out rfl rfl)
            have g2 := grownBy_putObj' (Y.putObj D2 (.deferred none)) D (.deferred none)
            have k3 : Bk ((Y.putObj D2 (.deferred none)).putObj D (.deferred none)) b2 4 [.bool true] := (g2.block b2 k2.lt (fun e => nd1.out (by cases e; rfl))).trans k2
            have B3 := hid0 (B2.trans (belowK_b (w := w) (Nat.le_refl _) (Y.putObj D2 (.deferred none)) D _ (.deferred none) hDB e5 rfl rfl))
            have q0 := hid0 k3.one
            have e5 := hid0 e5
            clear g1 k2 B2 g2 k3
            go_wp2
            have q0 := q0.out
            exact ⟨by simp, .inl ⟨_, _, rfl, run_takeDeferred e4.out, by simp, .inl ⟨_, _, rfl, run_takeDeferred e5.out, .bool true, by simp [results, Try.results5, go_sem, q0], rfl, B3.out⟩⟩⟩
end Go.Proofs.Ytaapdkjmlplhgaa
