/- Join, Cut, Meet. -/
import Derived.Test.YtjnjpjpgokdciaaDoorRb
import Derived.Deep.LoopGhost
set_option linter.unusedSimpArgs false
set_option linter.unusedVariables false
namespace Go.Proofs.YtjnjpjpgokdciaaDoor
open Go.RowKit Go.Sort Go.Shelf
attribute [local go_sem] Oper.semAt_some wide_fn
attribute [local simp] wide_fn

/-- 0: join; 1: cut; 2: meet. -/
def opB (h : Nat) (x y : Bool) : Bool := if h = 0 then x || y else if h = 1 then x && !y else x && y
def opW (h : Nat) (x y : Nat) : Nat := if h = 0 then x ||| y else if h = 1 then x &&& (18446744073709551615 - y) else x &&& y
def fnO (h : Nat) : Nat := if h = 0 then 62 else if h = 1 then 64 else 63
def zipT (h : Nat) (T U : List Bool) : List Bool := List.zipWith (opB h) T U
theorem opB_false (h : Nat) : opB h false false = false := by unfold opB; (repeat' split) <;> rfl
theorem opW_lt (h : Nat) {x y : Nat} (hx : x < 18446744073709551616) (hy : y < 18446744073709551616) : opW h x y < 18446744073709551616 := by
  unfold opW
  split
  · have := Nat.or_lt_two_pow (n := 64) (by omega : x < 2 ^ 64) (by omega : y < 2 ^ 64); omega
  · split
    · have := Nat.and_lt_two_pow (n := 64) x (Nat.lt_of_le_of_lt (Nat.sub_le _ _) (by decide) : 18446744073709551615 - y < 2 ^ 64); omega
    · exact and_lt64 hy
theorem opW_bit (h : Nat) {x y j : Nat} (hy : y < 18446744073709551616) (hj : j < 64) : (opW h x y).testBit j = opB h (x.testBit j) (y.testBit j) := by
  unfold opW opB
  split
  · rw [Nat.testBit_or]
  · split
    · rw [Nat.testBit_and, not_testBit hy hj]
    · rw [Nat.testBit_and]
theorem zipT_getD (h : Nat) {T U : List Bool} (hl : T.length = U.length) (i : Nat) : (zipT h T U).getD i false = opB h (T.getD i false) (U.getD i false) := by
  unfold zipT
  simp only [List.getD_eq_getElem?_getD, List.getElem?_zipWith]
  by_cases hi : i < T.length
  · rw [List.getElem?_eq_getElem hi, List.getElem?_eq_getElem (by omega)]
    rfl
  · rw [List.getElem?_eq_none (by omega), List.getElem?_eq_none (by omega)]
    exact (opB_false h).symm
theorem zipT_len (h : Nat) {T U : List Bool} (hl : T.length = U.length) : (zipT h T U).length = T.length := by simp [zipT, hl]
theorem Rep.zip (h : Nat) {T U : List Bool} {W V : List Nat} (a : Rep T W) (b : Rep U V) (hl : T.length = U.length) (X : List Nat) (hX : X.length = W.length) (hx : ∀ k, k < W.length → X.getD k 0 = opW h (W.getD k 0) (V.getD k 0)) : Rep (zipT h T U) X := by
  refine ⟨by rw [hX, a.len, zipT_len h hl], fun x hm => ?_, fun i => ?_⟩
  · obtain ⟨k, hk⟩ := List.mem_iff_getElem?.1 hm
    have hkl := (List.getElem?_eq_some_iff.1 hk).1
    have := hx k (by omega)
    rw [List.getD_eq_getElem?_getD, hk] at this
    simp only [Option.getD_some] at this
    rw [this]
    exact opW_lt h (a.word k) (b.word k)
  · rw [zipT_getD h hl, ← a.is i, ← b.is i]
    unfold bt
    by_cases hi : i / 64 < W.length
    · rw [hx _ hi, opW_bit h (b.word _) (Nat.mod_lt _ (by omega))]
    · have hv := b.len
      have ha := a.len
      have e1 : X.getD (i / 64) 0 = 0 := by rw [List.getD_eq_getElem?_getD, List.getElem?_eq_none (by omega)]; rfl
      have e2 : W.getD (i / 64) 0 = 0 := by rw [List.getD_eq_getElem?_getD, List.getElem?_eq_none (by omega)]; rfl
      have e3 : V.getD (i / 64) 0 = 0 := by rw [List.getD_eq_getElem?_getD, List.getElem?_eq_none (by omega)]; rfl
      rw [e1, e2, e3, Nat.zero_testBit, opB_false]
theorem fo_any (h : Nat) (x y : Nat) (hx : x < 18446744073709551616) (hy : y < 18446744073709551616) (w : World) : Calls Tryd.prog (fnO h) #[.int .u64 (x : Int), .int .u64 (y : Int)] w fun e w' => e = .returned (.int .u64 ((opW h x y : Nat) : Int)) ∧ w' = w := by
  unfold fnO opW
  by_cases h0 : h = 0
  · simp only [if_pos h0]
    have e := bits_or_u64_nat x y hx hy
    go_enter Tryd.func62, Tryd.ntmps62
    go_wp2
    go_ret
    exact ⟨rfl, rfl⟩
  · by_cases h1 : h = 1
    · simp only [if_neg h0, if_pos h1]
      have e := bits_andNot_u64_nat x y hx hy
      go_enter Tryd.func64, Tryd.ntmps64
      go_wp2
      go_ret
      exact ⟨rfl, rfl⟩
    · simp only [if_neg h0, if_neg h1]
      have e := bits_and_u64_nat x y hx hy
      go_enter Tryd.func63, Tryd.ntmps63
      go_wp2
      go_ret
      exact ⟨rfl, rfl⟩
/-- The words as they are when k of them have been turned. -/
structure Zp (h : Nat) (W V : List Nat) (k : Nat) (X : List Nat) : Prop where
  len : X.length = W.length
  done : ∀ j, j < k → X.getD j 0 = opW h (W.getD j 0) (V.getD j 0)
  rest : ∀ j, k ≤ j → X.getD j 0 = W.getD j 0
theorem Zp.start (h : Nat) (W V : List Nat) : Zp h W V 0 W := ⟨rfl, fun j hj => absurd hj (Nat.not_lt_zero _), fun _ _ => rfl⟩
theorem nat_getD_set (X : List Nat) (k x j : Nat) (hk : k < X.length) : (X.set k x).getD j 0 = if j = k then x else X.getD j 0 := by
  rw [List.getD_eq_getElem?_getD, List.getElem?_set]
  split
  · rename_i h; rw [if_pos h.symm]; simp [← h, hk]
  · rename_i h; rw [if_neg (fun e => h e.symm), List.getD_eq_getElem?_getD]
theorem Zp.step {h : Nat} {W V X : List Nat} {k : Nat} (a : Zp h W V k X) (hk : k < W.length) : Zp h W V (k + 1) (X.set k (opW h (W.getD k 0) (V.getD k 0))) := by
  have hl := a.len
  refine ⟨by rw [List.length_set]; exact a.len, fun j hj => ?_, fun j hj => ?_⟩
  · rw [nat_getD_set _ _ _ _ (by omega)]
    split
    · rename_i e; rw [e]
    · exact a.done j (by omega)
  · rw [nat_getD_set _ _ _ _ (by omega), if_neg (by omega)]
    exact a.rest j (by omega)
theorem bk_inj {w : World} {b t t' : Nat} {l l' : List Value} (h : Bk w b t l) (k : Bk w b t' l') : l = l' := by
  unfold Bk at h k
  rw [h] at k
  simp only [Option.some.injEq, Obj.cells.injEq] at k
  exact congrArg Array.toList k.1
theorem wV_inj {W V : List Nat} (h : W.map wV = V.map wV) : W = V := by
  apply List.ext_getElem?
  intro i
  have := congrArg (fun l => l[i]?) h
  simp only [List.getElem?_map] at this
  cases e1 : W[i]? with
  | none => rw [e1] at this; cases e2 : V[i]? with
    | none => rfl
    | some y => rw [e2] at this; cases this
  | some x =>
    rw [e1] at this
    cases e2 : V[i]? with
    | none => rw [e2] at this; cases this
    | some y =>
      rw [e2] at this
      simp only [Option.map_some, Option.some.injEq, wV, Value.int.injEq, true_and] at this
      rw [show x = y by omega]
theorem words_at {w wr : World} {c gc g k : Nat} {U : List Bool} {W V X : List Nat} {h : Nat} (hc : BitsIs w c gc U V) (hg : Bk w g 116 (W.map wV)) (hC : Chg (fun j => j = g) w wr) (hX : Bk wr g 116 (X.map wV)) (hZ : Zp h W V k X) (hk : k < V.length) : wr.cell? ⟨gc, k, none⟩ = some (.int .u64 ((V.getD k 0 : Nat) : Int)) := by
  by_cases e : gc = g
  · subst e
    have hWV : W = V := wV_inj (bk_inj hg hc.row)
    subst hWV
    have hl := hZ.len
    rw [hX.at k, List.getElem?_map, List.getElem?_eq_getElem (by omega)]
    have := hZ.rest k (Nat.le_refl _)
    rw [List.getD_eq_getElem?_getD, List.getElem?_eq_getElem (by omega : k < X.length)] at this
    simp only [Option.getD_some] at this
    rw [← this]
    rfl
  · rw [(hc.row.chg hC e).at k, List.getElem?_map, List.getElem?_eq_getElem hk, List.getD_eq_getElem?_getD, List.getElem?_eq_getElem hk]
    rfl
theorem change_nil (v1 v2 : Value) (f : Value) (w : World) (h : NoBits w v1 ∨ (∃ b, v1 = pT b ∧ w.cell? ⟨b, 0, none⟩ = some (.bool true)) ∧ NoBits w v2) : Calls Tryd.prog 61 #[v1, v2, f] w fun e w' => e = .returned (.int .i64 1) ∧ w' = w := by
  rcases h with h | ⟨⟨b, rfl, c0⟩, h⟩
  · have A := hid0 (babsent_nil v1 w h)
    clear h
    go_enter Tryd.func61, Tryd.ntmps61
    go_wp2_with (go_at_call 50; refine A.out.mono ?_; rintro e w1 ⟨rfl, hw⟩; cases hw)
    go_ret
    exact ⟨rfl, rfl⟩
  · have A := hid0 (babsent_yes b w c0)
    have B := hid0 (babsent_nil v2 w h)
    clear h c0
    go_enter Tryd.func61, Tryd.ntmps61
    go_wp2_with fail
    refine A.out.mono ?_
    rintro e w1 ⟨rfl, hw⟩
    cases hw
    go_wp2_with fail
    refine B.out.mono ?_
    rintro e w1 ⟨rfl, hw⟩
    cases hw
    go_wp2
    go_ret
    exact ⟨rfl, rfl⟩
section
variable {w : World} {b g c gc : Nat} {T U : List Bool} {W V : List Nat}
theorem change_arg (f : Value) (h : BitsIs w b g T W) (k : BitsIs w c gc U V) (hne : T.length ≠ U.length) : Calls Tryd.prog 61 #[pT b, pT c, f] w fun e w' => e = .returned (.int .i64 2) ∧ Gr w w' := by
  have A := hid0 (babsent_yes b w h.c0)
  have B := hid0 (babsent_yes c w k.c0)
  have c1 := fun m => below_cell h.c1 ((Gr.refl w).drewN m).below
  have k1 := fun m => below_cell k.c1 ((Gr.refl w).drewN m).below
  have hne' : ((T.length : Int) != (U.length : Int)) = true := by simp; omega
  clear h k hne
  go_enter Tryd.func61, Tryd.ntmps61
  go_wp2_with fail
  refine A.out.mono ?_
  rintro e w1 ⟨rfl, hw⟩
  cases hw
  go_wp2_with fail
  refine B.out.mono ?_
  rintro e w1 ⟨rfl, hw⟩
  cases hw
  clear A B
  go_upto_region 3 with fail
  go_quiet (fail)
  go_wp2
  go_ret
  exact ⟨rfl, (Gr.refl w).drewN _⟩
theorem fo_enters (o : Nat) : ∀ args w, (callFunc (fnO o) args).run Tryd.prog w = .ok (.enter (fnO o) args) w := by
  unfold fnO
  by_cases h0 : o = 0
  · rw [if_pos h0]; exact enters_of Tryd.func62 (by kernel_rfl) rfl
  · rw [if_neg h0]
    by_cases h1 : o = 1
    · rw [if_pos h1]; exact enters_of Tryd.func64 (by kernel_rfl) rfl
    · rw [if_neg h1]; exact enters_of Tryd.func63 (by kernel_rfl) rfl
set_option maxHeartbeats 2000000 in
theorem change_ok (o : Nat) (h : BitsIs w b g T W) (k : BitsIs w c gc U V) (he : T.length = U.length) : Calls Tryd.prog 61 #[pT b, pT c, .func (.func (fnO o)) #[] #[]] w fun e w' => e = .returned (.int .i64 0) ∧ (∃ W', BitsIs w' b g (zipT o T U) W') ∧ Chg (fun j => j = g) w w' := by
  have A := hid0 (babsent_yes b w h.c0)
  have B := hid0 (babsent_yes c w k.c0)
  have c1 := fun m => below_cell h.c1 ((Gr.refl w).drewN m).below
  have k1 := fun m => below_cell k.c1 ((Gr.refl w).drewN m).below
  have hne' : ((T.length : Int) != (U.length : Int)) = false := by simp; omega
  have hWV : W.length = V.length := by rw [h.rep.len, k.rep.len, he]
  have hb1024 : V.length ≤ 1024 := by have := k.rep.len; have := k.most; omega
  have HB := hid0 h
  have HC := hid0 k
  have HE := hid0 he
  clear h k he
  go_enter Tryd.func61, Tryd.ntmps61
  go_wp2_with fail
  refine A.out.mono ?_
  rintro e w1 ⟨rfl, hw⟩
  cases hw
  go_wp2_with fail
  refine B.out.mono ?_
  rintro e w1 ⟨rfl, hw⟩
  cases hw
  clear A B
  go_upto_region 3 with fail
  go_quiet (fail)
  generalize hW1 : w.drewN _ = w1 at *
  have G1 := hid0 (hW1 ▸ (Gr.refl w).drewN _ : Gr w w1)
  have B1 := hid0 (HB.out.gr G1.out)
  have C1 := hid0 (HC.out.gr G1.out)
  have k2 := C1.out.c2
  clear c1 k1 hW1 HB HC
  generalize hK : V.length = K at *
  have HK := hid0 hK
  clear hK
  go_wp2
  go_loopg [31] K (fun kx s31 wr => ∃ (n : Nat) (X : List Nat), s31 = .int .i64 (n : Int) ∧ n ≤ K ∧ kx = K - n ∧ Hid (Bk wr g 116 (X.map wV)) ∧ Hid (Zp o W V n X) ∧ Hid (Chg (fun j => j = g) w1 wr))
  case atStart => exact ⟨0, W, rfl, Nat.zero_le _, rfl, B1.out.row, Zp.start o W V, Chg.refl _ _⟩
  case round =>
    obtain ⟨n, X, rfl, hn, rfl, RX, ZX, CX⟩ := hrel
    by_cases hlt : n < K
    · have hlt' : (n : Int) < (K : Int) := by omega
      have cw := words_at C1.out B1.out.row CX.out RX.out ZX.out (k := n) (by rw [HK.out]; exact hlt)
      have hbg : b ≠ g := fun e => by have h1 := B1.out.blk; have h2 := B1.out.row; rw [e] at h1; have := bk_ty h1 h2; cases this
      have bb := B1.out.blk.chg CX.out hbg
      have hXl : X.length = K := by rw [ZX.out.len]; exact hWV
      have bw : wr.cell? ⟨g, n, none⟩ = some (.int .u64 ((W.getD n 0 : Nat) : Int)) := by
        rw [RX.out.at n, List.getElem?_map, List.getElem?_eq_getElem (by omega)]
        have := ZX.out.rest n (Nat.le_refl _)
        rw [List.getD_eq_getElem?_getD, List.getElem?_eq_getElem (by omega : n < X.length)] at this
        simp only [Option.getD_some] at this
        rw [← this]
        rfl
      have FX : Hid (∀ m, Calls Tryd.prog (fnO o) #[.int .u64 ((W.getD n 0 : Nat) : Int), .int .u64 ((V.getD n 0 : Nat) : Int)] (wr.drewN m) fun e w' => e = .returned (.int .u64 ((opW o (W.getD n 0) (V.getD n 0) : Nat) : Int)) ∧ ∃ m, w' = wr.drewN m) := fun m => calmD (fun w' _ => fo_any o _ _ (B1.out.rep.word n) (C1.out.rep.word n) w') m
      have b2 := fun m => below_cell (bb.at 2) ((Gr.refl wr).drewN m).below
      have bwm := fun m => below_cell bw ((Gr.refl wr).drewN m).below
      have fzm := fun m => (RX.out.gr ((Gr.refl wr).drewN m)).frozen n
      have Z2 := hid0 (ZX.out.step (k := n) (by omega))
      have R2 : Hid (∀ m, Bk ((wr.drewN m).setCell ⟨g, n, none⟩ (.int .u64 ((opW o (W.getD n 0) (V.getD n 0) : Nat) : Int))) g 116 ((X.set n (opW o (W.getD n 0) (V.getD n 0))).map wV)) := fun m => by
        rw [List.map_set]
        exact (RX.out.gr ((Gr.refl wr).drewN m)).set n _
      have C2 : Hid (∀ m, Chg (fun j => j = g) w1 ((wr.drewN m).setCell ⟨g, n, none⟩ (.int .u64 ((opW o (W.getD n 0) (V.getD n 0) : Nat) : Int)))) := fun m => (CX.out.gr ((Gr.refl wr).drewN m)).trans (Chg.set (p := fun j => j = g) _ (a := ⟨g, n, none⟩) rfl _)
      have hwl : (n : Int) < (W.length : Int) := by omega
      clear RX ZX CX bb bw hXl
      generalize opW o (W.getD n 0) (V.getD n 0) = Y at *
      generalize W.getD n 0 = A at *
      generalize V.getD n 0 = D at *
      have EG := hid0 (fo_enters o)
      generalize fnO o = fo at *
      go_upto_region 8 with fail
      obtain ⟨nF, hnF⟩ : ∃ nF : Nat, 5 ≤ nF := ⟨5, by omega⟩
      refine (wpIn_wide (n := nF)).1 ?_
      refine region_head_lit 16 (by kernel_rfl) (by kernel_rfl) (by simp) (by kernel_rfl) ?_
      simp only [List.take_succ_cons, List.take_zero, List.drop_succ_cons, List.drop_zero]
      repeat (gi_big_quiet_step (fail))
      refine BigFrame.wpQuietIn_want (by intro w _ f hf; exact trivial) (by rfl) ?_
      intro KK hKK
      gi_big_quiet_op
      gi_big_quiet_call (first | (rw [EG.out]; exact ⟨rfl, fun _ => by omega, callsIn_wide.2 (FX.out _)⟩))
      repeat (gi_big_quiet_step (fail))
      refine wpQuietIn_nil ?_
      intro _ hw'
      obtain ⟨q, rfl⟩ := hw'
      gi_wp2
      go_wp2
      go_roundg (K - (n + 1))
      case measure => omega
      case rel => exact ⟨n + 1, _, by simp, by omega, rfl, R2.out q, Z2, C2.out q⟩
    · have hge : ¬ (n : Int) < (K : Int) := by omega
      obtain rfl : n = K := by omega
      have hbg : b ≠ g := fun e => by have h1 := B1.out.blk; have h2 := B1.out.row; rw [e] at h1; have := bk_ty h1 h2; cases this
      have FB : Hid (BitsIs wr b g (zipT o T U) X) := by
        refine ⟨?_, RX.out, B1.out.rep.zip o C1.out.rep HE.out X ZX.out.len (fun k hk => ZX.out.done k (by omega)), by rw [zipT_len o HE.out]; exact B1.out.most⟩
        rw [zipT_len o HE.out, ZX.out.len]
        exact B1.out.blk.chg CX.out hbg
      have FC := hid0 ((Chg.of_gr (p := fun j => j = g) G1.out).trans CX.out)
      clear RX ZX CX
      go_wp2
      go_ret
      exact ⟨rfl, ⟨_, FB.out⟩, FC.out⟩
end
end Go.Proofs.YtjnjpjpgokdciaaDoor
