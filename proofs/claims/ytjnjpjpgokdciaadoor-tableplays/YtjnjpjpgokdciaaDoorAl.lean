/- A table's All, as it is asked for and as it is gone over. -/
import Derived.Test.YtjnjpjpgokdciaaDoorSx
set_option linter.unusedSimpArgs false
set_option linter.unusedVariables false
namespace Go.Proofs.YtjnjpjpgokdciaaDoor
open Go.RowKit Go.Sort Go.Shelf
attribute [local go_sem] Oper.semAt_some wide_fn
attribute [local simp] wide_fn

/-- What All has laid: the captured list of the rows. -/
structure TKept (w : World) (bt : Nat) (v : Value) (L : List En) : Prop where
  cap : Bk w bt 52 [v]
  sl : Sl 0 w v L
  ents : Ents w L
  few : L.length ≤ 65536
/-- The blocks that a walk over a table reads. -/
abbrev tK (b : Nat) (v : Value) (L : List En) : Nat → Prop := fun k => k = b ∨ v.ownBlock = some k ∨ ∃ x ∈ L, k = x.2.2
theorem TKept.kp {w w' : World} {b : Nat} {v : Value} {L : List En} (h : TKept w b v L) (k : ∀ g, tK b v L g → w'.heap[g]? = w.heap[g]?) : TKept w' b v L :=
  ⟨h.cap.same (k b (.inl rfl)), h.sl.keep (fun g e => k g (.inr (.inl e))), fun x hx => (h.ents x hx).same (k _ (.inr (.inr ⟨x, hx, rfl⟩))), h.few⟩
theorem TKept.lt {w : World} {b : Nat} {v : Value} {L : List En} (h : TKept w b v L) {g : Nat} (k : tK b v L g) : g < w.heap.size := by
  rcases k with rfl | e | ⟨x, hx, rfl⟩
  · exact h.cap.lt
  · exact (h.sl.lt e).1
  · exact (h.ents x hx).lt
theorem TKept.gr {w w' : World} {b : Nat} {v : Value} {L : List En} (h : TKept w b v L) (k : Gr w w') : TKept w' b v L := h.kp fun g e => k.below.block _ (h.lt e)
theorem TKept.below {w w' : World} {b : Nat} {v : Value} {L : List En} (h : TKept w b v L) (k : Below w.heap.size w w') : TKept w' b v L := h.kp fun g e => k.block _ (h.lt e)
abbrev tEnc (x : En) : Array Value := #[.int .u32 x.1, vV x.2.1]
set_option maxRecDepth 100000 in
set_option maxHeartbeats 4000000 in
theorem tall1_in (n : Nat) (hn : 3 ≤ n) (l b : Nat) (v : Value) (L : List En) (J : (Nat → Prop) → List En → World → Prop) (Jx : List En → World → Prop) (p : Nat → Prop) (W : World)
    (hb : TKept W b v L) (pb : ∀ k, tK b v L k → p k) (hps : ∀ b, p b → b < W.heap.size) (hJ : Con W.heap.size J)
    (hY : ∀ pre x W1, (∀ b, p b → b < W1.heap.size) → J p pre W1 → W.heap.size ≤ W1.heap.size → pre ++ [x] <+: L → YieldAt Fence.wide 0 Tryd.prog l (tEnc x) W1 (RoundEnds W.heap.size J Jx p (pre ++ [x]) W1))
    (h0 : J p [] W) :
    CallsIn Fence.wide n Tryd.prog 39 #[.func (.yield l) #[] #[], pT b] W fun e W' => (∃ v, e = .returned v) ∧
      ((∃ q, J q L W' ∧ ∀ b, p b → q b) ∨ (∃ pre, pre <+: L ∧ Jx pre W')) := by
  have HY := hid0 hY
  have HB := hid0 hb
  have HJC := hid0 hJ
  have c0 := hb.cap.one
  have hfew := hb.few
  obtain ⟨ao, c, rfl⟩ := hb.sl.slice
  have KP : Hid (∀ W', Kp p W W' → TKept W' b (.slice ao L.length c) L) := fun W' k => HB.out.kp (fun g e => k g (pb g e))
  clear hY hb hJ
  generalize hlen : L.length = nL at *
  have HL := hid0 hlen
  clear hlen
  refine callsIn_of_wp Tryd.func39 rfl trivial ?_ rfl
  simp only [Tryd.ntmps39, List.size_toArray, List.length_cons, List.length_nil, Nat.reduceAdd, Nat.reduceSub, Array.replicate_succ, Array.replicate_zero, List.push_toArray, List.append_toArray, List.nil_append, List.cons_append]
  gi_wp2
  gi_loopw [4, 7] (fun s4 s7 wr => ∃ i : Nat, s7 = .int .i64 (i : Int) ∧ i ≤ nL ∧ Hid (J p (L.take i) wr) ∧ Hid (Kp p W wr) ∧ W.heap.size ≤ wr.heap.size) (fun _ s _ => nL - (intOf s).toNat)
  case atStart => exact ⟨0, rfl, Nat.zero_le _, by simpa [Hid] using h0, Kp.refl _, Nat.le_refl _⟩
  case round =>
    clear h0
    obtain ⟨i, rfl, hi, HJ, HK, hsz⟩ := hrel
    by_cases hlt : i < nL
    · obtain ⟨x, hx⟩ : ∃ x, L[i]? = some x := ⟨_, List.getElem?_eq_getElem (by rw [HL.out]; exact hlt)⟩
      have hlt' : (i : Int) < (nL : Int) := by omega
      have TS : Hid (L.take (i + 1) = L.take i ++ [x]) := by simp [Hid, List.take_add_one, hx]
      have HP : Hid (L.take i ++ [x] <+: L) := by
        show _ <+: _
        rw [← TS.out]
        exact List.take_prefix _ _
      have KT := (KP.out wr HK.out)
      obtain ⟨g, cp, e, hB0, hR⟩ : ∃ g cp, Value.slice ao nL c = .slice (some ⟨g, 0, none⟩) L.length cp ∧ 0 ≤ g ∧ RowG wr g cp L := by
        rcases KT.sl with ⟨e, rfl⟩ | h
        · simp at hx
        · exact h
      simp only [Value.slice.injEq] at e
      obtain ⟨rfl, e3, rfl⟩ := e
      clear e3
      have cc := hR.cell hx
      have rk := KT.ents x (List.mem_of_getElem? hx)
      have r0 := fun m => below_cell (rk.at 0) ((Gr.refl wr).drewN m).below
      have r1 := fun m => below_cell (rk.at 1) ((Gr.refl wr).drewN m).below
      have r2 := fun m => below_cell (rk.at 2) ((Gr.refl wr).drewN m).below
      try simp only [List.getElem?_cons_zero, List.getElem?_cons_succ] at r0 r1 r2
      have HYX : Hid (∀ m, YieldAt Fence.wide 0 Tryd.prog l (tEnc x) (wr.drewN m) (RoundEnds W.heap.size J Jx p (L.take i ++ [x]) (wr.drewN m))) := fun m =>
        HY.out (L.take i) x (wr.drewN m) (fun b hb => Nat.lt_of_lt_of_le (hps b hb) (Nat.le_trans hsz ((Gr.refl wr).drewN m).size)) (HJC.out.gr HJ.out ((Gr.refl wr).drewN m)) (Nat.le_trans hsz ((Gr.refl wr).drewN m).size) HP.out
      have HKD : Hid (∀ m, Kp p W (wr.drewN m)) := fun m => HK.out.t (Kp.gr (fun b hb => Nat.lt_of_lt_of_le (hps b hb) hsz) ((Gr.refl wr).drewN m))
      clear hR rk KT HJ HK hx
      gi_wp2
      refine region_head_lit 9 (by kernel_rfl) (by kernel_rfl) (by simp) (by kernel_rfl) ?_
      simp only [List.take_succ_cons, List.take_zero, List.drop_succ_cons, List.drop_zero]
      repeat (gi_big_quiet_step (fail))
      refine wpQuietIn_nil ?_
      intro _ hw'
      obtain ⟨q, rfl⟩ := hw'
      have hy := HYX.out q
      have hK2 := HKD.out q
      have hs2 : W.heap.size ≤ (wr.drewN q).heap.size := Nat.le_trans hsz ((Gr.refl wr).drewN q).size
      have HK2 := hid0 hK2
      clear r0 r1 r2 cc HYX HKD hK2
      generalize wr.drewN q = W2 at *
      obtain ⟨fn, tmps, assign, body, hy, hRd⟩ := yield_depth (n - 1) hy
      dsimp only [tEnc] at hy
      gi_wp2
      refine ⟨fun h => (by cases h), hRd.mono ?_⟩
      clear hy hRd
      rintro e W3 (⟨rfl, hJ3, hk3, hf3⟩ | ⟨rfl, hJx3, hf3⟩)
      · replace hJ3 := hid0 hJ3
        have hK3 := hid0 (HK2.out.t hk3)
        have hs3 := hf3.size
        clear hk3 hf3 HK2
        gi_wp2
        go_roundw
        case rel => exact ⟨i + 1, by simp, by omega, by show J _ _ _; rw [TS.out]; exact hJ3.out, hK3, by omega⟩
        case measure => simp [intOf]; omega
      · replace hJx3 := hid0 hJx3
        clear hf3
        gi_wp2
        refine bodyPost_ret (results_none rfl _ _ _) rfl ?_
        exact ⟨⟨_, rfl⟩, .inr ⟨_, HP.out, hJx3.out⟩⟩
    · have hge : ¬ (i : Int) < (nL : Int) := by omega
      have HE : Hid (J p L wr) := by
        have := HJ.out
        rw [List.take_of_length_le (by rw [HL.out]; omega)] at this
        exact this
      clear HJ
      gi_wp2
      go_end0
      exact ⟨⟨_, rfl⟩, .inl ⟨p, HE.out, fun _ h => h⟩⟩
theorem tall1_seq (n : Nat) (hn : 3 ≤ n) (b : Nat) (v : Value) (L : List En) (w : World) (hb : TKept w b v L) :
    SeqO n 39 #[pT b] tEnc L (tK b v L) w := fun l J Jx p W gW hp hpb hJ _ hY h0 =>
  tall1_in n hn l b v L J Jx p W (hb.gr gW) hp hpb hJ (fun pre x W1 h2 h3 h4 h5 => hY p pre x W1 hp h2 h3 h4 h5) h0
theorem own_rows {w : World} {v : Value} {L : List En} {B : Nat} (h : w.ownsRow B 97 1 v L.length (pts L)) : Sl 0 w v L := by
  rcases h.2 with ⟨rfl, hn⟩ | ⟨g, cap, cur, rfl, hg, hh, hle, hm, hs, ht⟩
  · exact .inl ⟨rfl, List.eq_nil_of_length_eq_zero hn⟩
  · refine .inr ⟨g, cap, rfl, Nat.zero_le _, cur.toList.drop L.length, ?_, ?_, hm⟩
    · unfold Bk
      rw [hh]
      simp only [Option.some.injEq, Obj.cells.injEq, and_true]
      apply Array.toList_inj.1
      rw [← ht, Nat.mul_one, List.take_append_drop]
    · simp [hs]
      omega
def TAllR (w : World) (L : List En) (e : Ending) (w' : World) : Prop := ∃ bt v, e = .returned (.func (.func 39) #[] #[pT bt]) ∧ TKept w' bt v L ∧ Below w.heap.size w w' ∧ ∀ g, v.ownBlock = some g → w.heap.size ≤ g
theorem p97_info : (Tryd.prog.info? 97).map (fun i => (i.zero, i.size, i.bytes)) = some (some (.pointer none), 1, 8) := by kernel_rfl
theorem tall_any {B : Nat} {w : World} {t room : Nat} {v : Value} {L : List En} (h : TabIs B w t room v L) : Calls Tryd.prog 9 #[pT t] w (TAllR w L) := by
  have k0 := Bk.new w 52 [.slice none 0 0]
  have g0 := (Gr.refl w).alloc (.cells #[.slice none 0 0] 52)
  have H := hid0 (h.gr g0)
  clear h
  go_enter Tryd.func9, Tryd.ntmps9
  go_upto_region 2 with fail
  obtain ⟨bt, ebt, hbt⟩ : ∃ k, k = w.heap.size ∧ w.heap.size ≤ k := ⟨_, rfl, Nat.le_refl _⟩
  rw [← ebt] at k0 ⊢
  clear ebt
  generalize w.alloc _ = W1 at *
  have A := hid0 (absent_yes t W1 H.out.c0)
  obtain ⟨i0, hi, hz0, hz1, hz2⟩ := info_parts p97_info
  have hl : L.length ≤ 65536 := Nat.le_trans H.out.len H.out.most
  have c2 := H.out.c2
  obtain ⟨ao, c, rfl⟩ := H.out.sl.slice
  have CL : Hid (Calls Tryd.prog 38 #[.slice ao L.length c] W1 fun e w' => ∃ v', e = .returned v' ∧ w'.ownsRow W1.heap.size 97 1 v' L.length (pts L) ∧ Below W1.heap.size W1 w') := by
    rcases H.out.sl with ⟨e, e2⟩ | ⟨g, cp, e, hB1, hR⟩
    · simp only [Value.slice.injEq] at e
      obtain ⟨rfl, _, rfl⟩ := e
      subst e2
      exact (AnyE.slices_Clone_nil Tryd.laysClP 0 0 W1).mono fun e w2 ⟨h1, h2⟩ => ⟨_, h1, World.ownsRow_nil _ _ _ _, by rw [h2]; exact (Gr.refl W1).below⟩
    · simp only [Value.slice.injEq] at e
      obtain ⟨rfl, _, rfl⟩ := e
      refine (AnyE.slices_Clone Tryd.laysClP i0 (.pointer none) 1 8 hi hz0 hz1 hz2 rfl (by decide) (by intro w; exact Tryd.sizeOf97 w) g 0 L.length c (pts L) W1 (by simp [pts]) (by unfold maxLen; omega) (by omega)
        (fun j u hj => by obtain ⟨r, hR, _⟩ := hR; rw [Nat.zero_add, hR.at, List.getElem?_append_left (List.getElem?_eq_some_iff.1 hj).1]; exact hj) (fun u hu => by obtain ⟨x, _, rfl⟩ := List.mem_map.1 hu; rfl)).mono ?_
      rintro e w2 ⟨v', rfl, hO, hv, hB⟩
      exact ⟨v', rfl, hO, hB⟩
  clear hi hz0 hz1 hz2
  go_wp2_with (go_at_call 37; refine A.out.mono ?_; rintro e w1 ⟨rfl, hw⟩; cases hw)
  refine CL.out.mono ?_
  rintro e w2 ⟨v', rfl, hO, hB⟩
  have k2 := k0.mono hB k0.lt
  have f2 := k2.frozen 0
  have e2 := k2.one
  have hv0 : ∀ g, v'.ownBlock = some g → W1.heap.size ≤ g := fun g e => (hO.lt g e).1
  have E2 : Ents w2 L := fun x hx => (H.out.ents x hx).mono hB (H.out.ents x hx).lt
  obtain ⟨ao, n', c', rfl⟩ : ∃ ao n' c', v' = .slice ao n' c' := by
    rcases hO.2 with ⟨e, _⟩ | ⟨g', cap, cur, e, _⟩
    · exact ⟨_, _, _, e⟩
    · exact ⟨_, _, _, e⟩
  have hne : ∀ g, (Value.slice ao n' c').ownBlock = some g → g ≠ bt := fun g e => by have h1 := hv0 g e; have := k0.lt; omega
  have WA := own_rows hO
  have K3 : Hid (TKept (w2.setCell ⟨bt, 0, none⟩ (.slice ao n' c')) bt (.slice ao n' c') L) :=
    ⟨k2.set 0 _, WA.keep (fun g e => Below.heap_setCell _ _ _ _ (hne g e)), fun x hx => (E2 x hx).other (a := ⟨bt, 0, none⟩) (fun e => by have h1 := E2 x hx; rw [e] at h1; have := bk_ty h1 k2; cases this) _, hl⟩
  have B3 : Hid (Below w.heap.size w (w2.setCell ⟨bt, 0, none⟩ (.slice ao n' c'))) := (g0.below.trans (hB.mono g0.size)).setCell (p := ⟨bt, 0, none⟩) hbt _
  have hvw : Hid (∀ g, (Value.slice ao n' c').ownBlock = some g → w.heap.size ≤ g) := fun g e => Nat.le_trans g0.size (hv0 g e)
  clear CL hO hv0 c2 A hne WA hB H k0 k2 g0 E2
  go_wp2
  go_ret
  exact ⟨bt, _, rfl, K3.out, B3.out, hvw.out⟩
theorem tall_nil (v : Value) (w : World) (h : v = .pointer none ∨ ∃ t x y, v = pT t ∧ Bk w t 54 [.bool false, x, y]) : Calls Tryd.prog 9 #[v] w (TAllR w []) := by
  have k0 := Bk.new w 52 [.slice none 0 0]
  have g0 := (Gr.refl w).alloc (.cells #[.slice none 0 0] 52)
  have A : Hid (Calls Tryd.prog 37 #[v] (w.alloc (.cells #[.slice none 0 0] 52)) fun e w' => e = .returned (.bool true) ∧ w' = w.alloc (.cells #[.slice none 0 0] 52)) := by
    rcases h with rfl | ⟨t, x, y, rfl, hB⟩
    · exact absent_no _
    · exact absent_zero t x y _ (hB.gr g0)
  have K : Hid (TKept (w.alloc (.cells #[.slice none 0 0] 52)) w.heap.size (.slice none 0 0) []) := ⟨k0, .inl ⟨rfl, rfl⟩, fun x hx => by simp at hx, by simp⟩
  have B := hid0 g0.below
  clear h k0 g0
  go_enter Tryd.func9, Tryd.ntmps9
  go_wp2_with (go_at_call 37; refine A.out.mono ?_; rintro e w1 ⟨rfl, hw⟩; cases hw)
  go_ret
  exact ⟨_, _, rfl, K.out, B.out, fun g e => (by cases e)⟩
end Go.Proofs.YtjnjpjpgokdciaaDoor
