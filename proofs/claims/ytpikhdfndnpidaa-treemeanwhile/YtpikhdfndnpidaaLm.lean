/- TreeMeanwhile's walk. -/
import Derived.Test.YtpikhdfndnpidaaLm2
import Derived.Test.YtpikhdfndnpidaaLp
import Derived.Deep.CutBlock
set_option linter.unusedSimpArgs false
set_option linter.unusedVariables false
namespace Go.Proofs.Ytpikhdfndnpidaa
open Go.RowKit Go.Sort Go.Shelf
attribute [local go_sem] Oper.semAt_some wide_fn
attribute [local simp] wide_fn

set_option maxRecDepth 100000 in
set_option maxHeartbeats 16000000 in
theorem while_in (l : List E) (al : Option Addr) (cl : Nat) (a b c d cut : Int) (w : World) (hl : Nums w al l) :
    CallsIn Fence.wide 20 Try.prog 5 #[.slice al l.length cl, bx a b c d, .int .u32 cut] w fun e w' => e = .returned (.bool true) ∧ Below w.heap.size w w' := by
  obtain ⟨N, hN⟩ : ∃ N, N = l.length := ⟨_, rfl⟩
  have HN := hid0 hN
  rw [← hN]
  clear hN
  have g1 := ((Gr.refl w).alloc (.cells #[.int .i32 a, .int .i32 b, .int .i32 c, .int .i32 d] 36)).alloc (.cells #[.int .u32 cut] 32)
  have k4 := (Bk.new w 36 [.int .i32 a, .int .i32 b, .int .i32 c, .int .i32 d]).alloc (.cells #[.int .u32 cut] 32)
  have k5 := Bk.new (w.alloc (.cells #[.int .i32 a, .int .i32 b, .int .i32 c, .int .i32 d] 36)) 32 [.int .u32 cut]
  rw [World.size_alloc] at k5
  have HL := hid0 (hl.below (show BW w _ from g1.below))
  have NW := hid0 new_any
  clear hl
  by_cases c1 : (300 : Int) < (N : Int)
  · refine callsIn_of_wp_marks Try.func5 rfl trivial ?_ rfl
    simp only [Try.ntmps5, List.size_toArray, List.length_cons, List.length_nil, Nat.reduceAdd, Nat.reduceSub, Array.replicate_succ, Array.replicate_zero, List.push_toArray, List.append_toArray, List.nil_append, List.cons_append]
    gi_wp2
    exact ⟨_, results_tmp rfl _ _ _, rfl, g1.below⟩
  · refine callsIn_of_wp_marks Try.func5 rfl trivial ?_ rfl
    simp only [Try.ntmps5, List.size_toArray, List.length_cons, List.length_nil, Nat.reduceAdd, Nat.reduceSub, Array.replicate_succ, Array.replicate_zero, List.push_toArray, List.append_toArray, List.nil_append, List.cons_append]
    refine wpIn_wide.2 ?_
    go_upto_region 3 with fail
    generalize (w.alloc (.cells #[.int .i32 a, .int .i32 b, .int .i32 c, .int .i32 d] 36)).alloc (.cells #[.int .u32 cut] 32) = W1 at *
    have hsz : w.heap.size ≤ W1.heap.size := g1.size
    have BW1 : Hid (Below w.heap.size w W1) := g1.below
    obtain ⟨b5, hb5⟩ : ∃ b5, b5 = w.heap.size + 1 := ⟨_, rfl⟩
    rw [← hb5] at k5 ⊢
    obtain ⟨b4, hb4⟩ : ∃ b4, b4 = w.heap.size := ⟨_, rfl⟩
    rw [← hb4] at k4 ⊢
    clear hb4 hb5 g1
    go_wp2_with fail
    refine (NW.out _).mono ?_
    rintro e w1 ⟨rfl, hw1, ht⟩
    cases hw1
    have MW := hid0 (mw_new W1 ht)
    clear ht NW
    go_upto_region 5 with fail
    generalize (((W1.alloc (.cells #[.bool true, .pointer none, .int .i64 0] 64)).alloc (.cells #[.pointer (some ⟨W1.heap.size, 0, none⟩)] 23)).alloc (.cells #[.slice none 0 0, .slice none 0 0] 29)).alloc (.cells #[.pointer (some ⟨W1.heap.size + 1 + 1, 0, none⟩)] 25) = W0 at *
    obtain ⟨b8, hb8⟩ : ∃ b8, b8 = W1.heap.size + 1 + 1 + 1 := ⟨_, rfl⟩
    rw [← hb8] at MW ⊢
    clear hb8
    obtain ⟨R, hR⟩ : ∃ R, R = W1.heap.size + 1 + 1 := ⟨_, rfl⟩
    rw [← hR] at MW ⊢
    clear hR
    obtain ⟨b7, hb7⟩ : ∃ b7, b7 = W1.heap.size + 1 := ⟨_, rfl⟩
    rw [← hb7] at MW ⊢
    clear hb7
    obtain ⟨BS, hBS⟩ : ∃ BS, BS = W1.heap.size := ⟨_, rfl⟩
    obtain ⟨T, hT⟩ : ∃ T, T = W1.heap.size := ⟨_, rfl⟩
    have MW0 : Hid (Mw BS W1 W0 T R b7 b8 .nil) := by rw [hT, hBS]; exact MW.out
    rw [← hT]
    have HBS := hid0 hBS
    have HC : Hid (N ≤ 300) := by unfold Hid; omega
    clear hT hBS MW c1
    have y7 := MW0.out.k7.one
    go_wp2_with fail
    clear y7
    go_loopg [9] N (fun gk i wr => ∃ (k : Nat) (t : At), i = .int .i64 (k : Int) ∧ k ≤ N ∧ gk = N - k ∧ Hid (Mw BS W1 wr T R b7 b8 t))
    case atStart => exact ⟨0, .nil, rfl, Nat.zero_le _, rfl, MW0⟩
    case round =>
      obtain ⟨k, t, rfl, hk, rfl, MW⟩ := hrel
      clear MW0
      by_cases ck : k < N
      · have ck' : (k : Int) < (N : Int) := by omega
        obtain ⟨x, hx⟩ : ∃ x, l[k]? = some x := ⟨l[k]'(by have := HN.out; omega), List.getElem?_eq_getElem _⟩
        obtain ⟨bl, ol, rfl, e0, e1, e2, e3, e4⟩ := HL.out k x hx
        clear hx
        have below1 : ∀ {ad : Addr} {v : Value}, W1.cell? ad = some v → ∀ V, Ms BS W1 T R b7 b8 V → V.cell? ad = some v := fun h V hV => below_cell h (by have := hV.2.2; rw [HBS.out] at this; exact this)
        have f0 := below1 e0
        have f1 := below1 e1
        have f2 := below1 e2
        have f3 := below1 e3
        have f4 := below1 e4
        have f7 : ∀ V, Ms BS W1 T R b7 b8 V → V.cell? ⟨b7, 0, none⟩ = some (.pointer (some ⟨T, 0, none⟩)) := fun V hV => hV.1.one
        have f8 : ∀ V, Ms BS W1 T R b7 b8 V → V.cell? ⟨b8, 0, none⟩ = some (.pointer (some ⟨R, 0, none⟩)) := fun V hV => hV.2.1.one
        clear e0 e1 e2 e3 e4 below1
        have hw1 : wrap64 ((k : Int) + 1) = ((k + 1 : Nat) : Int) := by have := HC.out; unfold wrap64; omega
        have MD := hid0 (MW.out.gr ((Gr.refl wr).drew))
        have P1 := hid0 (put_any T t x.1 x.2 wr.drew MD.out.pr.one)
        have P2 : Hid (∀ V1, wr.drew.grownBy V1 (some T) → Calls Try.prog 14 #[.pointer (some ⟨R, 0, none⟩), .int .u32 x.1, bv x.2] V1 fun e w' => e = .returned (.int .i64 (putE x.1 x.2 t.er.toL)) ∧ RefIs w' BS R (putL x.1 x.2 t.er.toL) ∧ RCh V1 w' BS R) := fun V1 g1 => rput_any BS R t.er.toL x.1 x.2 V1 (MD.out.pr.ref.ch MD.out.pr.one.blk (by decide) (by decide) (by decide) g1) MD.out.pr.one.srt MD.out.pr.one.few (Nat.le_trans MD.out.pr.sz g1.size)
        generalize putE x.1 x.2 t.er.toL = PE at *
        dsimp only [bv, bx] at P1 P2
        clear MW
        go_wp2_with fail
        go_region_held3 (Ms BS W1 T R b7 b8)
          (first
            | assumption
            | exact MD.out.ms)
          (first
            | (go_at_call 13; refine P1.out.mono ?_; rintro e v1 ⟨t', rfl, h1, h2, h3⟩; have s1 := MD.out.ms1 h3)
            | (go_at_call 14; refine (P2.out _ h3).mono ?_; rintro e v2 ⟨rfl, h4, h5⟩; have s2 := (MD.out.put h3 h1 (by rw [h2]; exact h4) h5).ms))
        have MN : Hid (Mw BS W1 v2 T R b7 b8 t') := MD.out.put h3 h1 (by rw [h2]; exact h4) h5
        clear h1 h2 h3 h4 h5 s1 s2 MD P1 P2 f0 f1 f2 f3 f4 f7 f8
        go_wp2
        go_roundg (N - (k + 1))
        case measure => omega
        case rel => exact ⟨k + 1, t', by first | rfl | rw [hw1], by omega, rfl, MN⟩
      · have ck' : ¬ (k : Int) < (N : Int) := by omega
        have m4 := k4.mono (show Below W1.heap.size W1 wr by have := MW.out.bel; rw [HBS.out] at this; exact this) k4.lt
        obtain ⟨x0, x1, x2, x3⟩ := m4.four
        have x8 := MW.out.k8.one
        have RW : Hid (Calls Try.prog 22 #[.pointer (some ⟨R, 0, none⟩), bx a b c d] wr fun e w' => ∃ u, e = .returned u ∧ (∃ B, wr.heap.size ≤ B ∧ Row w' B u (rngL (a, b, c, d) t.er.toL)) ∧ Below wr.heap.size wr w') := rrange_own BS R t.er.toL (a, b, c, d) wr MW.out.pr.ref MW.out.pr.len
        have RN : Hid (∀ w, Calls Try.prog 19 #[.pointer (some ⟨T, 0, none⟩), bx a b c d] w fun e w' => ∃ fv, e = .returned fv ∧ ItF w.heap.size w' (.pointer (some ⟨T, 0, none⟩)) (a, b, c, d) fv ∧ Gr w w') := range_new _ (a, b, c, d)
        go_wp2_with fail
        refine RW.out.mono ?_
        rintro e v1 ⟨u1, rfl, ⟨B1, hB1, r1⟩, h1⟩
        have M1 := hid0 (MW.out.below h1)
        have n4 := m4.mono h1 m4.lt
        obtain ⟨u0, u1', u2, u3⟩ := n4.four
        have x7 := M1.out.k7.one
        clear x0 x1 x2 x3 x8 RW
        go_wp2_with fail
        refine (RN.out _).mono ?_
        rintro e v2 ⟨f2, rfl, i2, g2⟩
        have M2 := hid0 (M1.out.gr g2)
        have o4 := n4.gr g2
        obtain ⟨t0, t1, t2, t3⟩ := o4.four
        have z7 := M2.out.k7.one
        clear u0 u1' u2 u3 x7
        go_wp2_with fail
        refine (RN.out _).mono ?_
        rintro e v3 ⟨f3, rfl, i3, g3⟩
        clear t0 t1 t2 t3 z7 RN
        obtain ⟨bt, bc, rfl, kt, kc, lt, lc⟩ := i3
        have hE := run_eqf 37
        go_wp2_with fail
        have M3 := hid0 (M2.out.gr g3)
        have gX := (Gr.refl v3).alloc (.cells #[.slice none 0 0] 26)
        have MX := hid0 (M3.out.gr gX)
        have kX := Bk.new v3 26 [.slice none 0 0]
        have ktX := kt.gr gX
        have kcX := kc.gr gX
        have hsX : (v3.alloc (.cells #[.slice none 0 0] 26)).heap.size = v3.heap.size + 1 := by simp
        have CX1 : Hid (Calm v1 (v3.alloc (.cells #[.slice none 0 0] 26))) := Calm.gr ((g2.trans g3).trans gX)
        have CX0 : Hid (Calm wr (v3.alloc (.cells #[.slice none 0 0] 26))) := Calm.below (h1.trans (((g2.trans g3).trans gX).below.mono h1.size))
        have CX2 : Hid (Calm v2 (v3.alloc (.cells #[.slice none 0 0] 26))) := Calm.gr (g3.trans gX)
        generalize v3.alloc (.cells #[.slice none 0 0] 26) = X at *
        obtain ⟨b13, hb13⟩ : ∃ b13, b13 = v3.heap.size := ⟨_, rfl⟩
        rw [← hb13] at kX hsX ⊢
        have hbs13 : BS ≤ b13 := by have := M3.out.pr.sz; omega
        have RW0 := hid0 MW.out.pr.ref
        have RW1 := hid0 M1.out.pr.ref
        have RW2 := hid0 M2.out.pr.ref
        have noR : Hid (∀ k, (RefB X R k → k < wr.heap.size)) := fun k hk => (RW0.out.rowlt (RefB.back RW0.out CX0.out hk)).1
        have szs : wr.heap.size ≤ v1.heap.size := h1.size
        have szs2 : v1.heap.size ≤ v2.heap.size := g2.size
        have szX : v2.heap.size ≤ X.heap.size := CX2.out.1
        have LT := hid0 lc
        obtain ⟨btl, bcl, ef2, ktl, kcl, ltl, lcl⟩ := i2
        have EF := hid0 ef2
        clear ef2
        have ktlX := ktl.calm CX2.out
        have kclX := kcl.calm CX2.out
        have LCL := hid0 lcl
        have RX : Hid (Row X B1 u1 (rngL (a, b, c, d) t.er.toL)) := row_calm r1 CX1.out
        have HB1 := hid0 hB1
        have k4X := k4.mono (show Below W1.heap.size W1 X by have := MX.out.bel; rw [HBS.out] at this; exact this) k4.lt
        have k5X := k5.mono (show Below W1.heap.size W1 X by have := MX.out.bel; rw [HBS.out] at this; exact this) k5.lt
        clear ltl lcl ktl kcl kt kc lt lc r1 hB1 h1 g2 g3 gX M1 M2 M3 MW m4 n4 o4 CX0 CX1 CX2 RW0 RW1 RW2 hb13 ck ck'
        have LL := hid0 (idL_tell t (a, b, c, d))
        have LN : (t.tellN (fun q => meetQ q (a, b, c, d))).length ≤ 1000000 := by
          have h1 := congrArg List.length (idL_tell t (a, b, c, d))
          have h2 := rngL_len (a, b, c, d) t.er.toL
          have h3 := MX.out.pr.one.few
          simp only [idL, List.length_map] at h1
          omega
        have SQ := range1_seq 19 bt bc (by omega) (.pointer (some ⟨T, 0, none⟩)) (a, b, c, d) (t.tellN (fun q => meetQ q (a, b, c, d))) X (.yes MX.out.pr.one) ktX kcX
        generalize t.tellN (fun q => meetQ q (a, b, c, d)) = L at *
        have e37 : ∀ args w, (callFunc 37 args).run Try.prog w = .ok (.enter 37 args) w := enters_of Try.func37 (by kernel_rfl) rfl
        obtain ⟨i0, hi, hz0, hz1, hz2⟩ := info_parts Try.info32
        obtain ⟨mR, kR⟩ := MX.out.pr.ref.blk
        refine (wpIn_wide (n := 20)).1 ?_
        refine range_out (p0 := Stay X bc) (L := L) (encs := iEnc) (I := MI X W1 BS T R b7 b8 b13) (Ix := fun _ _ _ => False)
          (Ax := fun x a' A => a' = { tmps := (.slice al N cl :: bx a b c d :: .int .u32 cut :: undef :: .pointer (some ⟨b4, 0, none⟩) :: .pointer (some ⟨b5, 0, none⟩) :: u6 :: .pointer (some ⟨b7, 0, none⟩) :: .pointer (some ⟨b8, 0, none⟩) :: .int .i64 (k : Int) :: u1 :: f2 :: .func (.func 37) #[] #[.pointer (some ⟨bt, 0, none⟩), .pointer (some ⟨bc, 0, none⟩)] :: .pointer (some ⟨b13, 0, none⟩) :: .int .u32 x.2.1 :: .slice al N cl :: .int .i64 (N : Int) :: .bool false :: .pointer (some ⟨T, 0, none⟩) :: .agg #[.slice none 0 0, .slice none 0 0] :: .pointer (some ⟨R, 0, none⟩) :: .pointer (some ⟨T, 0, none⟩) :: .bool false :: .int .i64 (k : Int) :: .slice al N cl :: .int .i64 (N : Int) :: .bool false :: u27 :: u28 :: u29 :: u30 :: u31 :: u32 :: u33 :: u34 :: u35 :: u36 :: u37 :: u38 :: u39 :: u40 :: u41 :: u42 :: u43 :: u44 :: u45 :: u46 :: u47 :: u48 :: u49 :: u50 :: u51 :: u52 :: u53 :: .pointer (some ⟨R, 0, none⟩) :: bx a b c d :: u1 :: .pointer (some ⟨T, 0, none⟩) :: bx a b c d :: f2 :: .pointer (some ⟨T, 0, none⟩) :: bx a b c d :: .func (.func 37) #[] #[.pointer (some ⟨bt, 0, none⟩), .pointer (some ⟨bc, 0, none⟩)] :: .func (.func 37) #[] #[.pointer (some ⟨bt, 0, none⟩), .pointer (some ⟨bc, 0, none⟩)] :: .bool false :: .func (.func 37) #[] #[.pointer (some ⟨bt, 0, none⟩), .pointer (some ⟨bc, 0, none⟩)] :: .int .u32 x.2.1 :: undef :: undef :: undef :: undef :: undef :: undef :: undef :: undef :: undef :: undef :: undef :: undef :: undef :: undef :: undef :: undef :: undef :: undef :: undef :: undef :: undef :: undef :: undef :: undef :: undef :: undef :: undef :: undef :: undef :: undef :: undef :: undef :: undef :: undef :: undef :: []).toArray, defers := [] })
          rfl e37 SQ ?owes (Stay X bc) (fun _ h => h) (fun b hb => ?pw) ?start ?done ?stop
        case stop =>
          rintro D c pre A hD hpre hx hK
          exact hx.elim
        case pw =>
          rcases hb with h | h
          · exact h.lt
          · subst h; exact kcX.lt
        case start =>
          refine ⟨⟨t, MX.out⟩, fun k _ _ _ _ _ => rfl, fun k h => .inl h, ⟨_, kX, World.ownsRow_nil _ _ _ _, fun g e => (by cases e)⟩, ?_, ?_, ?_, ?_, by simp, Nat.le_refl _⟩
          · rintro (⟨m, h⟩ | h)
            · exact kX.ne h (by decide) rfl
            · exact kX.ne kcX (by decide) h
          · rintro (⟨m, h⟩ | h)
            · exact MX.out.pr.one.blk.ne h (by decide) rfl
            · exact MX.out.pr.one.blk.ne kcX (by decide) h
          · rintro (⟨m, h⟩ | h)
            · exact kR.ne h (by decide) rfl
            · exact kR.ne kcX (by decide) h
          · rintro k hk (h | h)
            · exact (MX.out.pr.rowcells hk).2.2.2.1 h
            · have h9 := noR.out k hk
              have h8 := LT.out
              omega
        case owes =>
          have HSX := hid0 hsX
          clear hsX
          refine ⟨mi_con (Nat.le_refl _) MX.out.pr.sz, fun c s A A' row h _ _ => h, fun x a' _ A A' row h _ _ => h, fun _ => rfl, ?_, ?_⟩
          · rintro lr p pre x A K hp hpb hI hsA hK
            gi_wp2
            exact hK _ _ (KeepsFrom.refl _ _) (Kp.refl _) hI rfl
          · rintro lr p pre x a' A hlr ⟨rr, hr⟩ hp hpb hI rfl hpre
            obtain ⟨⟨t', mw⟩, _, _, ⟨v, bo, hown, hvp⟩, _, _, _, _, hfew, hsz2⟩ := id hI
            have HI := hid0 hI
            have MWA := hid0 mw
            have Y5 : Hid (∀ V, Below BS W1 V → V.cell? ⟨b5, 0, none⟩ = some (.int .u32 cut)) := fun V h => below_cell k5.one (by rw [HBS.out] at h; exact h)
            have Y4 : Hid (∀ V, Below BS W1 V → V.cell? ⟨b4, 0, none⟩ = some (.int .i32 a) ∧ V.cell? ⟨b4, 1, none⟩ = some (.int .i32 b) ∧ V.cell? ⟨b4, 2, none⟩ = some (.int .i32 c) ∧ V.cell? ⟨b4, 3, none⟩ = some (.int .i32 d)) := fun V h => (k4.mono (B := W1.heap.size) (by rw [HBS.out] at h; exact h) k4.lt).four
            have cv0 := bo.cell
            have hb8 : pre.length + 1 ≤ maxLen := by unfold maxLen; omega
            have hw0 : b13 ≤ A.heap.size := by have := HSX.out; omega
            have HVP := hid0 hvp
            have HPL : Hid (pre.length + 1 ≤ 1000000) := by obtain ⟨s, hs⟩ := hpre; have := congrArg List.length hs; simp at this; unfold Hid; omega
            have HPB := hid0 hpb
            have BO := hid0 bo
            have OW := hid0 hown
            clear hI mw hvp hpb hpre
            have hnn : 1 ≤ 20 - 1 - 1 := by omega
            by_cases hone : pre.length = 0
            · have HON := hid0 hone
              have hmm : (((pre.length : Nat) : Int) + 1 == 1) = true := by simp [hone]
              clear hone
              gi_wp2_with (gi_at_builtin; refine wpListIn_append_own_at _ rfl _ _ 26 rfl b13 32 i0 (.int .u32 0) 1 4 Try.underlying26 hi hz0 hz1 hz2 rfl (by decide) _ _ _ rfl (hown.alloc _) ⟨A.heap.size, 0, none⟩ 1 1 [.int .u32 x.2.1] rfl rfl (one_new _ _) (by simp [Value.oneCell']) hb8 (by omega) (by simp; omega) ?_; intro v' w1 hown' hgrow _ hat; obtain ⟨g', cap', rfl⟩ := ownsRow_succ hown'; obtain ⟨hv1, hv2, hr2, hk2, hb2⟩ := bo.appended (by decide) hown hw0 (Nat.le_refl _) hown' hgrow; have hhd := app_held (b13 := b13) (v' := .slice (some ⟨g', 0, none⟩) (pre.length + 1) cap') hgrow; have hc1 := hv1.cell; have hf1 := hv1.frozen; have hc2 := hv2.cell; have MW1 := hid0 (MWA.out.app bo hown (fun g e => (HVP.out g e).2) hhd hb2 hbs13); have HHD := hid0 hhd; have HV2 := hid0 hv2; have HR2 := hid0 hr2; have HAT : Hid ((Value.slice (some ⟨g', 0, none⟩) (pre.length + 1) cap').ownBlock = v.ownBlock ∨ (Value.slice (some ⟨g', 0, none⟩) (pre.length + 1) cap').ownBlock = some (A.heap.size + 1)) := hat.imp (fun h => h) (fun h => by simpa [Value.ownBlock] using h); have x7 := MW1.out.k7.one; have x5 := Y5.out _ MW1.out.bel; clear hhd hr2 hk2 hb2 hat)
              generalize w1.setCell ⟨b13, 0, none⟩ (.slice (some ⟨g', 0, none⟩) (pre.length + 1) cap') = A1 at *
              have D1 := hid0 (del_any T t' cut A1 MW1.out.pr.one)
              refine (callsIn_wide.2 D1.out).mono ?_
              rintro e A2 ⟨t2, rfl, h1, h2, h3⟩
              have s2 := MW1.out.ms1 h3
              have x8 := s2.2.1.one
              have x52 := Y5.out A2 s2.2.2
              have R2 := MW1.out.pr.ref.ch MW1.out.pr.one.blk (by decide) (by decide) (by decide) h3
              have D2 := hid0 (rdel_any BS R t'.er.toL cut A2 R2 MW1.out.pr.one.srt MW1.out.pr.one.few (Nat.le_trans MW1.out.pr.sz h3.size))
              have H1 := hid0 h1
              have H2 := hid0 h2
              have H3 := hid0 h3
              clear x7 x5 D1 R2 h1 h2 h3 s2
              generalize delE cut t'.er.toL = DE at *
              gi_wp2_with fail
              refine (callsIn_wide.2 D2.out).mono ?_
              rintro e A3 ⟨rfl, h4, h5⟩
              have MW3 : Hid (Mw BS W1 A3 T R b7 b8 t2) := MW1.out.put H3.out H1.out (by rw [H2.out]; exact h4) h5
              have DB1 : Hid (Dbl T R A1 A3) := MW1.out.pr.dbl H3.out h5
              clear x8 x52 D2 h4 h5 H1 H2 H3
              have x7 := MW3.out.k7.one
              obtain ⟨z0, z1, z2, z3⟩ := Y4.out A3 MW3.out.bel
              have D3 := hid0 (put_any T t2 77777 (a, b, c, d) A3 MW3.out.pr.one)
              dsimp only [bv, bx] at D3
              gi_wp2_with fail
              refine (callsIn_wide.2 D3.out).mono ?_
              rintro e A4 ⟨t3, rfl, h1, h2, h3⟩
              have s2 := MW3.out.ms1 h3
              have x8 := s2.2.1.one
              obtain ⟨w0, w1', w2, w3⟩ := Y4.out A4 s2.2.2
              have R2 := MW3.out.pr.ref.ch MW3.out.pr.one.blk (by decide) (by decide) (by decide) h3
              have D4 := hid0 (rput_any BS R t2.er.toL 77777 (a, b, c, d) A4 R2 MW3.out.pr.one.srt MW3.out.pr.one.few (Nat.le_trans MW3.out.pr.sz h3.size))
              dsimp only [bv, bx] at D4
              have H1 := hid0 h1
              have H2 := hid0 h2
              have H3 := hid0 h3
              clear x7 z0 z1 z2 z3 D3 R2 h1 h2 h3 s2
              generalize putE 77777 (a, b, c, d) t2.er.toL = PE at *
              gi_wp2_with fail
              refine (callsIn_wide.2 D4.out).mono ?_
              rintro e A5 ⟨rfl, h4, h5⟩
              have MW5 : Hid (Mw BS W1 A5 T R b7 b8 t3) := MW3.out.put H3.out H1.out (by rw [H2.out]; exact h4) h5
              have DB2 : Hid (Dbl T R A1 A5) := DB1.out.trans (MW3.out.pr.dbl H3.out h5)
              clear x8 w0 w1' w2 w3 D4 h4 h5 H1 H2 H3
              gi_wp2
              exact mi_step HI.out HPB.out HSX.out MWA.out MW1.out BO.out OW.out HVP.out HV2.out HR2.out HAT.out HHD.out DB2.out MW5.out HPL.out
            · have HON := hid0 hone
              have hmm : (((pre.length : Nat) : Int) + 1 == 1) = false := by simp; omega
              clear hone
              gi_wp2_with (gi_at_builtin; refine wpListIn_append_own_at _ rfl _ _ 26 rfl b13 32 i0 (.int .u32 0) 1 4 Try.underlying26 hi hz0 hz1 hz2 rfl (by decide) _ _ _ rfl (hown.alloc _) ⟨A.heap.size, 0, none⟩ 1 1 [.int .u32 x.2.1] rfl rfl (one_new _ _) (by simp [Value.oneCell']) hb8 (by omega) (by simp; omega) ?_; intro v' w1 hown' hgrow _ hat; obtain ⟨g', cap', rfl⟩ := ownsRow_succ hown'; obtain ⟨hv1, hv2, hr2, hk2, hb2⟩ := bo.appended (by decide) hown hw0 (Nat.le_refl _) hown' hgrow; have hhd := app_held (b13 := b13) (v' := .slice (some ⟨g', 0, none⟩) (pre.length + 1) cap') hgrow; have hc1 := hv1.cell; have hf1 := hv1.frozen; have hc2 := hv2.cell; have MW1 := hid0 (MWA.out.app bo hown (fun g e => (HVP.out g e).2) hhd hb2 hbs13); have HHD := hid0 hhd; have HV2 := hid0 hv2; have HR2 := hid0 hr2; have HAT : Hid ((Value.slice (some ⟨g', 0, none⟩) (pre.length + 1) cap').ownBlock = v.ownBlock ∨ (Value.slice (some ⟨g', 0, none⟩) (pre.length + 1) cap').ownBlock = some (A.heap.size + 1)) := hat.imp (fun h => h) (fun h => by simpa [Value.ownBlock] using h); have x7 := MW1.out.k7.one; have x5 := Y5.out _ MW1.out.bel; clear hhd hr2 hk2 hb2 hat)
              exact mi_step HI.out HPB.out HSX.out MWA.out MW1.out BO.out OW.out HVP.out HV2.out HR2.out HAT.out HHD.out (Dbl.refl T R _) MW1.out HPL.out
        case done =>
          rintro D q A hD ⟨⟨t', mw⟩, keep, rows, ⟨v, bo, hown, hvp⟩, _, _, _, _, hfew, hsz2⟩ hq hK
          have hRg : Hid (Reads A v (rngL (a, b, c, d) t.er.toL)) := by
            have h : Row A b13 v (idL L) := by
              unfold Row idL
              rw [List.length_map, List.map_map]
              exact hown
            rw [LL.out] at h
            exact h.reads
          have kk : ∀ k ty l, Bk X k ty l → ty ≠ 64 → ty ≠ 29 → ty ≠ 26 → ¬ RefB X R k → Bk A k ty l := fun k ty l h n1 n2 n3 n4 => h.same (keep k h.lt (h.ne MX.out.pr.one.blk n1) (h.ne kR n2) n4 (h.ne kX n3))
          have hIt : Hid (ItR A (.pointer (some ⟨T, 0, none⟩)) (a, b, c, d) f2) := ⟨btl, bcl, EF.out, kk btl 23 _ ktlX (by decide) (by decide) (by decide) (MX.out.pr.ref.notRow ktlX (by decide) (by decide)), kk bcl 36 _ kclX (by decide) (by decide) (by decide) (fun h => by have h9 := noR.out bcl h; have h8 := LCL.out; omega)⟩
          have hRw : Hid (Reads A u1 (rngL (a, b, c, d) t.er.toL)) := by
            have h : Row A B1 u1 (rngL (a, b, c, d) t.er.toL) := by
              have r := RX.out
              rcases r.2 with ⟨e1, h0⟩ | ⟨g1, cap, cur, e1, hb1, hc, hr⟩
              · exact ⟨r.1, .inl ⟨e1, h0⟩⟩
              · refine ⟨r.1, .inr ⟨g1, cap, cur, e1, hb1, (keep g1 (lt_of_block hc) ?_ ?_ ?_ ?_).trans hc, hr⟩⟩
                · intro e; subst e; have h := MX.out.pr.one.blk; unfold Bk at h; rw [h] at hc; cases hc
                · intro e; subst e; have h := kR; unfold Bk at h; rw [h] at hc; cases hc
                · intro h; have h9 := noR.out g1 h; have h8 := HB1.out; omega
                · intro e; subst e; have h := kX; unfold Bk at h; rw [h] at hc; cases hc
            exact h.reads
          have MA := hid0 mw
          have FW : Hid (∀ A : List E, A.length ≤ 65536 → (rngL (a, b, c, d) A).length ≤ 1000000) := fun A h => by have := rngL_len (a, b, c, d) A; omega
          have hfw1 := FW.out _ MX.out.pr.one.few
          have hfw2 := FW.out _ mw.pr.one.few
          have k4A := k4.mono (show Below W1.heap.size W1 A by have := mw.bel; rw [HBS.out] at this; exact this) k4.lt
          have c13 := cell_bw bo.cell
          have c7 := cell_bw mw.k7.one
          have c8 := cell_bw mw.k8.one
          have y0 := cell_bw (k4A.at 0)
          have y1 := cell_bw (k4A.at 1)
          have y2 := cell_bw (k4A.at 2)
          have y3 := cell_bw (k4A.at 3)
          have TD : Hid (∀ V, BW A V → Calls Try.prog 18 #[f2, .int .i64 0] V fun e w' => ∃ u, e = .returned u ∧ Hid (Reads w' u (rngL (a, b, c, d) t'.er.toL)) ∧ Below V.heap.size V w') := fun V g => told_tree T t' f2 (a, b, c, d) V (MA.out.pr.one.below g) (hIt.out.below g)
          have RQ : Hid (∀ V, BW A V → Calls Try.prog 22 #[.pointer (some ⟨R, 0, none⟩), bx a b c d] V fun e w' => ∃ u, e = .returned u ∧ Hid (Reads w' u (rngL (a, b, c, d) t'.er.toL)) ∧ Below V.heap.size V w') := fun V g => rrange_any BS R t'.er.toL (a, b, c, d) V (MA.out.pr.ref.below g) MA.out.pr.len
          have AL : Hid (∀ V, BW A V → Calls Try.prog 12 #[.pointer (some ⟨T, 0, none⟩), .pointer (some ⟨R, 0, none⟩)] V fun e w' => e = .returned (.bool true) ∧ Below V.heap.size V w') := fun V g => lall_any T BS R t' V (MA.out.pr.one.below g) (MA.out.pr.ref.below g)
          have S1 : Hid (∀ V, BW A V → Calls Try.prog 17 #[v, u1] V fun e w' => e = .returned (.bool true) ∧ Gr V w') := fun V g => same_eq v u1 _ hfw1 V (hRg.out.below g) (hRw.out.below g)
          have S2 : Hid (∀ V r s, Reads V r (rngL (a, b, c, d) t'.er.toL) → Reads V s (rngL (a, b, c, d) t'.er.toL) → Calls Try.prog 17 #[r, s] V fun e w' => e = .returned (.bool true) ∧ Gr V w') := fun V r s h1 h2 => same_eq r s _ hfw2 V h1 h2
          have BF : Hid (Below w.heap.size w A) := BW1.out.trans (mw.bel.mono (by have := HBS.out; omega))
          have HDw : Hid (w.heap.size ≤ D) := by have := mw.pr.sz; have := HBS.out; have := MX.out.pr.sz; unfold Hid; omega
          have HK := hid0 hK
          clear mw keep rows bo hown hvp kk hIt hRw hRg hfw1 hfw2 k4A FW hK hq hD hfew hsz2 RX LL HB1 noR MA SQ e37
          generalize rngL (a, b, c, d) t'.er.toL = LB at *
          go_wp2_with fail
          go_region_held3 (BW A)
            (first
              | exact BW.drew _
              | assumption
              | exact BW.gr (by assumption) (by assumption)
              | exact BW.tr (by assumption) (by assumption))
            (first
              | (go_at_call_of 17 v; refine (S1.out _ (by assumption)).mono ?_; rintro e z1 ⟨rfl, g1⟩)
              | (go_at_call 18; refine (TD.out _ (by assumption)).mono ?_; rintro e z2 ⟨r1, rfl, q1, g2⟩)
              | (go_at_call 22; refine (RQ.out _ (by assumption)).mono ?_; rintro e z3 ⟨r2, rfl, q2, g3⟩)
              | (go_at_call_of 17 r1; refine (S2.out _ r1 r2 (q1.out.below g3) q2.out).mono ?_; rintro e z4 ⟨rfl, g4⟩)
              | (go_at_call 12; refine (AL.out _ (by assumption)).mono ?_; rintro e z5 ⟨rfl, g5⟩))
          rename_i hH
          go_wp2
          have hK5 : z5.heap[D]? = some (.deferred (some [])) := (hH.block D (lt_of_block HK.out)).trans HK.out
          refine ⟨by simp, .inl ⟨_, _, rfl, run_takeDeferred hK5, ?_⟩⟩
          exact ⟨_, results_tmp rfl _ _ _, rfl, (BF.out.trans (hH.mono BF.out.size)).trans (belowK_b (w := w) (Nat.le_refl _) z5 D _ (.deferred none) HDw.out hK5 rfl rfl)⟩
theorem while_walk (l : List E) (al : Option Addr) (cl : Nat) (a b c d cut : Int) (w : World) (hl : Nums w al l) :
    Calls Try.prog 5 #[.slice al l.length cl, bx a b c d, .int .u32 cut] w fun e w' => e = .returned (.bool true) ∧ Below w.heap.size w w' :=
  callsIn_wide.1 (while_in l al cl a b c d cut w hl)
end Go.Proofs.Ytpikhdfndnpidaa
