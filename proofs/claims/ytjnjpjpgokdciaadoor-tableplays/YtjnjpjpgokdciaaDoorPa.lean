/- The law's pairs: what a walk over a table tells, in a row of its own, left behind so many. -/
import Derived.Test.YtjnjpjpgokdciaaDoorAl
import Derived.Laws.StructEq
import Derived.Test.YtjnjpjpgokdciaaDoorTw
set_option linter.unusedSimpArgs false
set_option linter.unusedVariables false
namespace Go.Proofs.YtjnjpjpgokdciaaDoor
open Go.RowKit Go.Sort Go.Shelf
attribute [local go_sem] Oper.semAt_some wide_fn
attribute [local simp] wide_fn

theorem Bk.ot {W : World} {b : Nat} {t : TypeId} {l : List Value} (k : Bk W b t l) {g u i : Nat} {m : List Value} (k2 : Bk W g u m) (h : u ≠ t) (v : Value) : Bk (W.setCell ⟨g, i, none⟩ v) b t l :=
  k.other (a := ⟨g, i, none⟩) (fun e => by subst e; exact h (bk_ty k2 k)) v
theorem calmGT {f : FuncId} {args : Array Value} {w : World} {v : Value} (n : Nat) (os : Array Obj) (h : Calls Tryd.prog f args (grow (w.drewN n) os) fun e w' => e = .returned v ∧ Gr (grow (w.drewN n) os) w') :
    Calls Tryd.prog f args (grow (w.drewN n) os) fun e w' => e = .returned v ∧ ∃ p : GrownBy, w' = grow (w.drewN p.n) p.os :=
  Calls.grown_of (h.mono fun e w' ⟨h1, h2⟩ => ⟨h1, h2⟩)
theorem cell_grT {w : World} {a : Addr} {v : Value} (h : w.cell? a = some v) (n : Nat) (os : Array Obj) : (grow (w.drewN n) os).cell? a = some v := below_cell h (show Gr w (grow (w.drewN n) os) from ⟨n, os, rfl⟩).below
/-- The cells of pairs. -/
def cP (l : List En) : List Value := l.flatMap fun x => [.int .u32 x.1, .int .i64 x.2.1]
theorem cP_len (l : List En) : (cP l).length = l.length * 2 := by
  induction l with
  | nil => rfl
  | cons x l ih => simp only [cP, List.flatMap_cons, List.length_append, List.length_cons, List.length_nil] at *; omega
theorem cP_app (l m : List En) : cP (l ++ m) = cP l ++ cP m := by simp [cP]
/-- What is told, left behind m pairs. -/
def leftLE (m : Int) (L : List En) : List En := if 1 ≤ m ∧ m ≤ L.length then L.take m.toNat else L
def FirIP (w : World) (m : Int) (p : Nat → Prop) (pre : List En) (W : World) : Prop :=
  ∃ v, Boxed W (w.heap.size + 2) 35 v ∧ Boxed W (w.heap.size + 1) 35 (.slice none 0 0) ∧ Bk W w.heap.size 3 [.int .i64 m] ∧ W.ownsRow w.heap.size 109 2 v pre.length (cP pre) ∧ (∀ g, v.ownBlock = some g → ¬ p g) ∧ ¬ p (w.heap.size + 2) ∧ Below w.heap.size w W ∧ ((1 : Int) ≤ m → (pre.length : Int) < m) ∧ pre.length ≤ 1000000
def FirXP (w : World) (m : Int) (c : Code) (pre : List En) (W : World) : Prop :=
  ∃ v, Boxed W (w.heap.size + 2) 35 v ∧ Boxed W (w.heap.size + 1) 35 (.slice none 0 0) ∧ W.ownsRow w.heap.size 109 2 v pre.length (cP pre) ∧ Below w.heap.size w W ∧ ((pre.length : Int) = m ∧ 1 ≤ m) ∧ c = .exit 0
theorem fir_conP {w : World} {m : Int} {B : Nat} (hB : w.heap.size + 2 < B) : Con B (FirIP w m) := by
  refine ⟨?_, ?_, fun p q s A ⟨v, h1, h1b, h2, h3, h4, h5, h6⟩ hb => ⟨v, h1, h1b, h2, h3, fun g e h => h4 g e (hb g h), fun h => h5 (hb _ h), h6⟩⟩
  · rintro p s A A' row ⟨v, h1, h1b, h2, h3, h4, h5, h6, h7⟩ hg hr
    refine ⟨v, h1.kept hg (fun e => by have := (hr _ e.symm).1; omega), h1b.kept hg (fun e => by have := (hr _ e.symm).1; omega), h2.same (hg.block _ h2.lt (fun e => by have := (hr _ e.symm).1; omega)), own_keepN h3 hg (fun g e e' => ?_), h4, h5, below_grownN h6 hg (fun r e => by have := (hr r e).1; omega) h6.size, h7⟩
    obtain ⟨_, o, ho, hc⟩ := hr g e'.symm
    obtain ⟨_, _, cur, hcur⟩ := own_ltN h3 e
    rw [hcur] at ho
    cases ho
    cases hc
  · rintro p s A b ⟨v, h1, h1b, h2, h3, h4, h5, h6⟩ hb
    refine ⟨v, h1, h1b, h2, h3, fun g e => ?_, ?_, h6⟩
    · rintro (h | rfl)
      · exact h4 g e h
      · have := (own_ltN h3 e).1; omega
    · rintro (h | h)
      · exact h5 h
      · have := h1.lt; omega
theorem fir_conxP {w : World} {m : Int} {B : Nat} (hB : w.heap.size + 2 < B) (c : Code) : OwnFrom B (FirXP w m c) := by
  rintro s A A' row ⟨v, h1, h1b, h2, h5, h6⟩ hg hr
  refine ⟨v, h1.kept hg (fun e => by have := (hr _ e.symm).1; omega), h1b.kept hg (fun e => by have := (hr _ e.symm).1; omega), own_keepN h2 hg (fun g e e' => ?_), below_grownN h5 hg (fun r e => by have := (hr r e).1; omega) h5.size, h6⟩
  obtain ⟨_, o, ho, hc⟩ := hr g e'.symm
  obtain ⟨_, _, cur, hcur⟩ := own_ltN h2 e
  rw [hcur] at ho
  cases ho
  cases hc
theorem two_newN (w : World) (x0 x1 : Value) (t : TypeId) : ∀ (j : Nat) (u : Value), [x0, x1][j]? = some u → (w.alloc (.cells #[x0, x1] t)).cell? ((⟨w.heap.size, 0, none⟩ : Addr).add j) = some u := by
  intro j u hj
  match j, hj with
  | 0, hj => simp at hj; subst hj; simp [Addr.add]
  | 1, hj => simp at hj; subst hj; simp [Addr.add]
theorem Tryd.info109 : (Tryd.prog.info? 109).map (fun i => (i.zero, i.size, i.bytes)) = some (some (.agg #[.int .u32 0, .int .i64 0]), 2, 16) := by kernel_rfl
theorem run_eqp (d gf : Nat) (lb : Array Value) (w : World) : (Op.equalIn (d + 1) 42 (.func (.func gf) #[] lb) .nilFunc).run Tryd.prog w = .ok false w := by
  simp [Op.equalIn, run_underlying Tryd.underlying42]
theorem run_eqP (gf : Nat) (lb : Array Value) (w : World) : (binOp .eql 42 (.func (.func gf) #[] lb) .nilFunc).run Tryd.prog w = .ok (.bool false) w := by
  have h : (Op.equal 42 (.func (.func gf) #[] lb) .nilFunc).run Tryd.prog w = .ok false w := run_eqp 9999 gf lb w
  simp [binOp, h]
theorem own_slice {W : World} {B : Nat} {e : TypeId} {size n : Nat} {v : Value} {xs : List Value} (h : W.ownsRow B e size v n xs) : ∃ ao c, v = .slice ao n c := by
  rcases h.2 with ⟨rfl, rfl⟩ | ⟨g, cap, cur, rfl, _⟩
  · exact ⟨_, _, rfl⟩
  · exact ⟨_, _, rfl⟩
theorem run_eqV_in (d : Nat) (n : Int) (w : World) : (Op.equalIn (d + 2) 32 (vV n) (vV n)).run Tryd.prog w = .ok true w := by
  rw [run_equalIn_agg w (d + 1) 32 _ _ (by kernel_rfl) (by kernel_rfl)]
  simp [Program.fieldsOf, Tryd.underlying32, Op.eqFields, go_sem, part]
theorem run_eqV (n : Int) (w : World) : (binOp .eql 32 (vV n) (vV n)).run Tryd.prog w = .ok (.bool true) w := by
  rw [run_eql_struct, show (10000 : Nat) = 9998 + 2 from rfl, run_eqV_in]
  rfl
theorem run_neV (n : Int) (w : World) : (binOp .neq 32 (vV n) (vV n)).run Tryd.prog w = .ok (.bool false) w := by
  rw [run_neq_struct, show (10000 : Nat) = 9998 + 2 from rfl, run_eqV_in]
  rfl
theorem run_eqR_in (d : Nat) (a b : Int) (w : World) : (Op.equalIn (d + 2) 109 (.agg #[.int .u32 a, .int .i64 b]) (.agg #[.int .u32 a, .int .i64 b])).run Tryd.prog w = .ok true w := by
  rw [run_equalIn_agg w (d + 1) 109 _ _ (by kernel_rfl) (by kernel_rfl)]
  simp [Program.fieldsOf, Tryd.underlying109, Op.eqFields, go_sem, part]
theorem run_neR (a b : Int) (w : World) : (binOp .neq 109 (.agg #[.int .u32 a, .int .i64 b]) (.agg #[.int .u32 a, .int .i64 b])).run Tryd.prog w = .ok (.bool false) w := by
  rw [run_neq_struct, show (10000 : Nat) = 9998 + 2 from rfl, run_eqR_in]
  rfl
theorem res13 {tmps : Array Value} {w : World} {b : Nat} {ao : Option Addr} {n c : Nat} (h : tmps[4]?.getD undef = .pointer (some ⟨b, 0, none⟩)) (h2 : w.cell? ⟨b, 0, none⟩ = some (.slice ao n c)) : (results Tryd.f13 tmps).run Tryd.prog w = .ok (.slice ao n c) w := by
  simp only [results, Tryd.results13]
  simp [go_sem, h, h2]
theorem put_heap {W : World} {b D : Nat} {v : Value} {t : TypeId} {o : Obj} (h : Boxed W b t v) (hne : b ≠ D) : (W.putObj D o).cell? ⟨b, 0, none⟩ = some v := by
  have : (W.putObj D o).heap[b]? = W.heap[b]? := World.putObj_heap_other hne
  simp [World.cell?, this, show W.heap[b]? = _ from h]
abbrev actP (w : World) (m : Int) (f : Value) (x : En) (vb : Nat) : Act := { tmps := #[f, .int .i64 m, undef, .pointer (some ⟨w.heap.size, 0, none⟩), .pointer (some ⟨w.heap.size + 1, 0, none⟩), .pointer (some ⟨w.heap.size + 2, 0, none⟩), .int .u32 x.1, pT vb, f, .bool false, undef, undef, undef, f, .int .u32 x.1, vV x.2.1, undef, undef, undef, undef, undef, undef, undef, undef, undef, undef, undef, undef, undef, undef, undef, undef, undef, undef, undef, undef], defers := [] }
set_option maxRecDepth 100000 in
set_option maxHeartbeats 4000000 in
theorem pairs_in (n : Nat) (hn : 6 ≤ n) (gf : Nat) (lb : Array Value) (L : List En) (hL : L.length ≤ 1000000) (m : Int) (p0 : Nat → Prop) (w : World) (hp0 : ∀ b, p0 b → b < w.heap.size) (eg : ∀ args w, (callFunc gf args).run Tryd.prog w = .ok (.enter gf args) w) (hseq : SeqO (n - 1) gf lb tEnc L p0 w) :
    CallsIn Fence.wide n Tryd.prog 13 #[.func (.func gf) #[] lb, .int .i64 m] w fun e w' => ∃ v, e = .returned v ∧ w'.ownsRow w.heap.size 109 2 v (leftLE m L).length (cP (leftLE m L)) ∧ Below w.heap.size w w' := by
  obtain ⟨i0, hi, hz0, hz1, hz2⟩ := info_parts Tryd.info109
  have hE := run_eqP gf lb
  refine callsIn_of_wp_marks Tryd.func13 rfl trivial ?_ rfl
  simp only [Tryd.ntmps13, List.size_toArray, List.length_cons, List.length_nil, Nat.reduceAdd, Nat.reduceSub, Array.replicate_succ, Array.replicate_zero, List.push_toArray, List.append_toArray, List.nil_append, List.cons_append]
  have h1n : 1 ≤ n := by omega
  gi_wp2
  have bm := ((Bk.new w 3 [.int .i64 m]).alloc (.cells #[.slice none 0 0] 35)).alloc (.cells #[.slice none 0 0] 35)
  have b3 := Boxed.new ((w.alloc (.cells #[.int .i64 m] 3)).alloc (.cells #[.slice none 0 0] 35)) 35 (.slice none 0 0)
  have b2 := Bk.alloc (Bk.new (w.alloc (.cells #[.int .i64 m] 3)) 35 [.slice none 0 0]) (.cells #[.slice none 0 0] 35)
  rw [World.size_alloc, World.size_alloc] at b3
  rw [World.size_alloc] at b2
  have g0 : Gr w (((w.alloc (.cells #[.int .i64 m] 3)).alloc (.cells #[.slice none 0 0] 35)).alloc (.cells #[.slice none 0 0] 35)) := (((Gr.refl _).alloc _).alloc _).alloc _
  have hsz : (((w.alloc (.cells #[.int .i64 m] 3)).alloc (.cells #[.slice none 0 0] 35)).alloc (.cells #[.slice none 0 0] 35)).heap.size = w.heap.size + 1 + 1 + 1 := by simp
  generalize ((w.alloc (.cells #[.int .i64 m] 3)).alloc (.cells #[.slice none 0 0] 35)).alloc (.cells #[.slice none 0 0] 35) = W0 at *
  refine range_out (p0 := p0) (L := L) (I := FirIP w m) (Ix := FirXP w m)
    (Ax := fun x a' W => ∃ vb, W0.heap.size ≤ vb ∧ Bk W vb 32 (vL x.2.1) ∧ a' = actP w m (.func (.func gf) #[] lb) x vb)
    rfl eg (hseq.later g0) ?owes p0 (fun b h => h) (fun b hb => Nat.lt_of_lt_of_le (hp0 b hb) g0.size) ?start ?done ?stop
  case start =>
    exact ⟨_, b3, b2, bm, World.ownsRow_nil _ _ _ _, fun g e => (by cases e), fun h => (by have := hp0 _ h; omega), g0.below, fun h => (by simp; omega), by simp⟩
  case owes =>
    refine ⟨fir_conP (by omega), fir_conxP (by omega), ?_, fun _ => rfl, ?_, ?_⟩
    · rintro x a' _ X Y row ⟨vb, h1, h2, h3⟩ hg hr
      refine ⟨vb, h1, h2.same (hg.block _ h2.lt (fun e => ?_)), h3⟩
      obtain ⟨_, o, ho, hc⟩ := hr vb e.symm
      unfold Bk at h2
      rw [h2] at ho
      cases ho
      cases hc
    · rintro l p pre x W K hp hpb hI hsW hK
      have k2 := Bk.new W 32 (vL x.2.1)
      have g2 := (Gr.refl W).alloc (.cells (vL x.2.1).toArray 32)
      have hKk := hid0 hK
      clear hK
      gi_wp2
      exact hKk.out _ _ (g2.from _) (Kp.gr hpb g2) ((fir_conP (B := w.heap.size + 3) (by omega)).gr hI g2) ⟨_, hsW, k2, rfl⟩
    · rintro l p pre x a' W hl ⟨r, hr⟩ hp hpb ⟨v, bo, br, bmo, hown, hvp, hBp, hBel, hlt, hlen⟩ ⟨vb, hvb, kv, rfl⟩ hpre
      have q0 := cell_grT (vcells kv).1
      have q1 := cell_grT (vcells kv).2
      have OF : Hid (∀ n os, Calls Tryd.prog 16 #[.int .i64 x.2.1] (grow (W.drewN n) os) fun e w' => e = .returned (vV x.2.1) ∧ ∃ p : GrownBy, w' = grow (W.drewN p.n) p.os) := fun n os => calmGT n os (of_any x.2.1 _)
      dsimp only [actP]
      gi_wp2
      refine region_head_grown 4 (by kernel_rfl) (by kernel_rfl) (by simp) (by kernel_rfl) ?_
      simp only [List.take_succ_cons, List.take_zero, List.drop_succ_cons, List.drop_zero]
      repeat (gi_big_quiet_step (fail))
      have : n = n := rfl
      refine BigFrame.wpQuietIn_want (by intro w _ f hf; exact trivial) (by rfl) ?_
      intro K hK
      gi_big_quiet_op
      gi_big_quiet_call (exact ⟨fun _ => by omega, CallsIn.inRound l (callsIn_wide.2 (OF.out _ _))⟩)
      repeat (gi_big_quiet_step (fail))
      refine wpQuietIn_nil ?_
      intro _ hw'
      obtain ⟨⟨dq, osq⟩, hw''⟩ := hw'
      subst hw''
      have g2 : Gr W (grow (W.drewN dq) osq) := ⟨dq, osq, rfl⟩
      have KP2 := hid0 (Kp.gr hpb g2)
      have KF2 := hid0 g2
      have hpb2 : ∀ b, p b → b < (grow (W.drewN dq) osq).heap.size := fun b hb => Nat.lt_of_lt_of_le (hpb b hb) g2.size
      have hs2 := g2.size
      replace bo := bo.kept g2.grownBy (by simp)
      replace br := Bk.gr br g2
      replace bmo := bmo.gr g2
      replace hown := own_keepN hown g2.grownBy (fun g e => by simp)
      replace kv := kv.gr g2
      replace hBel := hBel.trans (g2.below.mono hBel.size)
      clear q0 q1 OF g2 hr
      generalize grow (W.drewN dq) osq = W2 at *
      have hNE := run_neV x.2.1
      have cv0 := bo.cell
      have cm0 := bmo.one
      obtain ⟨q0, q1⟩ := vcells kv
      have h2n : 1 ≤ n - 1 - 1 := by omega
      have hb8 : pre.length + 1 ≤ maxLen := by unfold maxLen; omega
      have hw0 : w.heap.size ≤ W2.heap.size := hBel.size
      have hlen2 : (pre ++ [x]).length = pre.length + 1 := by simp
      have HF : Hid (cP (pre ++ [x]) = cP pre ++ [.int .u32 x.1, .int .i64 x.2.1]) := by simp [Hid, cP]
      have hvm : v.ownBlock ≠ some w.heap.size := fun e => by have := own_ty hown e bmo; cases this
      have hvr : v.ownBlock ≠ some (w.heap.size + 1) := fun e => by have := own_ty hown e br; cases this
      have HPL : Hid (pre.length + 1 ≤ L.length) := by obtain ⟨t, ht⟩ := hpre; unfold Hid; rw [← ht]; simp
      clear hpre
      by_cases hm : (pre.length : Int) + 1 = m
      · have HM := hid0 hm
        have hmm : (((pre.length : Int) + 1) == m) = true := by simp [hm]
        clear hm
        gi_wp2_with (gi_at_builtin; refine wpListIn_append_own_at _ rfl _ _ 35 rfl w.heap.size 109 i0 (.agg #[.int .u32 0, .int .i64 0]) 2 16 Tryd.underlying35 hi hz0 hz1 hz2 rfl (by decide) _ _ _ rfl (hown.alloc _) ⟨W2.heap.size, 0, none⟩ 1 1 [.int .u32 x.1, .int .i64 x.2.1] rfl rfl (two_newN _ _ _ _) (by simp [Value.oneCell']) hb8 (by omega) (by simp; omega) ?_; intro v' w1 hown' hgrow _ hat; obtain ⟨g', cap', rfl⟩ := ownsRow_succ hown'; obtain ⟨hv1, hv2, hr2, hk2, hb2⟩ := bo.appended (by decide) hown hw0 (by omega) hown' hgrow; have hc1 := hv1.cell; have hf1 := hv1.frozen; have hc2 := hv2.cell; have mk := most_keepN (v' := .slice (some ⟨g', 0, none⟩) (pre.length + 1) cap') bmo (show w.heap.size ≠ w.heap.size + 2 by omega) hvm hgrow; have mc := mk.one; have rk := most_keepN (v' := .slice (some ⟨g', 0, none⟩) (pre.length + 1) cap') br (show w.heap.size + 1 ≠ w.heap.size + 2 by omega) hvr hgrow)
        exact ⟨(KF2.out.from _).trans (hk2.from _), _, hv2, rk, by rw [hlen2, HF.out]; exact hr2, hBel.trans hb2, ⟨by rw [hlen2]; have := HM.out; omega, by have := HM.out; omega⟩, rfl⟩
      · have HM := hid0 hm
        have hmm : (((pre.length : Int) + 1) == m) = false := by simp [hm]
        clear hm
        gi_wp2_with (gi_at_builtin; refine wpListIn_append_own_at _ rfl _ _ 35 rfl w.heap.size 109 i0 (.agg #[.int .u32 0, .int .i64 0]) 2 16 Tryd.underlying35 hi hz0 hz1 hz2 rfl (by decide) _ _ _ rfl (hown.alloc _) ⟨W2.heap.size, 0, none⟩ 1 1 [.int .u32 x.1, .int .i64 x.2.1] rfl rfl (two_newN _ _ _ _) (by simp [Value.oneCell']) hb8 (by omega) (by simp; omega) ?_; intro v' w1 hown' hgrow _ hat; obtain ⟨g', cap', rfl⟩ := ownsRow_succ hown'; obtain ⟨hv1, hv2, hr2, hk2, hb2⟩ := bo.appended (by decide) hown hw0 (by omega) hown' hgrow; have hc1 := hv1.cell; have hf1 := hv1.frozen; have hc2 := hv2.cell; have mk := most_keepN (v' := .slice (some ⟨g', 0, none⟩) (pre.length + 1) cap') bmo (show w.heap.size ≠ w.heap.size + 2 by omega) hvm hgrow; have mc := mk.one; have rk := most_keepN (v' := .slice (some ⟨g', 0, none⟩) (pre.length + 1) cap') br (show w.heap.size + 1 ≠ w.heap.size + 2 by omega) hvr hgrow)
        have hat' : some g' = v.ownBlock ∨ some g' = some (W2.heap.size + 1) := hat.imp (fun h => h) (fun h => by simpa [Value.ownBlock] using h)
        refine ⟨(KF2.out.from _).trans (hk2.from _), KP2.out.t (keep_pN hpb2 hBp hvp hgrow), _, hv2, rk, mk, by rw [hlen2, HF.out]; exact hr2, ?_, hBp, hBel.trans hb2, fun h => ?_, by rw [hlen2]; have := HPL.out; omega⟩
        · intro g e hg
          obtain rfl : g' = g := by simpa [Value.ownBlock] using e
          rcases hat' with h | h
          · exact hvp g' h.symm hg
          · have h1 := hpb2 g' hg
            simp at h
            omega
        · rw [hlen2]
          have h1 := hlt h
          have h2 := HM.out
          omega
  case done =>
    rintro D q W hD ⟨v, bo, br, _, hown, _, _, hBel, hlt, hlen⟩ hq hK
    obtain ⟨ao, c, rfl⟩ := own_slice hown
    have cv0 := bo.cell
    have eL : leftLE m L = L := by unfold leftLE; rw [if_neg]; rintro ⟨h1, h2⟩; have := hlt h1; omega
    rw [← eL] at hown
    have cf1 := br.frozen
    have cc1 := br.cell
    have hne : (⟨w.heap.size + 1, 0, none⟩ : Addr).block ≠ D := by simp; omega
    have hK2 : (W.setCell ⟨w.heap.size + 1, 0, none⟩ (.slice ao (leftLE m L).length c)).heap[D]? = some (.deferred (some [])) := (Below.heap_setCell _ _ _ _ (fun e => hne e.symm)).trans hK
    have br2 := br.set (.slice ao (leftLE m L).length c)
    have own2 : (W.setCell ⟨w.heap.size + 1, 0, none⟩ (.slice ao (leftLE m L).length c)).ownsRow w.heap.size 109 2 (.slice ao (leftLE m L).length c) (leftLE m L).length (cP (leftLE m L)) := own_keep hown (fun g e => Below.heap_setCell _ _ _ _ (fun e2 => by subst e2; have := own_ty hown e br; cases this))
    have bel2 := hBel.setCell (p := ⟨w.heap.size + 1, 0, none⟩) (Nat.le_succ _) (.slice ao (leftLE m L).length c)
    clear br
    rw [eL] at hK2 br2 bel2 own2
    gi_wp2
    generalize W.setCell _ _ = W3 at *
    refine ⟨by simp, .inl ⟨_, _, rfl, run_takeDeferred hK2, ?_⟩⟩
    exact ⟨_, res13 rfl (put_heap br2 (by omega)), _, rfl, ownsRow_putObj own2 _ hK2 rfl, bel2.trans (belowK_b (w := w) (Nat.le_refl _) W3 D _ _ (by omega) hK2 rfl rfl)⟩
  case stop =>
    rintro D c pre W hD hpre ⟨v, bo, br, hown, hBel, ⟨h401, h402⟩, rfl⟩ hK
    have eL : pre = leftLE m L := by
      obtain ⟨t, rfl⟩ := hpre
      unfold leftLE
      rw [if_pos ⟨h402, by simp; omega⟩, ← h401]
      simp
    obtain ⟨ao, c, rfl⟩ := own_slice hown
    have cv0 := bo.cell
    have cf1 := br.frozen
    have cc1 := br.cell
    have hne : (⟨w.heap.size + 1, 0, none⟩ : Addr).block ≠ D := by simp; omega
    have hK2 : (W.setCell ⟨w.heap.size + 1, 0, none⟩ (.slice ao pre.length c)).heap[D]? = some (.deferred (some [])) := (Below.heap_setCell _ _ _ _ (fun e => hne e.symm)).trans hK
    have br2 := br.set (.slice ao pre.length c)
    have own2 : (W.setCell ⟨w.heap.size + 1, 0, none⟩ (.slice ao pre.length c)).ownsRow w.heap.size 109 2 (.slice ao pre.length c) pre.length (cP pre) := own_keep hown (fun g e => Below.heap_setCell _ _ _ _ (fun e2 => by subst e2; have := own_ty hown e br; cases this))
    have bel2 := hBel.setCell (p := ⟨w.heap.size + 1, 0, none⟩) (Nat.le_succ _) (.slice ao pre.length c)
    have EL := hid0 eL
    clear br eL hpre h401 h402
    gi_wp2
    generalize W.setCell _ _ = W3 at *
    refine ⟨by simp, .inl ⟨_, _, rfl, run_takeDeferred hK2, ?_⟩⟩
    exact ⟨_, res13 rfl (put_heap br2 (by omega)), _, rfl, by rw [← EL.out]; exact ownsRow_putObj own2 _ hK2 rfl, bel2.trans (belowK_b (w := w) (Nat.le_refl _) W3 D _ _ (by omega) hK2 rfl rfl)⟩
end Go.Proofs.YtjnjpjpgokdciaaDoor
