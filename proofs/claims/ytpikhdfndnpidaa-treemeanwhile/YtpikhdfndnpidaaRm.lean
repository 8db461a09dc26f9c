/- The reference's Del. -/
import Derived.Test.YtpikhdfndnpidaaRf
import Derived.Deep.RegionLaw
set_option linter.unusedSimpArgs false
set_option linter.unusedVariables false
namespace Go.Proofs.Ytpikhdfndnpidaa
open Go.RowKit Go.Sort Go.Shelf

theorem rmv_pos (k : Int) : ∀ (l : List E), PT.Srt l → hasI k l = true → PT.rmv k l = l.take (posL k l) ++ l.drop (posL k l + 1) ∧ posL k l < l.length
  | [], _, h => by cases h
  | x :: l, s, h => by
    have s' := List.pairwise_cons.1 s
    by_cases c : x.1 < k
    · have hp : posL k (x :: l) = posL k l + 1 := by
        unfold posL
        rw [List.filter_cons, if_pos (by simpa using c)]
        rfl
      have hh : hasI k l = true := by
        obtain ⟨q, hq⟩ := hasI_iff.1 h
        rcases List.mem_cons.1 hq with e | hq
        · have : k = x.1 := congrArg Prod.fst e; omega
        · exact hasI_iff.2 ⟨q, hq⟩
      obtain ⟨i1, i2⟩ := rmv_pos k l s'.2 hh
      have hr : PT.rmv k (x :: l) = x :: PT.rmv k l := by
        unfold PT.rmv
        rw [List.filter_cons, if_pos (by simp; omega)]
      rw [hp, hr, i1]
      exact ⟨rfl, by simp; omega⟩
    · have hx : x.1 = k := by
        obtain ⟨q, hq⟩ := hasI_iff.1 h
        rcases List.mem_cons.1 hq with e | hq
        · exact (congrArg Prod.fst e).symm
        · have := s'.1 _ hq; simp only at this; omega
      have hp : posL k (x :: l) = 0 := by
        unfold posL
        rw [List.length_eq_zero_iff, List.filter_eq_nil_iff]
        intro y hy
        rcases List.mem_cons.1 hy with rfl | hy
        · simp; omega
        · have := s'.1 y hy; simp; omega
      rw [hp]
      refine ⟨?_, by simp⟩
      unfold PT.rmv
      rw [List.filter_cons, if_neg (by simp [hx])]
      simp only [List.take_zero, List.nil_append, Nat.zero_add, List.drop_succ_cons, List.drop_zero]
      exact PT.rmv_none (fun y hy => by have := s'.1 y hy; omega)
/-- The front of a row. -/
theorem own_front {w : World} {base e s g n m cap : Nat} {xs : List Value} (h : w.ownsRow base e s (.slice (some ⟨g, 0, none⟩) n cap) n xs) (hm : m ≤ n) : w.ownsRow base e s (.slice (some ⟨g, 0, none⟩) m cap) m (xs.take (m * s)) := by
  rcases h.2 with ⟨e1, _⟩ | ⟨g', cap', cur, e1, hb, hg, hnc, hcm, hcs, htake⟩
  · cases e1
  · simp only [Value.slice.injEq, Option.some.injEq, Addr.mk.injEq, and_true, true_and] at e1
    obtain ⟨rfl, rfl⟩ := e1
    have hle : m * s ≤ n * s := Nat.mul_le_mul_right s hm
    refine ⟨by rw [List.length_take, h.1]; omega, .inr ⟨g, cap, cur, rfl, hb, hg, by omega, hcm, hcs, ?_⟩⟩
    rw [← htake, List.take_take, Nat.min_eq_left hle]
theorem RCh.growm {w m0 w1 : World} {base R : Nat} {iv bw v' : Value} {c : Nat} (gm : Gr w m0) (k : Bk w R 29 [iv, bw]) (hbR : base ≤ R) (hb : base ≤ w.heap.size) (old : Option Nat) (hold : old = iv.ownBlock ∧ c = 0 ∨ old = bw.ownBlock ∧ c = 1) (hol : ∀ g, old = some g → base ≤ g ∧ g ≠ R)
    (hg : m0.grownBy w1 old) (hat : v'.ownBlock = old ∨ v'.ownBlock = some m0.heap.size) : RCh w (w1.setCell ⟨R, c, none⟩ v') base R := by
  have k1 : Bk m0 R 29 [iv, bw] := k.gr gm
  have k2 : Bk w1 R 29 [iv, bw] := k1.same (hg.block R k1.lt (fun e => (hol R e.symm).2 rfl))
  have sm := gm.size
  have sz : w.heap.size ≤ w1.heap.size := by have := hg.size; omega
  refine ⟨?_, fun m hm hR hn => ?_, fun m hm => ?_, by simp [World.setCell]; omega⟩
  · have b1 : Below base w m0 := gm.below.mono hb
    exact (b1.grown hg (by omega) (fun r e => (hol r e).1)).setCell (p := ⟨R, c, none⟩) hbR v'
  · rw [Below.heap_setCell _ _ _ _ (show m ≠ R from hR), hg.block m (by omega) (fun e => hn ⟨iv, bw, k, by rcases hold with ⟨h, _⟩ | ⟨h, _⟩ <;> simp [← h, e]⟩)]
    exact gm.below.block m hm
  · obtain ⟨iv', bw', h1, h2⟩ := hm
    have k3 := k2.set c v'
    rcases hold with ⟨h, rfl⟩ | ⟨h, rfl⟩
    · obtain ⟨rfl, rfl⟩ := bk_same k3 h1
      rcases h2 with h2 | h2
      · rcases hat with e | e
        · exact .inl ⟨iv, bw, k, .inl (by rw [← h, ← e, h2])⟩
        · rw [h2] at e; simp at e; exact .inr (by omega)
      · exact .inl ⟨iv, bw, k, .inr h2⟩
    · obtain ⟨rfl, rfl⟩ := bk_same k3 h1
      rcases h2 with h2 | h2
      · exact .inl ⟨iv, bw, k, .inl h2⟩
      · rcases hat with e | e
        · exact .inl ⟨iv, bw, k, .inr (by rw [← h, ← e, h2])⟩
        · rw [h2] at e; simp at e; exact .inr (by omega)
theorem boxC_take : ∀ (l : List E) (k : Nat), boxC (l.take k) = (boxC l).take (k * 4)
  | [], k => by simp [boxC]
  | x :: l, 0 => by simp [boxC]
  | x :: l, k + 1 => by
    have := boxC_take l k
    rw [show (k + 1) * 4 = k * 4 + 4 by omega]
    simp [boxC, this]
theorem boxC_drop : ∀ (l : List E) (k : Nat), boxC (l.drop k) = (boxC l).drop (k * 4)
  | [], k => by simp [boxC]
  | x :: l, 0 => by simp [boxC]
  | x :: l, k + 1 => by
    have := boxC_drop l k
    rw [show (k + 1) * 4 = k * 4 + 4 by omega]
    simp [boxC, this]
theorem boxC_one : ∀ (l : List E) (u : Value), u ∈ boxC l → u.oneCell' = true
  | [], u, h => by simp [boxC] at h
  | x :: l, u, h => by
    simp only [boxC, List.mem_append, List.mem_cons, List.not_mem_nil, or_false] at h
    rcases h with h | h | h | h | h
    all_goals first | (subst h; rfl) | exact boxC_one l u h
/-- append as one step of a region that draws, by its equation. -/
theorem step_append_run {P : Program} {ops : Array Oper} {o : Oper} {a : Act} {w : World} {K : Act → World → Prop} {Q : Exit → Act → World → Prop} {E : Prop}
    (hg : o.guard = none) (s x : Operand) (t : TypeId) (hop : o.op = Op.call { callee := Callee.builtin Builtin.append, args := #[s, x], argTypes := #[t, t] })
    (sv xv v' : Value) (w' : World) (hs : a.eval s = sv) (hx : a.eval x = xv) (hrun : (Builtin.append_ #[t, t] o.type #[sv, xv]).run P w = .ok v' w')
    (hK : K (a.put o.dst v') w') : if Region.wanted o (yielded ops a.tmps) = true then Oper.wp P o a w K Q else E := by
  have hw : Region.wanted o (yielded ops a.tmps) = true := by simp [Region.wanted, hg]
  rw [if_pos hw]
  unfold Oper.wp
  simp [execOp, hop, resolve, invoke, builtin, hs, hx, hrun, Result.andThen]
  exact hK
set_option maxRecDepth 1000000 in
set_option maxHeartbeats 8000000 in
theorem rdel_ok (base R : Nat) (l : List E) (k : Int) (w : World) (h : RefIs w base R l) (s : PT.Srt l) (hz : hasI k l = true) (hl : l.length ≤ 65536) (hbw : base ≤ w.heap.size) :
    Calls Try.prog 23 #[.pointer (some ⟨R, 0, none⟩), .int .u32 k] w fun e w' => e = .returned (.int .i64 0) ∧ RefIs w' base R (PT.rmv k l) ∧ RCh w w' base R := by
  obtain ⟨i0, hi, hz0, hz1, hz2⟩ := info_parts Try.info32
  obtain ⟨j0, hj, hj0, hj1, hj2⟩ := info_parts Try.info36
  have PL := hid0 (place_any base R l k w h s (by omega))
  rw [hz] at PL
  obtain ⟨e1, e2⟩ := rmv_pos k l s hz
  rw [e1]
  obtain ⟨hbR, iv, bw, kR, o1, o2⟩ := h
  obtain ⟨N, hN⟩ : ∃ N, N = l.length := ⟨_, rfl⟩
  have HN := hid0 hN
  obtain ⟨P, hP⟩ : ∃ P, P = posL k l := ⟨_, rfl⟩
  rw [← hP] at e2 PL ⊢
  rw [← hN] at e2 o1 o2
  obtain ⟨gi, ci, rfl⟩ := Go.Joins.ownsRow_form o1 (by omega)
  obtain ⟨gb, cb, rfl⟩ := Go.Joins.ownsRow_form o2 (by omega)
  have HN6 : Hid (N ≤ 65536) := by unfold Hid; omega
  have HBW := hid0 hbw
  have HBR := hid0 hbR
  have KR0 := hid0 kR
  clear s hN hP hz hl e1 hbw hbR
  go_enter Try.func23, Try.ntmps23
  go_wp2_with fail
  refine PL.out.mono ?_
  rintro e v2 ⟨rfl, gA⟩
  have kR2 := kR.gr gA
  have O1 : Hid (v2.ownsRow base 32 1 (.slice (some ⟨gi, 0, none⟩) N ci) N (idC l)) := own_keep o1 gA.grownBy (fun _ _ e => by cases e)
  have O2 : Hid (v2.ownsRow base 36 4 (.slice (some ⟨gb, 0, none⟩) N cb) N (boxC l)) := own_keep o2 gA.grownBy (fun _ _ e => by cases e)
  have r0 := kR2.at 0
  simp only [List.getElem?_cons_zero, List.getElem?_cons_succ] at r0
  have f0 := kR2.frozen 0
  have GA := hid0 gA
  have HB2 : Hid (base ≤ v2.heap.size) := Nat.le_trans HBW.out gA.size
  clear PL o1 o2 gA kR
  have hwr : IntKind.i64.wrap ((P : Int) + 1) = (P : Int) + 1 := by rw [IntKind.wrap_i64]; have := HN6.out; omega
  have hwr2 : wrap64 ((P : Int) + 1) = (P : Int) + 1 := by have := HN6.out; unfold wrap64; omega
  have hp0 : (0 : Int) ≤ (P : Int) + 1 := by omega
  have hp1 : (P : Int) + 1 ≤ (N : Int) := by omega
  have hp2 : ((P : Int) + 1).toNat = P + 1 := by omega
  have pN : P ≤ N := by omega
  obtain ⟨hNc, hcm⟩ : N ≤ ci ∧ ci ≤ maxLen := by
    rcases O1.out.2 with ⟨e, _⟩ | ⟨g', c', cu, e, _, _, h1, h2, _⟩
    · cases e
    · cases e; exact ⟨h1, h2⟩
  have hic : P ≤ ci := by omega
  have OF := hid0 (own_front O1.out pN)
  obtain ⟨A, hA, hnews⟩ : ∃ A : Addr, (if ci = P + 1 then some (⟨gi, 0, none⟩ : Addr) else some ⟨gi, P + 1, none⟩) = some A ∧ Hid (∀ j u, ((idC l).drop (P + 1))[j]? = some u → v2.drew.cell? (A.add j) = some u) := by
    by_cases h : ci = P + 1
    · refine ⟨⟨gi, 0, none⟩, by simp [h], fun j u hu => ?_⟩
      have h0 : (idC l).drop (P + 1) = [] := by rw [List.drop_eq_nil_iff]; simp [idC, ← HN.out]; omega
      rw [h0] at hu
      simp at hu
    · refine ⟨⟨gi, P + 1, none⟩, by simp [h], fun j u hu => ?_⟩
      rw [List.getElem?_drop] at hu
      have := O1.out.cells (g := gi) rfl _ _ hu
      rw [add_zero] at this
      rw [Addr.add_lit]
      exact this
  have H1 : Hid (((idC l).drop (P + 1)).length = (N - (P + 1)) * 1) := by unfold Hid; simp [idC, HN.out]
  obtain ⟨v', w', hr, h2, h3, h4, h5⟩ := run_append_own_at (P := Try.prog) v2.drew base 26 26 32 i0 (.int .u32 0) 1 4 Try.underlying26 hi hz0 hz1 hz2 rfl (by decide) (.slice (some ⟨gi, 0, none⟩) P ci) P _ (own_keep OF.out ((Gr.refl v2).drew).grownBy (fun _ _ e => by cases e)) A (N - (P + 1)) (ci - (P + 1)) ((idC l).drop (P + 1)) H1.out hnews.out (by intro u hu; have := List.mem_of_mem_drop hu; simp [idC] at this; obtain ⟨_, _, _, _, _, rfl⟩ := this; rfl) (by have := HN6.out; unfold maxLen; omega) (by have := HN6.out; omega) HB2.out
  obtain ⟨g1, c1, hv'⟩ : ∃ g c, v' = .slice (some ⟨g, 0, none⟩) (P + (N - (P + 1))) c := by
    rcases h2.2 with ⟨e, _⟩ | ⟨g, c, cur, e, _⟩
    · have := (h4.1 e).1; cases this
    · exact ⟨g, c, e⟩
  subst hv'
  obtain ⟨M, hM⟩ : ∃ M, M = P + (N - (P + 1)) := ⟨_, rfl⟩
  rw [← hM] at h2 hr h5
  have nR : R ≠ gi := fun e => not_row O1.out kR2 (by decide) (by rw [e]; rfl)
  have kA : Bk w' R 29 [.slice (some ⟨gi, 0, none⟩) N ci, .slice (some ⟨gb, 0, none⟩) N cb] := (kR2.gr (Gr.refl v2).drew).same (h3.block R (kR2.gr (Gr.refl v2).drew).lt (fun e => nR (by simpa [Value.ownBlock] using e)))
  have q0 := kA.at 0
  have q1 := kA.frozen 0
  simp only [List.getElem?_cons_zero, List.getElem?_cons_succ] at q0
  have H2 := hid0 h2
  have H3 := hid0 h3
  have H5 := hid0 h5
  have HM := hid0 hM
  have HR := hid0 hr
  have KA := hid0 kA
  have K2 := hid0 kR2
  have NR := hid0 nR
  clear h2 h3 h4 h5 hM hr OF hnews H1 kA kR2 nR
  go_upto_region 4 with fail
  go_region_law (refine step_append_run rfl (.tmp 21) (.tmp 28) 26 rfl (.slice (some ⟨gi, 0, none⟩) P ci) (.slice (some A) (N - (P + 1)) (ci - (P + 1))) _ _ (by simp [Act.eval, Act.put]) (by simp [Act.eval, Act.put]) HR.out ?_)
  all_goals
    obtain ⟨V1, hV1⟩ : ∃ V1, V1 = Value.slice (some ⟨g1, 0, none⟩) M c1 := ⟨_, rfl⟩
    have RC1 : Hid (RCh v2 (w'.setCell ⟨R, 0, none⟩ (.slice (some ⟨g1, 0, none⟩) M c1)) base R) := RCh.growm (Gr.refl v2).drew K2.out HBR.out HB2.out _ (.inl ⟨rfl, rfl⟩) (fun g e => ⟨(own_lt O1.out e).2.1, fun e' => NR.out (by simp [Value.ownBlock] at e; omega)⟩) H3.out H5.out
    have kX : Bk (w'.setCell ⟨R, 0, none⟩ (.slice (some ⟨g1, 0, none⟩) M c1)) R 29 [.slice (some ⟨g1, 0, none⟩) M c1, .slice (some ⟨gb, 0, none⟩) N cb] := KA.out.set 0 _
    have n1R : g1 ≠ R := fun e => not_row H2.out KA.out (by decide) (by rw [← e]; rfl)
    have OX1 := hid0 (own_keep H2.out (ch_set w' R 0 (.slice (some ⟨g1, 0, none⟩) M c1)) (fun g e e' => by simp [Value.ownBlock] at e; cases e'; exact n1R e))
    have OX2 : Hid ((w'.setCell ⟨R, 0, none⟩ (.slice (some ⟨g1, 0, none⟩) M c1)).ownsRow base 36 4 (.slice (some ⟨gb, 0, none⟩) N cb) N (boxC l)) := by
      refine own_keep (own_keep (own_keep O2.out ((Gr.refl v2).drew).grownBy (fun _ _ e => by cases e)) H3.out (fun g e e' => ?_)) (ch_set w' R 0 _) (fun g e e' => by cases e'; exact not_row O2.out K2.out (by decide) e)
      obtain ⟨_, _, c1, h1⟩ := own_lt O1.out e'.symm
      obtain ⟨_, _, c2, h2⟩ := own_lt O2.out e
      rw [h1] at h2
      cases h2
    have hbX : Hid (base ≤ (w'.setCell ⟨R, 0, none⟩ (.slice (some ⟨g1, 0, none⟩) M c1)).heap.size) := Nat.le_trans HB2.out RC1.out.size
    clear hV1 V1 n1R q0 q1 r0 f0 O1 O2 H2 H3 H5 HR KA K2 NR hA hic hNc hcm hwr2
    generalize w'.setCell ⟨R, 0, none⟩ (.slice (some ⟨g1, 0, none⟩) M c1) = X1 at *
    have r1 := kX.at 1
    have f1 := kX.frozen 1
    simp only [List.getElem?_cons_zero, List.getElem?_cons_succ] at r1
    have hwr2 : wrap64 ((P : Int) + 1) = (P : Int) + 1 := by have := HN6.out; unfold wrap64; omega
    obtain ⟨hNc, hcm⟩ : N ≤ cb ∧ cb ≤ maxLen := by
      rcases OX2.out.2 with ⟨e, _⟩ | ⟨g', c', cu, e, _, _, h1, h2, _⟩
      · cases e
      · cases e; exact ⟨h1, h2⟩
    have hic : P ≤ cb := by omega
    have OF := hid0 (own_front OX2.out pN)
    obtain ⟨A2, hA2, hnews⟩ : ∃ A : Addr, (if cb = P + 1 then some (⟨gb, 0, none⟩ : Addr) else some ⟨gb, (P + 1) * 4, none⟩) = some A ∧ Hid (∀ j u, ((boxC l).drop ((P + 1) * 4))[j]? = some u → X1.drew.cell? (A.add j) = some u) := by
      by_cases h : cb = P + 1
      · refine ⟨⟨gb, 0, none⟩, by simp [h], fun j u hu => ?_⟩
        have h0 : (boxC l).drop ((P + 1) * 4) = [] := by rw [List.drop_eq_nil_iff, boxC_len, ← HN.out]; omega
        rw [h0] at hu
        simp at hu
      · refine ⟨⟨gb, (P + 1) * 4, none⟩, by simp [h], fun j u hu => ?_⟩
        rw [List.getElem?_drop] at hu
        have := OX2.out.cells (g := gb) rfl _ _ hu
        rw [add_zero] at this
        rw [Addr.add_lit]
        exact this
    have H1 : Hid (((boxC l).drop ((P + 1) * 4)).length = (N - (P + 1)) * 4) := by unfold Hid; rw [List.length_drop, boxC_len, ← HN.out]; omega
    obtain ⟨v', w', hr, h2, h3, h4, h5⟩ := run_append_own_at (P := Try.prog) X1.drew base 27 27 36 j0 (.agg #[.int .i32 0, .int .i32 0, .int .i32 0, .int .i32 0]) 4 16 Try.underlying27 hj hj0 hj1 hj2 rfl (by decide) (.slice (some ⟨gb, 0, none⟩) P cb) P _ (own_keep OF.out ((Gr.refl X1).drew).grownBy (fun _ _ e => by cases e)) A2 (N - (P + 1)) (cb - (P + 1)) ((boxC l).drop ((P + 1) * 4)) H1.out hnews.out (fun u hu => boxC_one l u (List.mem_of_mem_drop hu)) (by have := HN6.out; unfold maxLen; omega) (by have := HN6.out; omega) hbX.out
    obtain ⟨g2, c2, hv'⟩ : ∃ g c, v' = .slice (some ⟨g, 0, none⟩) (P + (N - (P + 1))) c := by
      rcases h2.2 with ⟨e, _⟩ | ⟨g, c, cur, e, _⟩
      · have := (h4.1 e).1; cases this
      · exact ⟨g, c, e⟩
    subst hv'
    rw [← HM.out] at h2 hr h5
    have nR : R ≠ gb := fun e => not_row OX2.out kX (by decide) (by rw [e]; rfl)
    have kA : Bk w' R 29 [.slice (some ⟨g1, 0, none⟩) M c1, .slice (some ⟨gb, 0, none⟩) N cb] := (kX.gr (Gr.refl X1).drew).same (h3.block R (kX.gr (Gr.refl X1).drew).lt (fun e => nR (by simpa [Value.ownBlock] using e)))
    have q0 := kA.at 1
    have q1 := kA.frozen 1
    simp only [List.getElem?_cons_zero, List.getElem?_cons_succ] at q0
    have H2 := hid0 h2
    have H3 := hid0 h3
    have H5 := hid0 h5
    have HR := hid0 hr
    have KA := hid0 kA
    have KX := hid0 kX
    have NR := hid0 nR
    clear h2 h3 h4 h5 hr OF hnews H1 kA kX nR
    go_upto_region 5 with fail
    go_region_law (refine step_append_run rfl (.tmp 38) (.tmp 45) 27 rfl (.slice (some ⟨gb, 0, none⟩) P cb) (.slice (some A2) (N - (P + 1)) (cb - (P + 1))) _ _ (by simp [Act.eval, Act.put]) (by simp [Act.eval, Act.put]) HR.out ?_)
    all_goals
      have RC2 : Hid (RCh v2 (w'.setCell ⟨R, 1, none⟩ (.slice (some ⟨g2, 0, none⟩) M c2)) base R) := RC1.out.trans (RCh.growm (Gr.refl X1).drew KX.out HBR.out hbX.out _ (.inr ⟨rfl, rfl⟩) (fun g e => ⟨(own_lt OX2.out e).2.1, fun e' => NR.out (by simp [Value.ownBlock] at e; omega)⟩) H3.out H5.out)
      have kY : Hid (Bk (w'.setCell ⟨R, 1, none⟩ (.slice (some ⟨g2, 0, none⟩) M c2)) R 29 [.slice (some ⟨g1, 0, none⟩) M c1, .slice (some ⟨g2, 0, none⟩) M c2]) := KA.out.set 1 _
      have n1R : g2 ≠ R := fun e => not_row H2.out KA.out (by decide) (by rw [← e]; rfl)
      have OY2 := hid0 (own_keep H2.out (ch_set w' R 1 (.slice (some ⟨g2, 0, none⟩) M c2)) (fun g e e' => by simp [Value.ownBlock] at e; cases e'; exact n1R e))
      have OY1 := hid0 (own_keep (own_keep (own_keep OX1.out ((Gr.refl X1).drew).grownBy (fun _ _ e => by cases e)) H3.out (fun g e e' => by
        obtain ⟨_, _, c1, h1⟩ := own_lt OX1.out e
        obtain ⟨_, _, c2, h2⟩ := own_lt OX2.out e'.symm
        rw [h1] at h2
        cases h2)) (ch_set w' R 1 (.slice (some ⟨g2, 0, none⟩) M c2)) (fun g e e' => by cases e'; exact not_row OX1.out KX.out (by decide) e))
      clear n1R q0 q1 r1 f1 OX1 OX2 H2 H3 H5 HR KA KX NR hA2 hic hNc hcm
      generalize w'.setCell ⟨R, 1, none⟩ (.slice (some ⟨g2, 0, none⟩) M c2) = X2 at *
      go_wp2
      go_ret
      have el : (l.take P ++ l.drop (P + 1)).length = M := by rw [HM.out, List.length_append, List.length_take, List.length_drop, ← HN.out]; omega
      refine ⟨rfl, ⟨HBR.out, _, _, kY.out, ?_, ?_⟩, (RCh.gr KR0.out GA.out HBW.out).trans RC2.out⟩
      · rw [el]
        have e3 : idC (l.take P ++ l.drop (P + 1)) = (idC l).take (P * 1) ++ (idC l).drop (P + 1) := by simp [idC, List.map_take, List.map_drop]
        rw [e3]
        exact OY1.out
      · rw [el, boxC_append, boxC_take, boxC_drop]
        exact OY2.out
end Go.Proofs.Ytpikhdfndnpidaa
