/- The walk over a tree that passes over the parts whose box is not wanted: tell's contract. -/
import Derived.Test.YtpikhdfndnpidaaTi
set_option linter.unusedSimpArgs false
set_option linter.unusedVariables false
namespace Go.Proofs.Ytpikhdfndnpidaa
open Go.RowKit Go.Sort Go.Shelf
attribute [local go_sem] Oper.semAt_some wide_fn
attribute [local simp] wide_fn

theorem want45f (n : Nat) (f : Q4 → Bool) (hf : ∀ q, f q = true) (q : Q4) (W : World) : CallsIn Fence.wide n Try.prog 45 #[bv q] W fun e W' => e = .returned (.bool (f q)) ∧ Gr W W' := by
  rw [hf]
  exact want45 n q W
set_option maxRecDepth 20000 in
set_option maxHeartbeats 4000000 in
theorem tell39_in (w0 : World) (l B : Nat) (J : (Nat → Prop) → List Nd → World → Prop) (Jx : List Nd → World → Prop) (L : List Nd) (p0 : Nat → Prop) (hp0 : ∀ x, isNode w0 x → p0 x) (hJ : Con B J) (bc : Nat) (bq : Q4) (hbc : Bk w0 bc 36 [.int .i32 bq.1, .int .i32 bq.2.1, .int .i32 bq.2.2.1, .int .i32 bq.2.2.2]) (hpc : p0 bc)
    (hY : ∀ p pre x W1, (∀ b, p0 b → p b) → (∀ b, p b → b < W1.heap.size) → J p pre W1 → B ≤ W1.heap.size → pre ++ [x] <+: L → YieldAt Fence.wide 0 Try.prog l (nEnc x) W1 (RoundEnds B J Jx p (pre ++ [x]) W1)) (t : At) :
    TrAt w0 t → ∀ (n : Nat) (p : Nat → Prop) (pre : List Nd) (W : World), (∀ b, p0 b → p b) → (∀ b, p b → b < W.heap.size) → Kp p0 w0 W → B ≤ W.heap.size → J p pre W → pre ++ t.tellN (fun q => meetQ q bq) <+: L →
    CallsIn Fence.wide n Try.prog 50 #[t.ptr, .func (.func 39) #[] #[.pointer (some ⟨bc, 0, none⟩)], .func (.yield l) #[] #[]] W (TellEnds B J Jx L p (pre ++ t.tellN (fun q => meetQ q bq)) W) := by
  induction t using At.ind with
  | nil =>
    intro _ n p pre W hp hpb hk hB hj hpre
    show CallsIn Fence.wide n Try.prog 50 #[.pointer none, .func (.func 39) #[] #[.pointer (some ⟨bc, 0, none⟩)], .func (.yield l) #[] #[]] W _
    have E : Hid (TellEnds B J Jx L p (pre ++ At.nil.tellN (fun q => meetQ q bq)) W (.returned (.bool true)) W) := .inl ⟨rfl, by rw [At.tellN, List.append_nil]; exact hj, Kp.refl _, Nat.le_refl _⟩
    clear hp hpb hk hB hj hpre
    refine callsIn_of_wp Try.func50 rfl trivial ?_ rfl
    simp only [Try.ntmps50, List.size_toArray, List.length_cons, List.length_nil, Nat.reduceAdd, Nat.reduceSub, Array.replicate_succ, Array.replicate_zero, List.push_toArray, List.append_toArray, List.nil_append, List.cons_append]
    gi_wp2
    go_ret
    exact E.out
  | nd b i q lt ht ih1 ih2 =>
    intro hT n p pre W hp hpb hk hB hj hpre
    obtain ⟨kn, hTl, hTh⟩ := hT
    have i1 := hid0 (ih1 hTl)
    have i2 := hid0 (ih2 hTh)
    have HK := hid0 hk
    have KN : Hid (∀ W, Kp p0 w0 W → Bk W b 80 (nodeL i q lt.ptr ht.ptr (PT.nd i q lt.er ht.er).ar (PT.nd i q lt.er ht.er).dep)) := fun W h => kn.same (h b (hp0 b ⟨_, kn⟩))
    clear kn hTl hTh ih1 ih2
    generalize hlp : lt.ptr = lp at *
    generalize hhp : ht.ptr = hpp at *
    clear hlp hhp
    generalize (((PT.nd i q lt.er ht.er).dep : Nat) : Int) = dd at *
    have k1 := KN.out W HK.out
    obtain ⟨a0, a1, a2, a3⟩ : W.cell? ⟨b, 7, none⟩ = some (.int .i32 (PT.nd i q lt.er ht.er).ar.1) ∧ W.cell? ⟨b, 8, none⟩ = some (.int .i32 (PT.nd i q lt.er ht.er).ar.2.1) ∧ W.cell? ⟨b, 9, none⟩ = some (.int .i32 (PT.nd i q lt.er ht.er).ar.2.2.1) ∧ W.cell? ⟨b, 10, none⟩ = some (.int .i32 (PT.nd i q lt.er ht.er).ar.2.2.2) := ⟨k1.at 7, k1.at 8, k1.at 9, k1.at 10⟩
    have TL : Hid ((At.nd b i q lt ht).tellN (fun q => meetQ q bq) = if (fun q => meetQ q bq) (PT.nd i q lt.er ht.er).ar then lt.tellN (fun q => meetQ q bq) ++ ((if (fun q => meetQ q bq) q then [(b, i, q)] else []) ++ ht.tellN (fun q => meetQ q bq)) else []) := rfl
    have WA := hid0 ((want39 (n - 1) bc bq (PT.nd i q lt.er ht.er).ar W (hbc.same (HK.out bc hpc))))
    dsimp only [bv, bx] at WA
    show CallsIn Fence.wide n Try.prog 50 #[.pointer (some ⟨b, 0, none⟩), .func (.func 39) #[] #[.pointer (some ⟨bc, 0, none⟩)], .func (.yield l) #[] #[]] W _
    generalize (PT.nd i q lt.er ht.er).ar = R at *
    clear k1 hk
    refine callsIn_of_wp Try.func50 rfl trivial ?_ rfl
    simp only [Try.ntmps50, List.size_toArray, List.length_cons, List.length_nil, Nat.reduceAdd, Nat.reduceSub, Array.replicate_succ, Array.replicate_zero, List.push_toArray, List.append_toArray, List.nil_append, List.cons_append]
    gi_wp2_with fail
    refine ⟨fun h => (by cases h), WA.out.mono ?_⟩
    rintro e W1 ⟨rfl, g1⟩
    clear a0 a1 a2 a3 WA
    have kp1 : Hid (Kp p0 w0 W1) := HK.out.t (Kp.gr (fun b hb => hpb b (hp b hb)) g1)
    have hj1 := hJ.gr hj g1
    have hpb1 : ∀ b, p b → b < W1.heap.size := fun b hb => Nat.lt_of_lt_of_le (hpb b hb) g1.size
    have kpW : Hid (Kp p W W1) := Kp.gr hpb g1
    have hs1 := g1.size
    clear hj HK g1 hpb
    by_cases c : (fun q => meetQ q bq) R = true
    · have TT : Hid ((At.nd b i q lt ht).tellN (fun q => meetQ q bq) = lt.tellN (fun q => meetQ q bq) ++ ((if (fun q => meetQ q bq) q then [(b, i, q)] else []) ++ ht.tellN (fun q => meetQ q bq))) := by unfold Hid; rw [TL.out, if_pos c]
      rw [TT.out] at hpre
      have EE : Hid (∀ e W', TellEnds B J Jx L p (pre ++ (lt.tellN (fun q => meetQ q bq) ++ ((if (fun q => meetQ q bq) q then [(b, i, q)] else []) ++ ht.tellN (fun q => meetQ q bq)))) W e W' → TellEnds B J Jx L p (pre ++ (At.nd b i q lt ht).tellN (fun q => meetQ q bq)) W e W') := fun e W' h => by rw [TT.out]; exact h
      clear TL TT
      have CR : ((fun q => meetQ q bq) R) = true := c
      simp only at CR
      have k1 := KN.out W1 kp1.out
      have z5 := k1.at 5
      simp only [List.getElem?_cons_zero, List.getElem?_cons_succ] at z5
      clear k1
      have C1 := hid0 (i1.out (n - 1) p pre W1 hp hpb1 kp1.out (by omega) hj1 (List.IsPrefix.trans (by rw [← List.append_assoc]; exact List.prefix_append _ _) hpre))
      gi_wp2_with fail
      refine ⟨fun h => (by cases h), C1.out.mono ?_⟩
      clear C1 i1 z5
      rintro e W2 (⟨rfl, j2, k2, s2⟩ | ⟨rfl, u, hu, hx⟩)
      · have kp2 : Hid (Kp p0 w0 W2) := kp1.out.t (k2.sub hp)
        have kpW2 : Hid (Kp p W W2) := kpW.out.t k2
        have hpb2 : ∀ b, p b → b < W2.heap.size := fun b hb => Nat.lt_of_lt_of_le (hpb1 b hb) s2
        have k1 := KN.out W2 kp2.out
        obtain ⟨a0, a1, a2, a3⟩ : W2.cell? ⟨b, 1, none⟩ = some (.int .i32 q.1) ∧ W2.cell? ⟨b, 2, none⟩ = some (.int .i32 q.2.1) ∧ W2.cell? ⟨b, 3, none⟩ = some (.int .i32 q.2.2.1) ∧ W2.cell? ⟨b, 4, none⟩ = some (.int .i32 q.2.2.2) := ⟨k1.at 1, k1.at 2, k1.at 3, k1.at 4⟩
        have WQ := hid0 (want39 (n - 1) bc bq q W2 (hbc.same (kp2.out bc hpc)))
        dsimp only [bv, bx] at WQ
        clear k1 hj1 kp1 kpW hpb1 k2
        gi_wp2_with fail
        refine ⟨fun h => (by cases h), WQ.out.mono ?_⟩
        clear WQ a0 a1 a2 a3
        rintro e W3 ⟨rfl, g3⟩
        have j3 := hJ.gr j2 g3
        have hpb3 : ∀ b, p b → b < W3.heap.size := fun b hb => Nat.lt_of_lt_of_le (hpb2 b hb) g3.size
        have kp3 : Hid (Kp p0 w0 W3) := kp2.out.t (Kp.gr (fun b hb => hpb2 b (hp b hb)) g3)
        have kpW3 : Hid (Kp p W W3) := kpW2.out.t (Kp.gr hpb2 g3)
        have s3 : W.heap.size ≤ W3.heap.size := by have := g3.size; omega
        clear j2 hpb2 kp2 kpW2 g3 s2 hs1
        by_cases cq : (fun q => meetQ q bq) q = true
        · have CQ : ((fun q => meetQ q bq) q) = true := cq
          simp only at CQ
          rw [if_pos cq] at hpre EE
          have hy := hY p (pre ++ lt.tellN (fun q => meetQ q bq)) (b, i, q) W3 hp hpb3 j3 (by omega) (List.IsPrefix.trans (by simp) hpre)
          obtain ⟨fn, tmps, assign, body, hy, hRd⟩ := yield_depth (n - 1) hy
          dsimp only [nEnc] at hy
          gi_wp2
          refine ⟨fun h => (by cases h), hRd.mono ?_⟩
          clear hy hRd
          rintro e W4 (⟨rfl, j4, k4, f4⟩ | ⟨rfl, hx, f4⟩)
          · have kp4 : Hid (Kp p0 w0 W4) := kp3.out.t (k4.sub hp)
            have kpW4 : Hid (Kp p W W4) := kpW3.out.t k4
            have hpb4 : ∀ b, p b → b < W4.heap.size := fun b hb => Nat.lt_of_lt_of_le (hpb3 b hb) f4.size
            have z6 := (KN.out W4 kp4.out).at 6
            simp only [List.getElem?_cons_zero, List.getElem?_cons_succ] at z6
            have s4 : W.heap.size ≤ W4.heap.size := by have := f4.size; omega
            have C2 := hid0 (i2.out (n - 1) p (pre ++ lt.tellN (fun q => meetQ q bq) ++ [(b, i, q)]) W4 hp hpb4 kp4.out (by omega) j4 (by simpa using hpre))
            clear hpb3 kp3 kpW3 j3 k4 f4 j4 kp4 i2
            gi_wp2_with fail
            refine ⟨fun h => (by cases h), C2.out.mono ?_⟩
            clear C2 z6
            rintro e W5 (⟨rfl, j5, k5, s5⟩ | ⟨rfl, u, hu, hx⟩)
            · have FIN := hid0 (EE.out _ _ (.inl ⟨rfl, by simpa using j5, kpW4.out.t k5, Nat.le_trans s4 s5⟩))
              gi_wp2
              go_ret
              exact FIN.out
            · have FIN := hid0 (EE.out _ _ (.inr ⟨rfl, u, hu, hx⟩))
              gi_wp2
              go_ret
              exact FIN.out
          · have FIN := hid0 (EE.out _ _ (.inr ⟨rfl, _, List.IsPrefix.trans (by simp) hpre, hx⟩))
            gi_wp2
            go_ret
            exact FIN.out
        · have CQ : ((fun q => meetQ q bq) q) = false := by simpa using cq
          simp only at CQ
          rw [if_neg cq] at hpre EE
          have z6 := (KN.out W3 kp3.out).at 6
          simp only [List.getElem?_cons_zero, List.getElem?_cons_succ] at z6
          have C2 := hid0 (i2.out (n - 1) p (pre ++ lt.tellN (fun q => meetQ q bq)) W3 hp hpb3 kp3.out (by omega) j3 (by simpa using hpre))
          clear hpb3 kp3 j3 i2
          gi_wp2_with fail
          refine ⟨fun h => (by cases h), C2.out.mono ?_⟩
          clear C2 z6
          rintro e W5 (⟨rfl, j5, k5, s5⟩ | ⟨rfl, u, hu, hx⟩)
          · have FIN := hid0 (EE.out _ _ (.inl ⟨rfl, by simpa using j5, kpW3.out.t k5, Nat.le_trans s3 s5⟩))
            gi_wp2
            go_ret
            exact FIN.out
          · have FIN := hid0 (EE.out _ _ (.inr ⟨rfl, u, hu, hx⟩))
            gi_wp2
            go_ret
            exact FIN.out
      · have FIN := hid0 (EE.out _ _ (.inr ⟨rfl, u, hu, hx⟩))
        clear hY i2 KN kp1 kpW hj1 hpre EE
        gi_wp2_with fail
        all_goals first
          | (exfalso; have hub := ‹some undef = some (Value.bool _)›; simp [undef] at hub; done)
          | (go_ret; exact FIN.out)
    · have TT : Hid ((At.nd b i q lt ht).tellN (fun q => meetQ q bq) = []) := by unfold Hid; rw [TL.out, if_neg c]
      have CR : ((fun q => meetQ q bq) R) = false := by simpa using c
      simp only at CR
      have E : Hid (TellEnds B J Jx L p (pre ++ (At.nd b i q lt ht).tellN (fun q => meetQ q bq)) W (.returned (.bool true)) W1) := .inl ⟨rfl, by rw [TT.out, List.append_nil]; exact hj1, kpW.out, hs1⟩
      clear hpre TL TT hj1 hY i1 i2 KN kp1 kpW
      gi_wp2
      go_ret
      exact E.out
set_option maxRecDepth 20000 in
set_option maxHeartbeats 4000000 in
theorem tell45_in (w0 : World) (l B : Nat) (J : (Nat → Prop) → List Nd → World → Prop) (Jx : List Nd → World → Prop) (L : List Nd) (p0 : Nat → Prop) (hp0 : ∀ x, isNode w0 x → p0 x) (hJ : Con B J) (f : Q4 → Bool) (hf : ∀ q, f q = true)
    (hY : ∀ p pre x W1, (∀ b, p0 b → p b) → (∀ b, p b → b < W1.heap.size) → J p pre W1 → B ≤ W1.heap.size → pre ++ [x] <+: L → YieldAt Fence.wide 0 Try.prog l (nEnc x) W1 (RoundEnds B J Jx p (pre ++ [x]) W1)) (t : At) :
    TrAt w0 t → ∀ (n : Nat) (p : Nat → Prop) (pre : List Nd) (W : World), (∀ b, p0 b → p b) → (∀ b, p b → b < W.heap.size) → Kp p0 w0 W → B ≤ W.heap.size → J p pre W → pre ++ t.tellN f <+: L →
    CallsIn Fence.wide n Try.prog 50 #[t.ptr, .func (.func 45) #[] #[], .func (.yield l) #[] #[]] W (TellEnds B J Jx L p (pre ++ t.tellN f) W) := by
  induction t using At.ind with
  | nil =>
    intro _ n p pre W hp hpb hk hB hj hpre
    show CallsIn Fence.wide n Try.prog 50 #[.pointer none, .func (.func 45) #[] #[], .func (.yield l) #[] #[]] W _
    have E : Hid (TellEnds B J Jx L p (pre ++ At.nil.tellN f) W (.returned (.bool true)) W) := .inl ⟨rfl, by rw [At.tellN, List.append_nil]; exact hj, Kp.refl _, Nat.le_refl _⟩
    clear hp hpb hk hB hj hpre
    refine callsIn_of_wp Try.func50 rfl trivial ?_ rfl
    simp only [Try.ntmps50, List.size_toArray, List.length_cons, List.length_nil, Nat.reduceAdd, Nat.reduceSub, Array.replicate_succ, Array.replicate_zero, List.push_toArray, List.append_toArray, List.nil_append, List.cons_append]
    gi_wp2
    go_ret
    exact E.out
  | nd b i q lt ht ih1 ih2 =>
    intro hT n p pre W hp hpb hk hB hj hpre
    obtain ⟨kn, hTl, hTh⟩ := hT
    have i1 := hid0 (ih1 hTl)
    have i2 := hid0 (ih2 hTh)
    have HK := hid0 hk
    have KN : Hid (∀ W, Kp p0 w0 W → Bk W b 80 (nodeL i q lt.ptr ht.ptr (PT.nd i q lt.er ht.er).ar (PT.nd i q lt.er ht.er).dep)) := fun W h => kn.same (h b (hp0 b ⟨_, kn⟩))
    clear kn hTl hTh ih1 ih2
    generalize hlp : lt.ptr = lp at *
    generalize hhp : ht.ptr = hpp at *
    clear hlp hhp
    generalize (((PT.nd i q lt.er ht.er).dep : Nat) : Int) = dd at *
    have k1 := KN.out W HK.out
    obtain ⟨a0, a1, a2, a3⟩ : W.cell? ⟨b, 7, none⟩ = some (.int .i32 (PT.nd i q lt.er ht.er).ar.1) ∧ W.cell? ⟨b, 8, none⟩ = some (.int .i32 (PT.nd i q lt.er ht.er).ar.2.1) ∧ W.cell? ⟨b, 9, none⟩ = some (.int .i32 (PT.nd i q lt.er ht.er).ar.2.2.1) ∧ W.cell? ⟨b, 10, none⟩ = some (.int .i32 (PT.nd i q lt.er ht.er).ar.2.2.2) := ⟨k1.at 7, k1.at 8, k1.at 9, k1.at 10⟩
    have TL : Hid ((At.nd b i q lt ht).tellN f = if f (PT.nd i q lt.er ht.er).ar then lt.tellN f ++ ((if f q then [(b, i, q)] else []) ++ ht.tellN f) else []) := rfl
    have WA := hid0 ((want45f (n - 1) f hf (PT.nd i q lt.er ht.er).ar W))
    dsimp only [bv, bx] at WA
    show CallsIn Fence.wide n Try.prog 50 #[.pointer (some ⟨b, 0, none⟩), .func (.func 45) #[] #[], .func (.yield l) #[] #[]] W _
    generalize (PT.nd i q lt.er ht.er).ar = R at *
    clear k1 hk
    refine callsIn_of_wp Try.func50 rfl trivial ?_ rfl
    simp only [Try.ntmps50, List.size_toArray, List.length_cons, List.length_nil, Nat.reduceAdd, Nat.reduceSub, Array.replicate_succ, Array.replicate_zero, List.push_toArray, List.append_toArray, List.nil_append, List.cons_append]
    gi_wp2_with fail
    refine ⟨fun h => (by cases h), WA.out.mono ?_⟩
    rintro e W1 ⟨rfl, g1⟩
    clear a0 a1 a2 a3 WA
    have kp1 : Hid (Kp p0 w0 W1) := HK.out.t (Kp.gr (fun b hb => hpb b (hp b hb)) g1)
    have hj1 := hJ.gr hj g1
    have hpb1 : ∀ b, p b → b < W1.heap.size := fun b hb => Nat.lt_of_lt_of_le (hpb b hb) g1.size
    have kpW : Hid (Kp p W W1) := Kp.gr hpb g1
    have hs1 := g1.size
    clear hj HK g1 hpb
    by_cases c : f R = true
    · have TT : Hid ((At.nd b i q lt ht).tellN f = lt.tellN f ++ ((if f q then [(b, i, q)] else []) ++ ht.tellN f)) := by unfold Hid; rw [TL.out, if_pos c]
      rw [TT.out] at hpre
      have EE : Hid (∀ e W', TellEnds B J Jx L p (pre ++ (lt.tellN f ++ ((if f q then [(b, i, q)] else []) ++ ht.tellN f))) W e W' → TellEnds B J Jx L p (pre ++ (At.nd b i q lt ht).tellN f) W e W') := fun e W' h => by rw [TT.out]; exact h
      clear TL TT
      have CR : (f R) = true := c
      have k1 := KN.out W1 kp1.out
      have z5 := k1.at 5
      simp only [List.getElem?_cons_zero, List.getElem?_cons_succ] at z5
      clear k1
      have C1 := hid0 (i1.out (n - 1) p pre W1 hp hpb1 kp1.out (by omega) hj1 (List.IsPrefix.trans (by rw [← List.append_assoc]; exact List.prefix_append _ _) hpre))
      gi_wp2_with fail
      refine ⟨fun h => (by cases h), C1.out.mono ?_⟩
      clear C1 i1 z5
      rintro e W2 (⟨rfl, j2, k2, s2⟩ | ⟨rfl, u, hu, hx⟩)
      · have kp2 : Hid (Kp p0 w0 W2) := kp1.out.t (k2.sub hp)
        have kpW2 : Hid (Kp p W W2) := kpW.out.t k2
        have hpb2 : ∀ b, p b → b < W2.heap.size := fun b hb => Nat.lt_of_lt_of_le (hpb1 b hb) s2
        have k1 := KN.out W2 kp2.out
        obtain ⟨a0, a1, a2, a3⟩ : W2.cell? ⟨b, 1, none⟩ = some (.int .i32 q.1) ∧ W2.cell? ⟨b, 2, none⟩ = some (.int .i32 q.2.1) ∧ W2.cell? ⟨b, 3, none⟩ = some (.int .i32 q.2.2.1) ∧ W2.cell? ⟨b, 4, none⟩ = some (.int .i32 q.2.2.2) := ⟨k1.at 1, k1.at 2, k1.at 3, k1.at 4⟩
        have WQ := hid0 (want45f (n - 1) f hf q W2)
        dsimp only [bv, bx] at WQ
        clear k1 hj1 kp1 kpW hpb1 k2
        gi_wp2_with fail
        refine ⟨fun h => (by cases h), WQ.out.mono ?_⟩
        clear WQ a0 a1 a2 a3
        rintro e W3 ⟨rfl, g3⟩
        have j3 := hJ.gr j2 g3
        have hpb3 : ∀ b, p b → b < W3.heap.size := fun b hb => Nat.lt_of_lt_of_le (hpb2 b hb) g3.size
        have kp3 : Hid (Kp p0 w0 W3) := kp2.out.t (Kp.gr (fun b hb => hpb2 b (hp b hb)) g3)
        have kpW3 : Hid (Kp p W W3) := kpW2.out.t (Kp.gr hpb2 g3)
        have s3 : W.heap.size ≤ W3.heap.size := by have := g3.size; omega
        clear j2 hpb2 kp2 kpW2 g3 s2 hs1
        by_cases cq : f q = true
        · have CQ : (f q) = true := cq
          rw [if_pos cq] at hpre EE
          have hy := hY p (pre ++ lt.tellN f) (b, i, q) W3 hp hpb3 j3 (by omega) (List.IsPrefix.trans (by simp) hpre)
          obtain ⟨fn, tmps, assign, body, hy, hRd⟩ := yield_depth (n - 1) hy
          dsimp only [nEnc] at hy
          gi_wp2
          refine ⟨fun h => (by cases h), hRd.mono ?_⟩
          clear hy hRd
          rintro e W4 (⟨rfl, j4, k4, f4⟩ | ⟨rfl, hx, f4⟩)
          · have kp4 : Hid (Kp p0 w0 W4) := kp3.out.t (k4.sub hp)
            have kpW4 : Hid (Kp p W W4) := kpW3.out.t k4
            have hpb4 : ∀ b, p b → b < W4.heap.size := fun b hb => Nat.lt_of_lt_of_le (hpb3 b hb) f4.size
            have z6 := (KN.out W4 kp4.out).at 6
            simp only [List.getElem?_cons_zero, List.getElem?_cons_succ] at z6
            have s4 : W.heap.size ≤ W4.heap.size := by have := f4.size; omega
            have C2 := hid0 (i2.out (n - 1) p (pre ++ lt.tellN f ++ [(b, i, q)]) W4 hp hpb4 kp4.out (by omega) j4 (by simpa using hpre))
            clear hpb3 kp3 kpW3 j3 k4 f4 j4 kp4 i2
            gi_wp2_with fail
            refine ⟨fun h => (by cases h), C2.out.mono ?_⟩
            clear C2 z6
            rintro e W5 (⟨rfl, j5, k5, s5⟩ | ⟨rfl, u, hu, hx⟩)
            · have FIN := hid0 (EE.out _ _ (.inl ⟨rfl, by simpa using j5, kpW4.out.t k5, Nat.le_trans s4 s5⟩))
              gi_wp2
              go_ret
              exact FIN.out
            · have FIN := hid0 (EE.out _ _ (.inr ⟨rfl, u, hu, hx⟩))
              gi_wp2
              go_ret
              exact FIN.out
          · have FIN := hid0 (EE.out _ _ (.inr ⟨rfl, _, List.IsPrefix.trans (by simp) hpre, hx⟩))
            gi_wp2
            go_ret
            exact FIN.out
        · exact absurd (hf q) cq
      · have FIN := hid0 (EE.out _ _ (.inr ⟨rfl, u, hu, hx⟩))
        clear hY i2 KN kp1 kpW hj1 hpre EE
        gi_wp2_with fail
        all_goals first
          | (exfalso; have hub := ‹some undef = some (Value.bool _)›; simp [undef] at hub; done)
          | (go_ret; exact FIN.out)
    · exact absurd (hf R) c
end Go.Proofs.Ytpikhdfndnpidaa
