/- The iterators of a Tree: Range and All, as they are gone over. -/
import Derived.Test.YtpikhdfndnpidaaTk
set_option linter.unusedSimpArgs false
set_option linter.unusedVariables false
namespace Go.Proofs.Ytpikhdfndnpidaa
open Go.RowKit Go.Sort Go.Shelf
attribute [local go_sem] Oper.semAt_some wide_fn
attribute [local simp] wide_fn

/-- What holds between two rounds of a walk that hands on to another. -/
def RgI (J : (Nat → Prop) → List Nd → World → Prop) (by_ ty l : Nat) (ps p0 : Nat → Prop) (w W : World) (p : Nat → Prop) (pre : List Nd) (A : World) : Prop :=
  ∃ q, (∀ c, p c → q c) ∧ J q pre A ∧ q by_ ∧ (∀ c, ps c → q c) ∧ Bk A by_ ty [.func (.yield l) #[] #[]] ∧ W.heap.size ≤ A.heap.size ∧ Kp p0 w A
def RgX (Jx : List Nd → World → Prop) (L : List Nd) (c : Code) (pre : List Nd) (A : World) : Prop := c = .ret ∧ ∃ u, u <+: L ∧ Jx u A
theorem rgi_con {J : (Nat → Prop) → List Nd → World → Prop} {b ty l : Nat} {ps p0 : Nat → Prop} {w W : World} {B : Nat} (hJ : Con W.heap.size J) (hB : W.heap.size ≤ B) (hb : b < B) (hw : w.heap.size ≤ W.heap.size) (hp0 : ∀ c, p0 c → c < w.heap.size) : Con B (RgI J b ty l ps p0 w W) := by
  refine ⟨?_, ?_, ?_⟩
  · rintro p s A A' row ⟨q, h0, h1, h2, h3, h4, h5, h6⟩ hg hr
    refine ⟨q, h0, (hJ.mono hB).own q _ A A' row h1 hg hr, h2, h3, h4.same (hg.block b h4.lt (fun e => by have := (hr b e.symm).1; omega)), Nat.le_trans h5 hg.size, fun c hc => ?_⟩
    have := hp0 c hc
    exact (hg.block c (by omega) (fun e => by have := (hr c e.symm).1; omega)).trans (h6 c hc)
  · rintro p s A c ⟨q, h0, h1, h2, h3, h4, h5, h6⟩ hc
    exact ⟨fun k => q k ∨ k = c, fun k hk => hk.imp (h0 k) id, hJ.new _ _ _ _ h1 hc, .inl h2, fun c hc => .inl (h3 c hc), h4, h5, h6⟩
  · rintro p q s A ⟨q', h0, h⟩ hp
    exact ⟨q', fun c hc => h0 c (hp c hc), h⟩
theorem rgx_con {Jx : List Nd → World → Prop} {L : List Nd} {B B' : Nat} (hJ : OwnFrom B Jx) (hB : B ≤ B') (c : Code) : OwnFrom B' (RgX Jx L c) := by
  rintro s A A' row ⟨h1, u, h2, h3⟩ hg hr
  exact ⟨h1, u, h2, (ownFrom_mono hJ hB) u A A' row h3 hg hr⟩
set_option maxRecDepth 100000 in
set_option maxHeartbeats 4000000 in
theorem range1_in (n bt bc l : Nat) (hn : 8 ≤ n) (v : Value) (bq : Q4) (L : List Nd) (J : (Nat → Prop) → List Nd → World → Prop) (Jx : List Nd → World → Prop) (ps : Nat → Prop) (w W : World) (gW : Gr w W)
    (hT : Told w (fun q => meetQ q bq) v L) (hbt : Bk w bt 23 [v]) (hbc : Bk w bc 36 [.int .i32 bq.1, .int .i32 bq.2.1, .int .i32 bq.2.2.1, .int .i32 bq.2.2.2])
    (hp : ∀ b, Stay w bc b → ps b) (hps : ∀ b, ps b → b < W.heap.size) (hJ : Con W.heap.size J) (hJx : OwnFrom W.heap.size Jx)
    (hY : ∀ p pre x W1, (∀ b, Stay w bc b → p b) → (∀ b, p b → b < W1.heap.size) → J p pre W1 → W.heap.size ≤ W1.heap.size → pre ++ [x] <+: L → YieldAt Fence.wide 0 Try.prog l (iEnc x) W1 (RoundEnds W.heap.size J Jx p (pre ++ [x]) W1)) (h0 : J ps [] W) :
    CallsIn Fence.wide n Try.prog 37 #[.func (.yield l) #[] #[], .pointer (some ⟨bt, 0, none⟩), .pointer (some ⟨bc, 0, none⟩)] W fun e W' => (∃ v, e = .returned v) ∧ ((∃ q, J q L W' ∧ ∀ b, ps b → q b) ∨ (∃ pre, pre <+: L ∧ Jx pre W')) := by
  obtain ⟨o, ho⟩ := hT.ptr
  subst ho
  have hpw : ∀ b, Stay w bc b → b < w.heap.size := (fun b hb => by rcases hb with hb | rfl; exact hb.lt; exact hbc.lt)
  have g1 := (Gr.refl W).alloc (.cells #[.func (.yield l) #[] #[]] 81)
  have bY := Bk.new W 81 [.func (.yield l) #[] #[]]
  have bt1 := (hbt.gr gW).gr g1
  have c0 := bt1.one
  have WK := hid0 (walk_any (.pointer o) o rfl 39 #[.pointer (some ⟨bc, 0, none⟩)])
  have SQ : Hid (∀ n A b1 b2, Gr w A → Bk A b1 23 [.pointer o] → Bk A b2 72 [.func (.func 39) #[] #[.pointer (some ⟨bc, 0, none⟩)]] → SeqO n 49 #[.pointer (some ⟨b1, 0, none⟩), .pointer (some ⟨b2, 0, none⟩)] nEnc L (Stay w bc) A) := fun n A b1 b2 gA k1 k2 => walk1_seq n b1 b2 (.pointer o) 39 #[.pointer (some ⟨bc, 0, none⟩)] (fun q => meetQ q bq) L (Stay w bc) w A gA hT k1 k2 (fun t ht => tell_ok39 w bc bq hbc t ht) hpw
  have TM := hid0 (fun x hx => hT.mem (x := x) hx)
  clear hT hbt
  refine callsIn_of_wp_marks Try.func37 rfl trivial ?_ rfl
  simp only [Try.ntmps37, List.size_toArray, List.length_cons, List.length_nil, Nat.reduceAdd, Nat.reduceSub, Array.replicate_succ, Array.replicate_zero, List.push_toArray, List.append_toArray, List.nil_append, List.cons_append]
  have h1n : 1 ≤ n := by omega
  gi_wp2_with fail
  refine (callsIn_wide.2 (WK.out _)).mono ?_
  rintro e W0' ⟨rfl, rfl⟩
  clear WK c0 bt1
  have g2 := (g1.alloc (.cells #[.pointer o] 23)).alloc (.cells #[.func (.func 39) #[] #[.pointer (some ⟨bc, 0, none⟩)]] 72)
  have m1 := (Bk.new (W.alloc (.cells #[.func (.yield l) #[] #[]] 81)) 23 [.pointer o]).alloc (.cells #[.func (.func 39) #[] #[.pointer (some ⟨bc, 0, none⟩)]] 72)
  have m2 := Bk.new ((W.alloc (.cells #[.func (.yield l) #[] #[]] 81)).alloc (.cells #[.pointer o] 23)) 72 [.func (.func 39) #[] #[.pointer (some ⟨bc, 0, none⟩)]]
  have b4 := (bY.alloc (.cells #[.pointer o] 23)).alloc (.cells #[.func (.func 39) #[] #[.pointer (some ⟨bc, 0, none⟩)]] 72)
  simp only [World.size_alloc] at m1 m2
  rw [World.size_alloc]
  clear bY g1
  generalize ((W.alloc (.cells #[.func (.yield l) #[] #[]] 81)).alloc (.cells #[.pointer o] 23)).alloc (.cells #[.func (.func 39) #[] #[.pointer (some ⟨bc, 0, none⟩)]] 72) = W0 at *
  have hww : w.heap.size ≤ W.heap.size := gW.size
  have hlt : W.heap.size < W0.heap.size := b4.lt
  have kp0 : Kp (Stay w bc) w W0 := Kp.gr hpw (gW.trans g2)
  have SQ0 := SQ.out (n - 1) W0 _ _ (gW.trans g2) m1 m2
  clear m1 m2 SQ
  have e49 : ∀ args w, (callFunc 49 args).run Try.prog w = .ok (.enter 49 args) w := enters_of Try.func49 (by kernel_rfl) rfl
  gi_wp2_with fail
  refine range_out (p0 := Stay w bc) (L := L) (encs := nEnc) (I := RgI J W.heap.size 81 l ps (Stay w bc) w W) (Ix := RgX Jx L)
    (Ax := fun x a' A => a' = { tmps := #[.func (.yield l) #[] #[], .pointer (some ⟨bt, 0, none⟩), .pointer (some ⟨bc, 0, none⟩), .pointer (some ⟨W.heap.size, 0, none⟩), .pointer (some ⟨x.1, 0, none⟩), .pointer o, .func (.func 39) #[] #[.pointer (some ⟨bc, 0, none⟩)], .func (.func 49) #[] #[.pointer (some ⟨W.heap.size + 1, 0, none⟩), .pointer (some ⟨W.heap.size + 2, 0, none⟩)], .pointer (some ⟨x.1, 0, none⟩), undef, undef, undef, undef, undef, undef, undef, undef], defers := [] })
    rfl e49 SQ0 ?owes (fun b => ps b ∨ b = W.heap.size) ?p0 ?pw ?start ?done ?stop
  case p0 => exact fun b h => .inl (hp b h)
  case pw =>
    rintro b (h | h)
    · have := hps b h; omega
    · omega
  case start =>
    exact ⟨fun b => ps b ∨ b = W.heap.size, fun c h => h, hJ.gr (hJ.new _ _ _ _ h0 (Nat.le_refl _)) g2, .inr rfl, fun c hc => .inl hc, b4, g2.size, kp0⟩
  case done =>
    rintro D q' A hD ⟨q2, h1, h2, h3, h4, h5, h6, h7⟩ hq hK
    gi_wp2
    refine ⟨by simp, .inl ⟨_, _, rfl, run_takeDeferred hK, ?_⟩⟩
    exact ⟨_, results_none rfl _ _ _, ⟨_, rfl⟩, .inl ⟨q2, (hJ.ownFrom q2).putObj _ h2 (by omega) hK rfl, h4⟩⟩
  case stop =>
    rintro D c pre A hD hpre ⟨rfl, u, hu, hx⟩ hK
    gi_wp2
    refine ⟨by simp, .inl ⟨_, _, rfl, run_takeDeferred hK, ?_⟩⟩
    exact ⟨_, results_none rfl _ _ _, ⟨_, rfl⟩, .inr ⟨u, hu, hJx.putObj _ hx (by omega) hK rfl⟩⟩
  case owes =>
    have hcO : Con W0.heap.size (RgI J W.heap.size 81 l ps (Stay w bc) w W) := rgi_con hJ g2.size hlt hww hpw
    refine ⟨hcO, rgx_con hJx g2.size, ?_, fun _ => rfl, ?_, ?_⟩
    · rintro x a' _ X Y row hx hg hr
      exact hx
    · rintro lr p' pre x A K hp' hpb hI hsA hK
      gi_wp2
      exact hK _ _ (KeepsFrom.refl _ _) (Kp.refl _) hI rfl
    · rintro lr p' pre x a' Wb hl ⟨rr, hr⟩ hp' hpb ⟨qq, j0, j1, j2, j3, j4, j5, j6⟩ rfl hpre
      obtain ⟨lp, hpv, ra, da, k⟩ := TM.out x (mem_pre hpre)
      replace k := k.same (j6 x.1 (.inl ⟨_, k⟩))
      have y0 := j4.one
      have z0 := k.at 0
      simp only [List.getElem?_cons_zero, List.getElem?_cons_succ] at z0
      have hy := fun V (gV : Gr Wb V) => hY (fun b => qq b ∧ b < Wb.heap.size) pre x V (fun b hb => ⟨j3 b (hp b hb), by have := hps b (hp b hb); omega⟩) (fun b hb => Nat.lt_of_lt_of_le hb.2 gV.size) (hJ.gr (hJ.sub _ _ _ _ j1 (fun b hb => hb.1)) gV) (Nat.le_trans j5 gV.size) hpre
      clear k
      have yy : ∀ k, (Wb.drewN k).cell? ⟨W.heap.size, 0, none⟩ = some (.func (.yield l) #[] #[]) := fun k => below_cell y0 ((Gr.refl Wb).drewN k).below
      have zz0 := fun k => below_cell z0 ((Gr.refl Wb).drewN k).below
      clear y0 z0
      have h3n : 1 ≤ n - 1 - 1 := by omega
      gi_wp2_with fail
      refine region_head_lit 6 (by kernel_rfl) (by kernel_rfl) (by simp) (by kernel_rfl) ?_
      simp only [List.take_succ_cons, List.take_zero, List.drop_succ_cons, List.drop_zero]
      repeat (gi_big_quiet_step (fail))
      refine wpQuietIn_nil ?_
      intro _ hw'
      obtain ⟨kk, rfl⟩ := hw'
      have gk : Gr Wb (Wb.drewN kk) := (Gr.refl Wb).drewN kk
      have hyk := hy _ gk
      clear hy yy zz0
      have hsz : (Wb.drewN kk).heap.size = Wb.heap.size := rfl
      have hkp : ∀ A', Kp (fun b => qq b ∧ b < Wb.heap.size) (Wb.drewN kk) A' → Kp (fun b => qq b ∧ b < Wb.heap.size) Wb A' := fun A' h => (Kp.gr (fun b hb => hb.2) gk).t h
      have hkf : ∀ A', KeepsFrom W.heap.size (Wb.drewN kk) A' → KeepsFrom W.heap.size Wb A' := fun A' h => (gk.from _).trans h
      generalize Wb.drewN kk = Wc at *
      obtain ⟨fn, tmps, assign, body, hyk, hRd⟩ := yield_round (l0 := lr) (yield_depth (n - 1 - 1 - 1) hyk)
      dsimp only [iEnc] at hyk
      gi_wp2
      refine hRd.mono ?_
      rintro e A' (⟨rfl, hJ', hk', hf'⟩ | ⟨rfl, hJx', hf'⟩)
      · replace hk' := hkp _ hk'
        replace hf' := hkf _ hf'
        gi_wp2
        refine ⟨keepsFrom_mono hf' g2.size, fun b hb => hk' b ⟨j0 b hb, hpb b hb⟩, fun b => qq b ∧ b < Wb.heap.size, fun b hb => ⟨j0 b hb, hpb b hb⟩, hJ', ⟨j2, j4.lt⟩, fun b hb => ⟨j3 b hb, by have := hps b hb; omega⟩, j4.same (hk' _ ⟨j2, j4.lt⟩), Nat.le_trans j5 hf'.size, j6.t (fun b hb => hk' b ⟨j3 b (hp b hb), by have := hpw b hb; omega⟩)⟩
      · replace hf' := hkf _ hf'
        gi_wp2
        exact ⟨keepsFrom_mono hf' g2.size, rfl, _, hpre, hJx'⟩
theorem range1_seq (n bt bc : Nat) (hn : 8 ≤ n) (v : Value) (bq : Q4) (L : List Nd) (w : World) (hT : Told w (fun q => meetQ q bq) v L) (hbt : Bk w bt 23 [v]) (hbc : Bk w bc 36 [.int .i32 bq.1, .int .i32 bq.2.1, .int .i32 bq.2.2.1, .int .i32 bq.2.2.2]) : SeqO n 37 #[.pointer (some ⟨bt, 0, none⟩), .pointer (some ⟨bc, 0, none⟩)] iEnc L (Stay w bc) w :=
  fun l J Jx p W gW hp hpb hJ hJx hY h0 => range1_in n bt bc l hn v bq L J Jx p w W gW hT hbt hbc hp hpb hJ hJx hY h0
set_option maxRecDepth 100000 in
set_option maxHeartbeats 4000000 in
theorem all1_in (n bt l : Nat) (hn : 8 ≤ n) (v : Value) (L : List Nd) (J : (Nat → Prop) → List Nd → World → Prop) (Jx : List Nd → World → Prop) (ps : Nat → Prop) (w W : World) (gW : Gr w W)
    (hT : Told w (fun _ => true) v L) (hbt : Bk w bt 23 [v])
    (hp : ∀ b, isNode w b → ps b) (hps : ∀ b, ps b → b < W.heap.size) (hJ : Con W.heap.size J) (hJx : OwnFrom W.heap.size Jx)
    (hY : ∀ p pre x W1, (∀ b, isNode w b → p b) → (∀ b, p b → b < W1.heap.size) → J p pre W1 → W.heap.size ≤ W1.heap.size → pre ++ [x] <+: L → YieldAt Fence.wide 0 Try.prog l (aEnc x) W1 (RoundEnds W.heap.size J Jx p (pre ++ [x]) W1)) (h0 : J ps [] W) :
    CallsIn Fence.wide n Try.prog 44 #[.func (.yield l) #[] #[], .pointer (some ⟨bt, 0, none⟩)] W fun e W' => (∃ v, e = .returned v) ∧ ((∃ q, J q L W' ∧ ∀ b, ps b → q b) ∨ (∃ pre, pre <+: L ∧ Jx pre W')) := by
  obtain ⟨o, ho⟩ := hT.ptr
  subst ho
  have hpw : ∀ b, isNode w b → b < w.heap.size := (fun b hb => hb.lt)
  have g1 := (Gr.refl W).alloc (.cells #[.func (.yield l) #[] #[]] 89)
  have bY := Bk.new W 89 [.func (.yield l) #[] #[]]
  have bt1 := (hbt.gr gW).gr g1
  have c0 := bt1.one
  have WK := hid0 (walk_any (.pointer o) o rfl 45 #[])
  have SQ : Hid (∀ n A b1 b2, Gr w A → Bk A b1 23 [.pointer o] → Bk A b2 72 [.func (.func 45) #[] #[]] → SeqO n 49 #[.pointer (some ⟨b1, 0, none⟩), .pointer (some ⟨b2, 0, none⟩)] nEnc L (isNode w) A) := fun n A b1 b2 gA k1 k2 => walk1_seq n b1 b2 (.pointer o) 45 #[] (fun _ => true) L (isNode w) w A gA hT k1 k2 (fun t ht => tell_ok45 w t ht) hpw
  have TM := hid0 (fun x hx => hT.mem (x := x) hx)
  clear hT hbt
  refine callsIn_of_wp_marks Try.func44 rfl trivial ?_ rfl
  simp only [Try.ntmps44, List.size_toArray, List.length_cons, List.length_nil, Nat.reduceAdd, Nat.reduceSub, Array.replicate_succ, Array.replicate_zero, List.push_toArray, List.append_toArray, List.nil_append, List.cons_append]
  have h1n : 1 ≤ n := by omega
  gi_wp2_with fail
  refine (callsIn_wide.2 (WK.out _)).mono ?_
  rintro e W0' ⟨rfl, rfl⟩
  clear WK c0 bt1
  have g2 := (g1.alloc (.cells #[.pointer o] 23)).alloc (.cells #[.func (.func 45) #[] #[]] 72)
  have m1 := (Bk.new (W.alloc (.cells #[.func (.yield l) #[] #[]] 89)) 23 [.pointer o]).alloc (.cells #[.func (.func 45) #[] #[]] 72)
  have m2 := Bk.new ((W.alloc (.cells #[.func (.yield l) #[] #[]] 89)).alloc (.cells #[.pointer o] 23)) 72 [.func (.func 45) #[] #[]]
  have b4 := (bY.alloc (.cells #[.pointer o] 23)).alloc (.cells #[.func (.func 45) #[] #[]] 72)
  simp only [World.size_alloc] at m1 m2
  rw [World.size_alloc]
  clear bY g1
  generalize ((W.alloc (.cells #[.func (.yield l) #[] #[]] 89)).alloc (.cells #[.pointer o] 23)).alloc (.cells #[.func (.func 45) #[] #[]] 72) = W0 at *
  have hww : w.heap.size ≤ W.heap.size := gW.size
  have hlt : W.heap.size < W0.heap.size := b4.lt
  have kp0 : Kp (isNode w) w W0 := Kp.gr hpw (gW.trans g2)
  have SQ0 := SQ.out (n - 1) W0 _ _ (gW.trans g2) m1 m2
  clear m1 m2 SQ
  have e49 : ∀ args w, (callFunc 49 args).run Try.prog w = .ok (.enter 49 args) w := enters_of Try.func49 (by kernel_rfl) rfl
  gi_wp2_with fail
  refine range_out (p0 := isNode w) (L := L) (encs := nEnc) (I := RgI J W.heap.size 89 l ps (isNode w) w W) (Ix := RgX Jx L)
    (Ax := fun x a' A => a' = { tmps := #[.func (.yield l) #[] #[], .pointer (some ⟨bt, 0, none⟩), .pointer (some ⟨W.heap.size, 0, none⟩), .pointer (some ⟨x.1, 0, none⟩), .pointer o, .func (.func 49) #[] #[.pointer (some ⟨W.heap.size + 1, 0, none⟩), .pointer (some ⟨W.heap.size + 2, 0, none⟩)], .pointer (some ⟨x.1, 0, none⟩), undef, undef, undef, undef, undef, undef, undef, undef, undef, undef, undef, undef, undef], defers := [] })
    rfl e49 SQ0 ?owes (fun b => ps b ∨ b = W.heap.size) ?p0 ?pw ?start ?done ?stop
  case p0 => exact fun b h => .inl (hp b h)
  case pw =>
    rintro b (h | h)
    · have := hps b h; omega
    · omega
  case start =>
    exact ⟨fun b => ps b ∨ b = W.heap.size, fun c h => h, hJ.gr (hJ.new _ _ _ _ h0 (Nat.le_refl _)) g2, .inr rfl, fun c hc => .inl hc, b4, g2.size, kp0⟩
  case done =>
    rintro D q' A hD ⟨q2, h1, h2, h3, h4, h5, h6, h7⟩ hq hK
    gi_wp2
    refine ⟨by simp, .inl ⟨_, _, rfl, run_takeDeferred hK, ?_⟩⟩
    exact ⟨_, results_none rfl _ _ _, ⟨_, rfl⟩, .inl ⟨q2, (hJ.ownFrom q2).putObj _ h2 (by omega) hK rfl, h4⟩⟩
  case stop =>
    rintro D c pre A hD hpre ⟨rfl, u, hu, hx⟩ hK
    gi_wp2
    refine ⟨by simp, .inl ⟨_, _, rfl, run_takeDeferred hK, ?_⟩⟩
    exact ⟨_, results_none rfl _ _ _, ⟨_, rfl⟩, .inr ⟨u, hu, hJx.putObj _ hx (by omega) hK rfl⟩⟩
  case owes =>
    have hcO : Con W0.heap.size (RgI J W.heap.size 89 l ps (isNode w) w W) := rgi_con hJ g2.size hlt hww hpw
    refine ⟨hcO, rgx_con hJx g2.size, ?_, fun _ => rfl, ?_, ?_⟩
    · rintro x a' _ X Y row hx hg hr
      exact hx
    · rintro lr p' pre x A K hp' hpb hI hsA hK
      gi_wp2
      exact hK _ _ (KeepsFrom.refl _ _) (Kp.refl _) hI rfl
    · rintro lr p' pre x a' Wb hl ⟨rr, hr⟩ hp' hpb ⟨qq, j0, j1, j2, j3, j4, j5, j6⟩ rfl hpre
      obtain ⟨lp, hpv, ra, da, k⟩ := TM.out x (mem_pre hpre)
      replace k := k.same (j6 x.1 ⟨_, k⟩)
      have y0 := j4.one
      have z0 := k.at 0
      have z1 := k.at 1
      have z2 := k.at 2
      have z3 := k.at 3
      have z4 := k.at 4
      simp only [List.getElem?_cons_zero, List.getElem?_cons_succ] at z0 z1 z2 z3 z4
      have hy := fun V (gV : Gr Wb V) => hY (fun b => qq b ∧ b < Wb.heap.size) pre x V (fun b hb => ⟨j3 b (hp b hb), by have := hps b (hp b hb); omega⟩) (fun b hb => Nat.lt_of_lt_of_le hb.2 gV.size) (hJ.gr (hJ.sub _ _ _ _ j1 (fun b hb => hb.1)) gV) (Nat.le_trans j5 gV.size) hpre
      clear k
      have yy : ∀ k, (Wb.drewN k).cell? ⟨W.heap.size, 0, none⟩ = some (.func (.yield l) #[] #[]) := fun k => below_cell y0 ((Gr.refl Wb).drewN k).below
      have zz0 := fun k => below_cell z0 ((Gr.refl Wb).drewN k).below
      have zz1 := fun k => below_cell z1 ((Gr.refl Wb).drewN k).below
      have zz2 := fun k => below_cell z2 ((Gr.refl Wb).drewN k).below
      have zz3 := fun k => below_cell z3 ((Gr.refl Wb).drewN k).below
      have zz4 := fun k => below_cell z4 ((Gr.refl Wb).drewN k).below
      clear y0 z0 z1 z2 z3 z4
      have h3n : 1 ≤ n - 1 - 1 := by omega
      gi_wp2_with fail
      refine region_head_lit 11 (by kernel_rfl) (by kernel_rfl) (by simp) (by kernel_rfl) ?_
      simp only [List.take_succ_cons, List.take_zero, List.drop_succ_cons, List.drop_zero]
      repeat (gi_big_quiet_step (fail))
      refine wpQuietIn_nil ?_
      intro _ hw'
      obtain ⟨kk, rfl⟩ := hw'
      have gk : Gr Wb (Wb.drewN kk) := (Gr.refl Wb).drewN kk
      have hyk := hy _ gk
      clear hy yy zz0 zz1 zz2 zz3 zz4
      have hsz : (Wb.drewN kk).heap.size = Wb.heap.size := rfl
      have hkp : ∀ A', Kp (fun b => qq b ∧ b < Wb.heap.size) (Wb.drewN kk) A' → Kp (fun b => qq b ∧ b < Wb.heap.size) Wb A' := fun A' h => (Kp.gr (fun b hb => hb.2) gk).t h
      have hkf : ∀ A', KeepsFrom W.heap.size (Wb.drewN kk) A' → KeepsFrom W.heap.size Wb A' := fun A' h => (gk.from _).trans h
      generalize Wb.drewN kk = Wc at *
      obtain ⟨fn, tmps, assign, body, hyk, hRd⟩ := yield_round (l0 := lr) (yield_depth (n - 1 - 1 - 1) hyk)
      dsimp only [aEnc] at hyk
      gi_wp2
      refine hRd.mono ?_
      rintro e A' (⟨rfl, hJ', hk', hf'⟩ | ⟨rfl, hJx', hf'⟩)
      · replace hk' := hkp _ hk'
        replace hf' := hkf _ hf'
        gi_wp2
        refine ⟨keepsFrom_mono hf' g2.size, fun b hb => hk' b ⟨j0 b hb, hpb b hb⟩, fun b => qq b ∧ b < Wb.heap.size, fun b hb => ⟨j0 b hb, hpb b hb⟩, hJ', ⟨j2, j4.lt⟩, fun b hb => ⟨j3 b hb, by have := hps b hb; omega⟩, j4.same (hk' _ ⟨j2, j4.lt⟩), Nat.le_trans j5 hf'.size, j6.t (fun b hb => hk' b ⟨j3 b (hp b hb), by have := hpw b hb; omega⟩)⟩
      · replace hf' := hkf _ hf'
        gi_wp2
        exact ⟨keepsFrom_mono hf' g2.size, rfl, _, hpre, hJx'⟩
theorem all1_seq (n bt : Nat) (hn : 8 ≤ n) (v : Value) (L : List Nd) (w : World) (hT : Told w (fun _ => true) v L) (hbt : Bk w bt 23 [v]) : SeqO n 44 #[.pointer (some ⟨bt, 0, none⟩)] aEnc L (isNode w) w :=
  fun l J Jx p W gW hp hpb hJ hJx hY h0 => all1_in n bt l hn v L J Jx p w W gW hT hbt hp hpb hJ hJx hY h0
end Go.Proofs.Ytpikhdfndnpidaa
