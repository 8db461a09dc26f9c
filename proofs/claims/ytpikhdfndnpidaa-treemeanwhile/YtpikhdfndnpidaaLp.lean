/- TreePlays' walk. -/
import Derived.Test.YtpikhdfndnpidaaLt
import Derived.Test.YtpikhdfndnpidaaRn
import Derived.Test.YtpikhdfndnpidaaHx
import Derived.Deep.CutBlock
set_option linter.unusedSimpArgs false
set_option linter.unusedVariables false
namespace Go.Proofs.Ytpikhdfndnpidaa
open Go.RowKit Go.Sort Go.Shelf

/-- A call's arguments: kind, number, box, points, count. -/
abbrev St := Int × Int × Q4 × (Int × Int) × (Int × Int) × Int
abbrev St.l (x : St) : List Value := stL x.1 x.2.1 x.2.2.1.1 x.2.2.1.2.1 x.2.2.1.2.2.1 x.2.2.1.2.2.2 x.2.2.2.1.1 x.2.2.2.1.2 x.2.2.2.2.1.1 x.2.2.2.2.1.2 x.2.2.2.2.2
/-- Calls that a slice reads. -/
def Steps (w : World) (ao : Option Addr) (l : List St) : Prop := ∀ k x, l[k]? = some x → ∃ b off, ao = some ⟨b, off, none⟩ ∧ ∀ j u, (St.l x)[j]? = some u → w.cell? ⟨b, off + k * 11 + j, none⟩ = some u
theorem Steps.below {w w' : World} {ao : Option Addr} {l : List St} (h : Steps w ao l) (g : BW w w') : Steps w' ao l := fun k x hx => by
  obtain ⟨b, off, e, h0⟩ := h k x hx
  exact ⟨b, off, e, fun j u hu => below_cell (h0 j u hu) g⟩
theorem deep_ok {t : At} {d : Nat} (hb : PT.Bal t.er) (h : Halves t.er.toL.length d) : t.er.dep ≤ 2 * d := by
  have h1 := PT.bal_size t.er hb
  have h2 := h.1
  have h3 : 2 ^ ((t.er.dep + 1) / 2) ≤ 2 ^ d := by omega
  have h4 := (Nat.pow_le_pow_iff_right (by omega : 1 < 2)).1 h3
  omega
theorem halves_unique {n d e : Nat} (h : Halves n d) (k : Halves n e) : d = e := by
  rcases Nat.lt_trichotomy d e with c | c | c
  · have := k.2 d c; have := h.1; omega
  · exact c
  · have := h.2 e c; have := k.1; omega
theorem halves_some (n : Nat) : ∃ d, Halves n d := by
  induction n using Nat.strongRecOn with
  | _ n ih =>
    by_cases c : n = 0
    · exact ⟨0, by subst c; exact ⟨by simp, fun j h => by omega⟩⟩
    · obtain ⟨d, h1, h2⟩ := ih (n / 2) (by omega)
      refine ⟨d + 1, by rw [Nat.pow_succ]; omega, fun j hj => ?_⟩
      cases j with
      | zero => simp; omega
      | succ j => have := h2 j (by omega); rw [Nat.pow_succ]; omega
theorem ldeep_fix (n d : Nat) (w : World) (hn : n ≤ 1000000) (h : Halves n d) : Calls Try.prog 11 #[.int .i64 (n : Int)] w fun e w' => e = .returned (.int .i64 (d : Int)) ∧ d ≤ n ∧ w' = w := by
  refine (ldeep_any n w hn).mono ?_
  rintro e w' ⟨d', rfl, h1, h2, rfl⟩
  obtain rfl := halves_unique h h1
  exact ⟨rfl, h2, rfl⟩
theorem halves_le {n d : Nat} (h : Halves n d) : d ≤ n := by
  cases d with
  | zero => omega
  | succ d => have := h.2 d (by omega); have := Nat.lt_two_pow_self (n := d); omega
theorem pair_new (w : World) (ht : TreeIs (w.alloc (.cells #[.bool true, .pointer none, .int .i64 0] 64)) w.heap.size .nil) : Pair w.heap.size ((w.alloc (.cells #[.bool true, .pointer none, .int .i64 0] 64)).alloc (.cells #[.slice none 0 0, .slice none 0 0] 29)) w.heap.size (w.heap.size + 1) .nil := by
  have g := (Gr.refl (w.alloc (.cells #[.bool true, .pointer none, .int .i64 0] 64))).alloc (.cells #[.slice none 0 0, .slice none 0 0] 29)
  have k := Bk.new (w.alloc (.cells #[.bool true, .pointer none, .int .i64 0] 64)) 29 [.slice none 0 0, .slice none 0 0]
  rw [World.size_alloc] at k
  exact ⟨ht.gr g, ⟨by omega, _, _, k, World.ownsRow_nil _ _ _ _, World.ownsRow_nil _ _ _ _⟩, Nat.le_refl _, by simp; omega⟩
set_option maxRecDepth 100000 in
set_option maxHeartbeats 16000000 in
theorem plays_walk (l : List St) (al : Option Addr) (cl : Nat) (w : World) (hl : Steps w al l) :
    Calls Try.prog 3 #[.slice al l.length cl] w fun e w' => e = .returned (.bool true) ∧ Below w.heap.size w w' := by
  obtain ⟨N, hN⟩ : ∃ N, N = l.length := ⟨_, rfl⟩
  have HN := hid0 hN
  rw [← hN]
  clear hN
  have HL := hid0 hl
  have NW := hid0 new_any
  clear hl
  by_cases c1 : (4096 : Int) < (N : Int)
  · go_enter Try.func3, Try.ntmps3
    go_wp2
    go_ret
    exact ⟨rfl, Below.refl _ _⟩
  · go_enter Try.func3, Try.ntmps3
    go_wp2_with fail
    refine (NW.out _).mono ?_
    rintro e w1 ⟨rfl, hw1, ht⟩
    cases hw1
    have PR := hid0 (pair_new w ht)
    have DP := hid0 (depth_any _ _ _ (pair_new w ht).one)
    have BB : Hid (Below w.heap.size w ((w.alloc (.cells #[.bool true, .pointer none, .int .i64 0] 64)).alloc (.cells #[.slice none 0 0, .slice none 0 0] 29))) := (((Gr.refl w).alloc _).alloc _).below
    rw [show At.nil.er.dep = 0 from rfl] at DP
    clear ht NW
    go_wp2_with fail
    refine DP.out.mono ?_
    rintro e w2 ⟨rfl, hw2⟩
    cases hw2
    clear DP
    generalize (w.alloc (.cells #[.bool true, .pointer none, .int .i64 0] 64)).alloc (.cells #[.slice none 0 0, .slice none 0 0] 29) = W0 at *
    have HC : Hid (N ≤ 4096) := by unfold Hid; omega
    obtain ⟨R, hR⟩ : ∃ R, R = w.heap.size + 1 := ⟨_, rfl⟩
    rw [← hR] at PR ⊢
    clear hR
    obtain ⟨T, hT⟩ : ∃ T, T = w.heap.size := ⟨_, rfl⟩
    obtain ⟨BS, hBS⟩ : ∃ BS, BS = w.heap.size := ⟨_, rfl⟩
    have PR2 : Hid (Pair BS W0 T R .nil) := by rw [hT, hBS]; exact PR.out
    rw [← hT]
    have BB2 : Hid (Below BS w W0) := by rw [hBS]; exact BB.out
    have HBS := hid0 hBS
    clear PR BB hT hBS c1
    go_wp2_with fail
    go_loopg [5] N (fun gk i wr => ∃ (k : Nat) (t : At), i = .int .i64 (k : Int) ∧ k ≤ N ∧ gk = N - k ∧ Hid (Pair BS wr T R t) ∧ Hid (Below BS w wr))
    case atStart => exact ⟨0, .nil, rfl, Nat.zero_le _, rfl, PR2, BB2⟩
    case round =>
      obtain ⟨k, t, rfl, hk, rfl, PR, BB⟩ := hrel
      clear PR2 BB2
      by_cases ck : k < N
      · have ck' : (k : Int) < (N : Int) := by omega
        obtain ⟨x, hx⟩ : ∃ x, l[k]? = some x := ⟨l[k]'(by have := HN.out; omega), List.getElem?_eq_getElem _⟩
        have hbw : BW w wr := by have := BB.out; rw [HBS.out] at this; exact this
        obtain ⟨bl, ol, rfl, cc⟩ := (HL.out.below hbw) k x hx
        clear hx hbw
        obtain ⟨kd, id, ⟨a, b, c, d⟩, ⟨px, py⟩, ⟨qx, qy⟩, nn⟩ := x
        dsimp only [St.l] at cc
        have CC : ∀ (j : Nat) (u : Value), (stL kd id a b c d px py qx qy nn)[j]? = some u → ∀ n, (wr.drewN n).cell? ⟨bl, ol + k * 11 + j, none⟩ = some u := fun j u h n => below_cell (cc j u h) ((Gr.refl wr).drewN n).below
        have e0 : ∀ n, (wr.drewN n).cell? ⟨bl, ol + k * 11, none⟩ = some (.int .i64 kd) := CC 0 _ rfl
        have e1 := CC 1 _ rfl
        have e2 := CC 2 _ rfl
        have e3 := CC 3 _ rfl
        have e4 := CC 4 _ rfl
        have e5 := CC 5 _ rfl
        have e6 := CC 6 _ rfl
        have e7 := CC 7 _ rfl
        have e8 := CC 8 _ rfl
        have e9 := CC 9 _ rfl
        have e10 := CC 10 _ rfl
        clear cc CC
        have hw1 : wrap64 ((k : Int) + 1) = ((k + 1 : Nat) : Int) := by have := HC.out; unfold wrap64; omega
        have ST : Hid (∀ n, Calls Try.prog 9 #[.pointer (some ⟨T, 0, none⟩), .pointer (some ⟨R, 0, none⟩), stV kd id a b c d px py qx qy nn] (wr.drewN n) fun e w' => ∃ t' : At, e = .returned (.bool true) ∧ Pair BS w' T R t' ∧ Below BS w w') := fun n => by
          have g := (Gr.refl wr).drewN n
          refine (lstep_any BS T R t kd id a b c d px py qx qy nn (wr.drewN n) (PR.out.gr g)).mono ?_
          rintro e w' ⟨t', h1, h2, h3⟩
          exact ⟨t', h1, h2, (BB.out.trans (g.below.mono PR.out.sz)).trans h3⟩
        clear BB PR
        go_wp2_with fail
        refine region_split_lit 6 _ rfl (by kernel_rfl) (by kernel_rfl) ?_
        simp only [List.take_succ_cons, List.take_zero, List.drop_succ_cons, List.drop_zero]
        repeat (go_big_quiet_step (fail))
        refine wpQuiet_nil ?_
        intro _ hw'
        obtain ⟨n, rfl⟩ := hw'
        clear e0 e1 e2 e3 e4 e5 e6 e7 e8 e9 e10
        go_wp2_with fail
        refine (ST.out n).mono ?_
        rintro e v1 ⟨t', rfl, hp, hb⟩
        clear ST
        obtain ⟨ao, ca, r0, hr0⟩ := hp.ref.id
        clear hr0
        obtain ⟨dd, hdd⟩ := halves_some t'.er.toL.length
        have NB := hid0 hb
        have PP := hid0 hp
        have z0 := fun n => below_cell r0 ((Gr.refl v1).drewN n).below
        have LN : Hid (∀ n, Calls Try.prog 10 #[.pointer (some ⟨T, 0, none⟩)] (v1.drewN n) fun e w' => e = .returned (.int .i64 (t'.er.toL.length : Nat)) ∧ ∃ m, w' = v1.drewN m) := fun n => (len_any T t' _ (hp.one.gr ((Gr.refl v1).drewN n))).mono (fun e w' h => ⟨h.1, n, h.2⟩)
        have DE : Hid (∀ n, Calls Try.prog 8 #[.pointer (some ⟨T, 0, none⟩)] (v1.drewN n) fun e w' => e = .returned (.int .i64 (t'.er.dep : Nat)) ∧ ∃ m, w' = v1.drewN m) := fun n => (depth_any T t' _ (hp.one.gr ((Gr.refl v1).drewN n))).mono (fun e w' h => ⟨h.1, n, h.2⟩)
        have LD : Hid (∀ n, Calls Try.prog 11 #[.int .i64 ((t'.er.toL.length : Nat) : Int)] (v1.drewN n) fun e w' => e = .returned (.int .i64 (dd : Int)) ∧ ∃ m, w' = v1.drewN m) := fun n => (ldeep_fix _ dd _ hp.len hdd).mono (fun e w' h => ⟨h.1, n, h.2.2⟩)
        have hdo := deep_ok hp.one.bal hdd
        have hdl := halves_le hdd
        have hfl := hp.len
        have ZZ : t'.er.dep = 0 ↔ t'.er.toL.length = 0 := PT.dep_zero.trans List.length_eq_zero_iff.symm
        clear hp hb hdd r0
        generalize t'.er.toL.length = NL at *
        generalize t'.er.dep = DP at *
        obtain ⟨zB, hz1, hz2⟩ : ∃ zB, ((DP : Int) == 0) = zB ∧ ((NL : Int) == 0) = zB := ⟨_, rfl, by rw [Bool.eq_iff_iff]; simp only [beq_iff_eq]; omega⟩
        have hdw : wrap64 (2 * (dd : Int)) = 2 * (dd : Int) := by unfold wrap64; omega
        have hdc : ¬ 2 * (dd : Int) < (DP : Int) := by omega
        have hdd : decide (2 * (dd : Int) < (DP : Int)) = false := by simpa using hdc
        clear ZZ hdo hdl hfl
        go_wp2_with fail
        unfold TailQ
        repeat (go_big_quiet_step (fail))
        go_big_quiet_step (exact LN.out _)
        repeat (go_big_quiet_step (fail))
        go_big_quiet_step (exact DE.out _)
        repeat (go_big_quiet_step (fail))
        go_big_quiet_step (exact LD.out _)
        repeat (go_big_quiet_step (fail))
        go_big_quiet_step (exact DE.out _)
        repeat (go_big_quiet_step (fail))
        refine wpQuiet_nil ?_
        intro _ hw'
        obtain ⟨n2, rfl⟩ := hw'
        have PQ : Hid (Pair BS (v1.drewN n2) T R t') := PP.out.gr ((Gr.refl v1).drewN n2)
        have NQ : Hid (Below BS w (v1.drewN n2)) := NB.out.trans (((Gr.refl v1).drewN n2).below.mono PP.out.sz)
        clear PP NB z0 LN DE LD
        go_wp2
        go_roundg (N - (k + 1))
        case measure => omega
        case rel => exact ⟨k + 1, t', by rw [hw1], by omega, rfl, PQ, NQ⟩
      · have ck' : ¬ (k : Int) < (N : Int) := by omega
        have A1 := hid0 (lall_any T BS R t wr PR.out.one PR.out.ref)
        go_wp2_with fail
        refine A1.out.mono ?_
        rintro e v1 ⟨rfl, h1⟩
        have P1 := hid0 (PR.out.below h1)
        have B1 : Hid (Below BS w v1) := BB.out.trans (h1.mono PR.out.sz)
        clear PR BB A1 h1
        have A2 := hid0 (put_any T t 7 (0, 0, 1, 0) v1 P1.out.one)
        dsimp only [bv, bx] at A2
        go_wp2_with fail
        refine A2.out.mono ?_
        rintro e v2 ⟨t', rfl, h1, h2, h3⟩
        have R2 := P1.out.ref.ch P1.out.one.blk (by decide) (by decide) (by decide) h3
        have A3 := hid0 (rput_any BS R t.er.toL 7 (0, 0, 1, 0) v2 R2 P1.out.one.srt P1.out.one.few (Nat.le_trans P1.out.sz h3.size))
        dsimp only [bv, bx] at A3
        have H1 := hid0 h1
        have H2 := hid0 h2
        have H3 := hid0 h3
        clear R2 A2 h1 h2 h3
        generalize putE 7 (0, 0, 1, 0) t.er.toL = PE at *
        go_wp2_with fail
        refine A3.out.mono ?_
        rintro e v3 ⟨rfl, h4, h5⟩
        obtain ⟨q1, q2⟩ := P1.out.put H3.out H1.out (by rw [H2.out]; exact h4) h5
        have A4 := hid0 (lall_any T BS R t' v3 q1.one q1.ref)
        have B4 : Hid (Below BS w v3) := B1.out.trans q2
        have Z4 := hid0 q1.sz
        clear h4 h5 A3 H1 H2 H3 P1 B1 q1 q2
        go_wp2_with fail
        refine A4.out.mono ?_
        rintro e v4 ⟨rfl, h6⟩
        go_wp2
        go_ret
        refine ⟨rfl, ?_⟩
        have := B4.out.trans (h6.mono Z4.out)
        rw [HBS.out] at this
        exact this
end Go.Proofs.Ytpikhdfndnpidaa
