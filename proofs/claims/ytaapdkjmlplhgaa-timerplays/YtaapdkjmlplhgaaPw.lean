/- TimerPlays' walk. -/
import Derived.Test.YtaapdkjmlplhgaaJc
import Derived.Test.YtaapdkjmlplhgaaHx
import Derived.Deep.CutBlock
import Derived.Deep.RegionHeld3
set_option linter.unusedSimpArgs false
set_option linter.unusedVariables false
namespace Go.Proofs.Ytaapdkjmlplhgaa
open Go.RowKit Go.Sort Go.Shelf
attribute [local go_sem] Oper.semAt_some wide_fn
attribute [local simp] wide_fn

/-- A call's kind and arguments. -/
abbrev St := Int × Du
abbrev St.l (x : St) : List Value := [.int .i64 x.1, .int .u32 x.2.1, .int .u32 x.2.2.1, .int .u32 x.2.2.2]
/-- Calls that a slice reads. -/
def Steps (w : World) (ao : Option Addr) (l : List St) : Prop := ∀ k x, l[k]? = some x → okD x.2 ∧ ∃ b off, ao = some ⟨b, off, none⟩ ∧ ∀ j u, (St.l x)[j]? = some u → w.cell? ⟨b, off + k * 4 + j, none⟩ = some u
theorem Steps.below {w w' : World} {ao : Option Addr} {l : List St} (h : Steps w ao l) (g : BW w w') : Steps w' ao l := fun k x hx => by
  obtain ⟨o, b, off, e, h0⟩ := h k x hx
  exact ⟨o, b, off, e, fun j u hu => below_cell (h0 j u hu) g⟩
theorem Both.gr {B d h pb mb most r : Nat} {w w' : World} (P : Both B d h pb mb most r w) (g : Gr w w') : Both B d h pb mb most r w' := by
  obtain ⟨v, l, m, rv, L, P⟩ := P
  exact ⟨v, l, m, rv, L, P.gr g⟩
theorem Both.size {B d h pb mb most r : Nat} {w : World} (P : Both B d h pb mb most r w) : B ≤ w.heap.size := by
  obtain ⟨v, l, m, rv, L, P⟩ := P
  exact P.ds.size
theorem plays_bad (most : Int) (hb : most < 1 ∨ 4096 < most) (N : Nat) (al : Option Addr) (cl : Nat) (w : World) :
    Calls Try.prog 3 #[.int .i64 most, .slice al N cl] w fun e w' => e = .returned (.bool true) ∧ Below w.heap.size w w' := by
  have NW := hid0 (fun w => new_no most w hb)
  have RN := hid0 (fun w => rnew_no most w hb)
  clear hb
  by_cases c1 : (1024 : Int) < (N : Int)
  · go_enter Try.func3, Try.ntmps3
    go_wp2
    go_ret
    exact ⟨rfl, Below.refl _ _⟩
  · go_enter Try.func3, Try.ntmps3
    go_wp2_with fail
    refine (NW.out _).mono ?_
    rintro e w1 ⟨rfl, hw1⟩
    cases hw1
    go_wp2_with fail
    refine (RN.out _).mono ?_
    rintro e w2 ⟨rfl, hw2⟩
    cases hw2
    clear NW RN
    go_wp2
    go_ret
    exact ⟨rfl, Below.refl _ _⟩
set_option maxRecDepth 100000 in
set_option maxHeartbeats 16000000 in
theorem plays_good (n : Nat) (h1 : 1 ≤ n) (h2 : n ≤ 4096) (l : List St) (al : Option Addr) (cl : Nat) (w : World) (hl : Steps w al l) :
    Calls Try.prog 3 #[.int .i64 n, .slice al l.length cl] w fun e w' => e = .returned (.bool true) ∧ Below w.heap.size w w' := by
  obtain ⟨N, hN⟩ : ∃ N, N = l.length := ⟨_, rfl⟩
  have HN := hid0 hN
  rw [← hN]
  clear hN
  have HL := hid0 hl
  clear hl
  have NW := hid0 (fun w => new_yes n w h1 h2)
  have RN := hid0 (fun w => rnew_yes n w h1 h2)
  by_cases c1 : (1024 : Int) < (N : Int)
  · clear h1 h2
    go_enter Try.func3, Try.ntmps3
    go_wp2
    go_ret
    exact ⟨rfl, Below.refl _ _⟩
  · have hN1 : N ≤ 1024 := by omega
    clear h1 h2
    go_enter Try.func3, Try.ntmps3
    go_wp2_with fail
    refine (NW.out _).mono ?_
    rintro e w1 ⟨d, h, pb, mb, rfl, D1, g1⟩
    go_wp2_with fail
    refine (RN.out _).mono ?_
    rintro e w2 ⟨rfl, R2, g2⟩
    have P0 : Hid (Both w.heap.size d h pb mb n w1.heap.size w2) :=
      ⟨_, _, _, _, _, ⟨D1.gr g2, ⟨R2.blk, World.ownsRow_nil _ _ _ _, g1.size⟩, ⟨List.Pairwise.nil, fun x => Iff.rfl⟩, fun g e => by cases e⟩⟩
    have B0 : Hid (Below w.heap.size w w2) := (g1.trans g2).below
    clear D1 R2 g1 g2 NW RN
    obtain ⟨r, hr⟩ : ∃ r, r = w1.heap.size := ⟨_, rfl⟩
    rw [← hr] at P0 ⊢
    clear hr
    have P1 := P0
    have B1 := B0
    clear P0 B0
    obtain ⟨B, hB⟩ : ∃ B, B = w.heap.size := ⟨_, rfl⟩
    rw [← hB] at P1 B1
    have HB := hid0 hB
    clear hB
    have HC := hid0 hN1
    clear c1 hN1
    go_wp2_with fail
    go_loopg [8] N (fun gk i wr => ∃ (k : Nat), i = .int .i64 (k : Int) ∧ k ≤ N ∧ gk = N - k ∧ Hid (Both B d h pb mb n r wr) ∧ Hid (Below B w wr))
    case atStart => exact ⟨0, rfl, Nat.zero_le _, rfl, P1, B1⟩
    case round =>
      clear P1 B1
      obtain ⟨k, rfl, hk, rfl, PR, BB⟩ := hrel
      by_cases ck : k < N
      · have ck' : (k : Int) < (N : Int) := by omega
        obtain ⟨x, hx⟩ : ∃ x, l[k]? = some x := ⟨l[k]'(by have := HN.out; omega), List.getElem?_eq_getElem _⟩
        have hbw : BW w wr := by have := BB.out; rw [HB.out] at this; exact this
        obtain ⟨hok, bl, ol, rfl, cc⟩ := (HL.out.below hbw) k x hx
        clear hx hbw
        obtain ⟨kd, xa, xo, xf⟩ := x
        dsimp only [St.l] at cc
        have CC : ∀ (j : Nat) (u : Value), [Value.int .i64 kd, .int .u32 xa, .int .u32 xo, .int .u32 xf][j]? = some u → ∀ n, (wr.drewN n).cell? ⟨bl, ol + k * 4 + j, none⟩ = some u := fun j u h n => below_cell (cc j u h) ((Gr.refl wr).drewN n).below
        have e0 : ∀ n, (wr.drewN n).cell? ⟨bl, ol + k * 4, none⟩ = some (.int .i64 kd) := CC 0 _ rfl
        have e1 := CC 1 _ rfl
        have e2 := CC 2 _ rfl
        have e3 := CC 3 _ rfl
        clear cc CC
        have hw1 : wrap64 ((k : Int) + 1) = ((k + 1 : Nat) : Int) := by have := HC.out; unfold wrap64; omega
        have ST : Hid (∀ q, Calls Try.prog 9 #[.pointer (some ⟨d, 0, none⟩), .pointer (some ⟨r, 0, none⟩), .agg #[.int .i64 kd, .int .u32 xa, .int .u32 xo, .int .u32 xf]] (wr.drewN q) fun e w' => e = .returned (.bool true) ∧ Both B d h pb mb n r w' ∧ Below B w w') := fun q => by
          have g := (Gr.refl wr).drewN q
          refine (step_any (PR.out.gr g) kd (xa, xo, xf) hok).mono ?_
          rintro e w' ⟨h1, h2, h3⟩
          exact ⟨h1, h3, (BB.out.trans (g.below.mono PR.out.size)).trans h2.1⟩
        clear BB PR hok
        go_wp2_with fail
        refine region_split_lit 6 _ rfl (by kernel_rfl) (by kernel_rfl) ?_
        simp only [List.take_succ_cons, List.take_zero, List.drop_succ_cons, List.drop_zero]
        repeat (go_big_quiet_step (fail))
        refine wpQuiet_nil ?_
        intro _ hw'
        obtain ⟨q, rfl⟩ := hw'
        clear e0 e1 e2 e3
        go_wp2_with fail
        refine (ST.out q).mono ?_
        rintro e v1 ⟨rfl, hp, hb⟩
        clear ST
        have NB := hid0 hb
        have PP := hid0 hp
        obtain ⟨v, l', m, rv, L, P⟩ := hp
        have hlen := P.so.len P.ds.pd
        obtain ⟨ra, rcp, rfl⟩ : ∃ ra rcp, rv = .slice ra L.length rcp := by
          rcases P.rf.shape with ⟨h1, h2⟩ | ⟨g, cp, h1, _⟩
          · exact ⟨none, 0, by rw [h1, h2]; rfl⟩
          · exact ⟨_, cp, h1⟩
        have z0 := fun n => below_cell P.rf.cells.2 ((Gr.refl v1).drewN n).below
        have LN : Hid (∀ n, Calls Try.prog 10 #[.pointer (some ⟨d, 0, none⟩)] (v1.drewN n) fun e w' => e = .returned (.int .i64 (L.length : Nat)) ∧ ∃ m, w' = v1.drewN m) := fun n => (len_yes (P.ds.gr ((Gr.refl v1).drewN n))).mono (fun e w' h => ⟨by rw [hlen]; exact h.1, n, h.2⟩)
        clear hb P hlen
        generalize L.length = NL at *
        go_wp2_with fail
        unfold TailQ
        repeat (go_big_quiet_step (fail))
        go_big_quiet_step (exact LN.out _)
        repeat (go_big_quiet_step (fail))
        refine wpQuiet_nil ?_
        intro _ hw'
        obtain ⟨n2, rfl⟩ := hw'
        have PQ := hid0 (PP.out.gr ((Gr.refl v1).drewN n2))
        have NQ := hid0 (NB.out.trans (((Gr.refl v1).drewN n2).below.mono PP.out.size))
        clear PP NB z0 LN
        go_wp2
        go_roundg (N - (k + 1))
        case measure => omega
        case rel => exact ⟨k + 1, by rw [hw1], by omega, rfl, PQ, NQ⟩
      · have ck' : ¬ (k : Int) < (N : Int) := by omega
        obtain ⟨v, l', m, rv, L, P⟩ := PR.out
        have g := (Gr.refl wr).alloc (.cells #[.int .u32 1, .int .u32 5, .int .u32 6] 32)
        have k9 := Bk.new wr 32 [.int .u32 1, .int .u32 5, .int .u32 6]
        have A9 := hid0 (P.ds.aside_new (b := wr.heap.size) (Nat.le_refl _))
        have n9 : wr.heap.size ≠ r := by have := P.rf.blk.lt; omega
        have B2 := hid0 (BB.out.trans (g.below.mono P.ds.size))
        have P2 := hid0 (P.gr g)
        have hx : okD (1, 5, 6) := by unfold okD u32; decide
        clear P g PR BB
        go_wp2_with fail
        generalize wr.alloc _ = V at *
        obtain ⟨b9, e9⟩ : ∃ b9, b9 = wr.heap.size := ⟨_, rfl⟩
        rw [← e9] at k9 A9 n9 ⊢
        clear e9
        have B3 := hid0 (B2.out.trans (((Gr.refl V).drew).below.mono P2.out.ds.size))
        have PD := hid0 (P2.out.gr ((Gr.refl V).drew))
        have SM := hid0 (same_any PD.out)
        have SD := hid0 (k9.gr ((Gr.refl V).drew))
        have f0 : ∀ V, Bk V b9 32 [.int .u32 1, .int .u32 5, .int .u32 6] → V.cell? ⟨b9, 0, none⟩ = some (.int .u32 1) := fun V hV => hV.at 0
        have f1 : ∀ V, Bk V b9 32 [.int .u32 1, .int .u32 5, .int .u32 6] → V.cell? ⟨b9, 1, none⟩ = some (.int .u32 5) := fun V hV => hV.at 1
        have f2 : ∀ V, Bk V b9 32 [.int .u32 1, .int .u32 5, .int .u32 6] → V.cell? ⟨b9, 2, none⟩ = some (.int .u32 6) := fun V hV => hV.at 2
        clear k9 B2 P2
        go_region_held3 (fun V => Bk V b9 32 [.int .u32 1, .int .u32 5, .int .u32 6])
          (first
            | assumption
            | exact SD.out)
          (first
            | (go_at_call 11; obtain ⟨v', l2, m2, rv', L2, P4⟩ := h7; refine (same_any P4).mono ?_; rintro e v4 ⟨rfl, h8⟩; have s4 := s3.mono h8 s3.lt)
            | (go_at_call 11; refine SM.out.mono ?_; rintro e v1 ⟨rfl, h1⟩; have s1 := SD.out.mono h1 SD.out.lt)
            | (go_at_call 12; refine (sets_both (PD.out.below h1) (1, 5, 6) hx).mono ?_; rintro e v2 ⟨c, rfl, h2, h3, h4⟩; have s2 := h3.bk s1 A9.out n9)
            | (go_at_call 13; refine h4.mono ?_; rintro e v3 ⟨rfl, h5, h6, h7⟩; have s3 := h6.bk s1 A9.out n9))
        have F := hid0 ((((B3.out.trans (h1.mono PD.out.ds.size)).trans h2.1).trans h5.1).trans (h8.mono P4.ds.size))
        rw [HB.out] at F
        clear h1 h2 h3 h4 h5 h6 h8 s1 s2 s3 s4 SM SD f0 f1 f2 A9 B3 PD P4
        go_wp2
        go_ret
        exact ⟨rfl, F.out⟩
end Go.Proofs.Ytaapdkjmlplhgaa
