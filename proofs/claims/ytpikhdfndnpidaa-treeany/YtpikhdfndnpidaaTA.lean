/- TreeAny's walk. -/
import Derived.Test.YtpikhdfndnpidaaTd
import Derived.Deep.CutBlock
set_option linter.unusedSimpArgs false
set_option linter.unusedVariables false
namespace Go.Proofs.Ytpikhdfndnpidaa
open Go.RowKit Go.Sort Go.Shelf

set_option maxRecDepth 100000 in
set_option maxHeartbeats 16000000 in
theorem any_walk (l : List E) (od : List Int) (al ao : Option Addr) (cl co : Nat) (a b c d : Int) (w : World) (hl : Nums w al l) (ho : Ints w ao od) :
    Calls Try.prog 4 #[.slice al l.length cl, .slice ao od.length co, bx a b c d] w fun e w' => e = .returned (.bool true) ∧ Below w.heap.size w w' := by
  obtain ⟨N, hN⟩ : ∃ N, N = l.length := ⟨_, rfl⟩
  obtain ⟨M, hM⟩ : ∃ M, M = od.length := ⟨_, rfl⟩
  have HN := hid0 hN
  have HM := hid0 hM
  rw [← hN, ← hM]
  clear hN hM
  have g0 := (Gr.refl w).alloc (.cells #[.int .i32 a, .int .i32 b, .int .i32 c, .int .i32 d] 36)
  have kb := Bk.new w 36 [.int .i32 a, .int .i32 b, .int .i32 c, .int .i32 d]
  have HL := hid0 (hl.below (show BW w _ from g0.below))
  have HO := hid0 (ho.below (show BW w _ from g0.below))
  have NW := hid0 new_any
  clear hl ho
  by_cases c1 : (300 : Int) < (N : Int)
  · go_enter Try.func4, Try.ntmps4
    go_wp2
    go_ret
    exact ⟨rfl, g0.below⟩
  · by_cases c2 : (300 : Int) < (M : Int)
    · go_enter Try.func4, Try.ntmps4
      go_wp2
      go_ret
      exact ⟨rfl, g0.below⟩
    · go_enter Try.func4, Try.ntmps4
      go_upto_region 1 with fail
      obtain ⟨W0, hW0⟩ : ∃ W0, W0 = w.alloc (.cells #[.int .i32 a, .int .i32 b, .int .i32 c, .int .i32 d] 36) := ⟨_, rfl⟩
      rw [← hW0] at g0 kb HL HO ⊢
      clear hW0
      have BW0 : Hid (BW w W0) := g0.below
      have hszw : w.heap.size ≤ W0.heap.size := g0.size
      obtain ⟨BB, hBB⟩ : ∃ BB, BB = w.heap.size := ⟨_, rfl⟩
      rw [← hBB] at kb ⊢
      clear hBB g0
      go_wp2_with fail
      refine (NW.out _).mono ?_
      rintro e w1 ⟨rfl, hw1, ht1⟩
      cases hw1
      go_wp2_with fail
      refine (NW.out _).mono ?_
      rintro e w2 ⟨rfl, hw2, ht2⟩
      have ne12 : W0.heap.size ≠ (W0.alloc (.cells #[.bool true, .pointer none, .int .i64 0] 64)).heap.size := by simp
      have gg := ((Gr.refl W0).alloc (.cells #[.bool true, .pointer none, .int .i64 0] 64)).alloc (.cells #[.bool true, .pointer none, .int .i64 0] 64)
      have TW : Two W0 w2 W0.heap.size (W0.alloc (.cells #[.bool true, .pointer none, .int .i64 0] 64)).heap.size .nil .nil := by
        have g2 : Gr (W0.alloc (.cells #[.bool true, .pointer none, .int .i64 0] 64)) w2 := by rw [hw2]; exact (Gr.refl _).alloc _
        exact ⟨by rw [hw2]; exact gg.below, ht1.gr g2, ht2, Nat.le_refl _, by simp, ne12⟩
      clear hw2 ht1 ht2 gg ne12 NW
      generalize (W0.alloc (.cells #[.bool true, .pointer none, .int .i64 0] 64)).heap.size = T2 at *
      obtain ⟨T1, hT1⟩ : ∃ T1, T1 = W0.heap.size := ⟨_, rfl⟩
      rw [← hT1] at TW ⊢
      clear hT1
      have HC1 : Hid (N ≤ 300) := by unfold Hid; omega
      have HC2 : Hid (M ≤ 300) := by unfold Hid; omega
      have TW0 := hid0 TW
      clear TW
      go_upto_block 0 with fail
      go_cut [] (fun w1 => ∃ t1 : At, Hid (Two W0 w1 T1 T2 t1 .nil) ∧ Hid (From l t1.er.toL))
      case first =>
        go_wp2_with fail
        go_loopg [9] N (fun gk i wr => ∃ (k : Nat) (t1 : At), i = .int .i64 (k : Int) ∧ k ≤ N ∧ gk = N - k ∧ Hid (Two W0 wr T1 T2 t1 .nil) ∧ Hid (From l t1.er.toL))
        case atStart => exact ⟨0, .nil, rfl, Nat.zero_le _, rfl, TW0, From.nil l⟩
        case round =>
          obtain ⟨k, t1, rfl, hk, rfl, TW, FR⟩ := hrel
          clear TW0
          by_cases ck : k < N
          · have ck' : (k : Int) < (N : Int) := by omega
            obtain ⟨x, hx⟩ : ∃ x, l[k]? = some x := ⟨l[k]'(by have := HN.out; omega), List.getElem?_eq_getElem _⟩
            obtain ⟨bl, ol, rfl, e0, e1, e2, e3, e4⟩ := (HL.out.below TW.out.bw) k x hx
            have HX : Hid (x ∈ l) := List.mem_of_getElem? hx
            clear hx
            have f0 : ∀ n, (wr.drewN n).cell? ⟨bl, ol + k * 5, none⟩ = some (.int .u32 x.1) := fun n => below_cell e0 ((Gr.refl wr).drewN n).below
            have f1 : ∀ n, (wr.drewN n).cell? ⟨bl, ol + k * 5 + 1, none⟩ = some (.int .i32 x.2.1) := fun n => below_cell e1 ((Gr.refl wr).drewN n).below
            have f2 : ∀ n, (wr.drewN n).cell? ⟨bl, ol + k * 5 + 2, none⟩ = some (.int .i32 x.2.2.1) := fun n => below_cell e2 ((Gr.refl wr).drewN n).below
            have f3 : ∀ n, (wr.drewN n).cell? ⟨bl, ol + k * 5 + 3, none⟩ = some (.int .i32 x.2.2.2.1) := fun n => below_cell e3 ((Gr.refl wr).drewN n).below
            have f4 : ∀ n, (wr.drewN n).cell? ⟨bl, ol + k * 5 + 4, none⟩ = some (.int .i32 x.2.2.2.2) := fun n => below_cell e4 ((Gr.refl wr).drewN n).below
            clear e0 e1 e2 e3 e4
            have hw1 : wrap64 ((k : Int) + 1) = ((k + 1 : Nat) : Int) := by have := HC1.out; unfold wrap64; omega
            have P : Hid (∀ n, Calls Try.prog 13 #[.pointer (some ⟨T1, 0, none⟩), .int .u32 x.1, bv x.2] (wr.drewN n) fun e w' => ∃ t' : At, e = .returned (.int .i64 (putE x.1 x.2 t1.er.toL)) ∧ TreeIs w' T1 t' ∧ t'.er.toL = putL x.1 x.2 t1.er.toL ∧ (wr.drewN n).grownBy w' (some T1)) := fun n => put_any T1 t1 x.1 x.2 _ (TW.out.one.gr ((Gr.refl wr).drewN n))
            dsimp only [bv, bx] at P
            go_wp2_with fail
            refine (wpIn_wide (n := 5)).1 ?_
            refine region_head_lit 11 (by kernel_rfl) (by kernel_rfl) (by simp) (by kernel_rfl) ?_
            simp only [List.take_succ_cons, List.take_zero, List.drop_succ_cons, List.drop_zero]
            repeat (gi_big_quiet_step (fail))
            refine wpQuietIn_nil ?_
            intro _ hw'
            obtain ⟨n, rfl⟩ := hw'
            gi_wp2_with fail
            refine ⟨trivial, (callsIn_wide.2 (P.out n)).mono ?_⟩
            rintro e V ⟨t', rfl, h1, h2, h3⟩
            have TW' : Hid (Two W0 V T1 T2 t' .nil) := (TW.out.gr ((Gr.refl wr).drewN n)).set1 h1 h3
            have FR' : Hid (From l t'.er.toL) := by unfold Hid; rw [h2]; exact FR.out.put HX.out x.2
            clear h1 h2 h3 P f0 f1 f2 f3 f4 TW FR
            generalize putE x.1 x.2 t1.er.toL = PE
            gi_wp2
            go_wp2
            go_roundg (N - (k + 1))
            case measure => omega
            case rel => exact ⟨k + 1, t', rfl, by omega, rfl, TW', FR'⟩
          · have ck' : ¬ (k : Int) < (N : Int) := by omega
            go_wp2_with fail
            go_meet
            case rel => exact ⟨t1, TW, FR⟩
      case rest =>
        obtain ⟨t1, TW1, FR1⟩ := hcut
        clear TW0
        go_upto_block 2 with fail
        go_cut [] (fun w1 => ∃ t2 : At, Hid (Two W0 w1 T1 T2 t1 t2) ∧ Hid (From l t2.er.toL))
        case first =>
          go_wp2_with fail
          go_loopg [10] M (fun gk i wr => ∃ (k : Nat) (t2 : At), i = .int .i64 (k : Int) ∧ k ≤ M ∧ gk = M - k ∧ Hid (Two W0 wr T1 T2 t1 t2) ∧ Hid (From l t2.er.toL))
          case atStart => exact ⟨0, .nil, rfl, Nat.zero_le _, rfl, TW1, From.nil l⟩
          case round =>
            obtain ⟨k, t2, rfl, hk, rfl, TW, FR⟩ := hrel
            clear TW1
            by_cases ck : k < M
            · have ck' : (k : Int) < (M : Int) := by omega
              by_cases n0 : N = 0
              · subst n0
                go_wp2_with fail
                go_meet
                case rel => exact ⟨t2, TW, FR⟩
              · have n0' : ¬ (N : Int) = 0 := by omega
                have n0b : ((N : Int) == 0) = false := by simp [n0]
                obtain ⟨o, hx⟩ : ∃ o, od[k]? = some o := ⟨od[k]'(by have := HM.out; omega), List.getElem?_eq_getElem _⟩
                obtain ⟨bo, oo, rfl, o0⟩ := (HO.out.below TW.out.bw) k o hx
                clear hx
                obtain ⟨pw, pl, ph⟩ := place_in (o := o) (n := (N : Int)) (by omega) (by have := HC1.out; omega)
                obtain ⟨j, hj⟩ : ∃ j : Nat, (o.tmod N + N).tmod N = (j : Int) := ⟨_, (Int.toNat_of_nonneg pl).symm⟩
                rw [hj] at pl ph
                obtain ⟨x, hx⟩ : ∃ x, l[j]? = some x := ⟨l[j]'(by have := HN.out; omega), List.getElem?_eq_getElem _⟩
                obtain ⟨bl, ol, rfl, e0, e1, e2, e3, e4⟩ := (HL.out.below TW.out.bw) j x hx
                have HX : Hid (x ∈ l) := List.mem_of_getElem? hx
                clear hx pl
                have jn : j < N := by omega
                have hw1 : wrap64 ((k : Int) + 1) = ((k + 1 : Nat) : Int) := by have := HC2.out; unfold wrap64; omega
                have gx := (Gr.refl wr).alloc (.cells #[.int .u32 x.1, .int .i32 x.2.1, .int .i32 x.2.2.1, .int .i32 x.2.2.2.1, .int .i32 x.2.2.2.2] 47)
                have kx := Bk.new wr 47 [.int .u32 x.1, .int .i32 x.2.1, .int .i32 x.2.2.1, .int .i32 x.2.2.2.1, .int .i32 x.2.2.2.2]
                have P := hid0 (put_any T2 t2 x.1 x.2 _ (TW.out.two.gr gx))
                dsimp only [bv, bx] at P
                go_wp2_with fail
                refine P.out.mono ?_
                rintro e V ⟨t', rfl, h1, h2, h3⟩
                have kV : Bk V wr.heap.size 47 [.int .u32 x.1, .int .i32 x.2.1, .int .i32 x.2.2.1, .int .i32 x.2.2.2.1, .int .i32 x.2.2.2.2] := kx.same (h3.block _ kx.lt (fun e => kx.ne ((TW.out.two.gr gx).blk) (by decide) (by cases e; rfl)))
                have TW' : Hid (Two W0 V T1 T2 t1 t') := (TW.out.gr gx).set2 h1 h3
                have FR' : Hid (From l t'.er.toL) := by unfold Hid; rw [h2]; exact FR.out.put HX.out x.2
                clear h1 h2 h3 P TW FR gx kx e0 e1 e2 e3 e4 o0 pw hj ph
                generalize putE x.1 x.2 t2.er.toL = PE
                have c0 := kV.at 0
                simp only [List.getElem?_cons_zero, List.getElem?_cons_succ] at c0
                generalize wr.heap.size = XB at *
                by_cases c3 : (k : Int) % 3 = 0
                · have c3b : ((k : Int) % 3 == 0) = true := by simp [c3]
                  have D := hid0 (del_any T2 t' x.1 V TW'.out.two)
                  go_wp2_with fail
                  refine D.out.mono ?_
                  rintro e V2 ⟨t3, rfl, h1, h2, h3⟩
                  have TW3 : Hid (Two W0 V2 T1 T2 t1 t3) := TW'.out.set2 h1 h3
                  have FR3 : Hid (From l t3.er.toL) := by unfold Hid; rw [h2]; exact FR'.out.rmv x.1
                  clear h1 h2 h3 D TW' FR' kV c0
                  generalize delE x.1 t'.er.toL = DE
                  go_wp2
                  go_roundg (M - (k + 1))
                  case measure => omega
                  case rel => exact ⟨k + 1, t3, rfl, by omega, rfl, TW3, FR3⟩
                · have c3b : ((k : Int) % 3 == 0) = false := by simp [c3]
                  go_wp2
                  go_roundg (M - (k + 1))
                  case measure => omega
                  case rel => exact ⟨k + 1, t', rfl, by omega, rfl, TW', FR'⟩
            · have ck' : ¬ (k : Int) < (M : Int) := by omega
              go_wp2_with fail
              go_meet
              case rel => exact ⟨t2, TW, FR⟩
        case rest =>
          obtain ⟨t2, TW2, FR2⟩ := hcut
          clear TW1
          go_upto_block 4 with fail
          go_cut [] (fun w1 => ∃ t2 : At, Hid (Two W0 w1 T1 T2 t1 t2) ∧ Hid (t2.er.toL = []))
          case first =>
            go_wp2_with fail
            go_loopg [12] N (fun gk i wr => ∃ (k : Nat) (t2 : At), i = .int .i64 (k : Int) ∧ k ≤ N ∧ gk = N - k ∧ Hid (Two W0 wr T1 T2 t1 t2) ∧ Hid (From (l.drop k) t2.er.toL))
            case atStart => exact ⟨0, t2, rfl, Nat.zero_le _, rfl, TW2, FR2⟩
            case round =>
              obtain ⟨k, t2, rfl, hk, rfl, TW, FR⟩ := hrel
              clear TW2 FR2
              by_cases ck : k < N
              · have ck' : (k : Int) < (N : Int) := by omega
                have kl : k < l.length := by have := HN.out; omega
                obtain ⟨bl, ol, rfl, e0, e1, e2, e3, e4⟩ := (HL.out.below TW.out.bw) k l[k] (List.getElem?_eq_getElem kl)
                have FRK : Hid (From (l[k] :: l.drop (k + 1)) t2.er.toL) := by unfold Hid; rw [← List.drop_eq_getElem_cons kl]; exact FR.out
                generalize l[k] = x at *
                have hw1 : wrap64 ((k : Int) + 1) = ((k + 1 : Nat) : Int) := by have := HC1.out; unfold wrap64; omega
                have D := hid0 (del_any T2 t2 x.1 wr TW.out.two)
                clear kl
                go_wp2_with fail
                refine D.out.mono ?_
                rintro e V ⟨t', rfl, h1, h2, h3⟩
                have TW' : Hid (Two W0 V T1 T2 t1 t') := TW.out.set2 h1 h3
                have FR' : Hid (From (l.drop (k + 1)) t'.er.toL) := by unfold Hid; rw [h2]; exact FRK.out.del
                clear h1 h2 h3 D TW FR FRK e0 e1 e2 e3 e4
                generalize delE x.1 t2.er.toL = DE
                go_wp2
                go_roundg (N - (k + 1))
                case measure => omega
                case rel => exact ⟨k + 1, t', rfl, by omega, rfl, TW', FR'⟩
              · have ck' : ¬ (k : Int) < (N : Int) := by omega
                have EM : Hid (t2.er.toL = []) := by
                  have h := FR.out
                  rw [List.drop_of_length_le (by have := HN.out; omega)] at h
                  exact h.empty
                go_wp2_with fail
                go_meet
                case rel => exact ⟨t2, TW, EM⟩
          case rest =>
            obtain ⟨t2', TW3, EM⟩ := hcut
            clear TW2 FR2
            have LN := hid0 (len_any T2 t2' wc TW3.out.two)
            have DP := hid0 (depth_any T2 t2' wc TW3.out.two)
            have z1 : t2'.er.toL.length = 0 := by rw [EM.out]; rfl
            have z2 : t2'.er.dep = 0 := PT.dep_zero.2 EM.out
            rw [z1] at LN
            rw [z2] at DP
            clear z1 z2
            go_upto_block 6 with (first
              | (go_at_call 10; refine LN.out.mono ?_; rintro e V ⟨rfl, hv⟩; cases hv)
              | (go_at_call 8; refine DP.out.mono ?_; rintro e V ⟨rfl, hv⟩; cases hv))
            have hw0 : wrap64 ((N : Int) - 1) = (N : Int) - 1 := by have := HC1.out; unfold wrap64; omega
            go_cut [] (fun w1 => ∃ t2 : At, Hid (Two W0 w1 T1 T2 t1 t2) ∧ Hid (t2.er.toL = t1.er.toL))
            case first =>
              go_wp2_with fail
              go_loopg [13] N (fun gk i wr => ∃ (m : Nat) (t2 : At), i = .int .i64 ((m : Int) - 1) ∧ m ≤ N ∧ gk = m ∧ Hid (Two W0 wr T1 T2 t1 t2) ∧ Hid (Back t1.er.toL l m t2.er.toL))
              case atStart => exact ⟨N, t2', rfl, Nat.le_refl _, rfl, TW3, by unfold Hid; rw [EM.out, HN.out]; exact Back.start _ _⟩
              case round =>
                obtain ⟨m, t2, rfl, hm, hgk, TW, BK⟩ := hrel
                have HGK := hid0 hgk
                clear TW3 EM LN DP hw0 hgk
                cases m with
                | zero =>
                  have EQ : Hid (t2.er.toL = t1.er.toL) := BK.out.done FR1.out TW.out.one.srt TW.out.two.srt
                  have hz : ((0 : Nat) : Int) - 1 = -1 := rfl
                  rw [hz]
                  go_wp2_with fail
                  go_meet
                  case rel => exact ⟨t2, TW, EQ⟩
                | succ k =>
                  have hz : ((k + 1 : Nat) : Int) - 1 = (k : Int) := by omega
                  rw [hz]
                  have ck : (0 : Int) ≤ (k : Int) := by omega
                  obtain ⟨x, hx⟩ : ∃ x, l[k]? = some x := ⟨l[k]'(by have := HN.out; omega), List.getElem?_eq_getElem _⟩
                  obtain ⟨bl, ol, rfl, e0, e1, e2, e3, e4⟩ := (HL.out.below TW.out.bw) k x hx
                  have HX := hid0 hx
                  have kN : k < N := by omega
                  clear hx hz
                  have hw1 : wrap64 ((k : Int) - 1) = (k : Int) - 1 := by have := HC1.out; unfold wrap64; omega
                  have hF := find_has TW.out.one.srt x.1
                  by_cases hb : hasI x.1 t1.er.toL = true
                  · rw [hb] at hF
                    obtain ⟨q, ql, qh, hq, hm2⟩ := PT.find_some TW.out.one.srt hF
                    have BX : Hid (Calls Try.prog 16 #[.pointer (some ⟨T1, 0, none⟩), .int .u32 x.1] wr fun e w' => e = .returned (.tuple #[bv q, .bool true]) ∧ Gr wr w') := by
                      have h := box_any T1 t1 x.1 wr TW.out.one
                      rw [hq] at h
                      exact h
                    have BK' : Hid (Back t1.er.toL l k (putL x.1 q t2.er.toL)) := BK.out.put TW.out.one.srt TW.out.one.rg HX.out hm2 (by have := HN.out; have := HC1.out; omega)
                    clear hF hq hm2 hb
                    dsimp only [bv, bx] at BX
                    go_wp2_with fail
                    refine BX.out.mono ?_
                    rintro e V ⟨rfl, gV⟩
                    have gA := gV.alloc (.cells #[.int .i32 q.1, .int .i32 q.2.1, .int .i32 q.2.2.1, .int .i32 q.2.2.2] 36)
                    have kq := Bk.new V 36 [.int .i32 q.1, .int .i32 q.2.1, .int .i32 q.2.2.1, .int .i32 q.2.2.2]
                    have TWA : Hid (Two W0 (V.alloc (.cells #[.int .i32 q.1, .int .i32 q.2.1, .int .i32 q.2.2.1, .int .i32 q.2.2.2] 36)) T1 T2 t1 t2) := TW.out.gr gA
                    have e0' := below_cell e0 gA.below
                    clear e0 e1 e2 e3 e4 TW BX gV gA BK
                    go_upto_region 30 with fail
                    generalize V.alloc (.cells #[.int .i32 q.1, .int .i32 q.2.1, .int .i32 q.2.2.1, .int .i32 q.2.2.2] 36) = VA at *
                    generalize V.heap.size = QB at *
                    obtain ⟨y0, y1, y2, y3⟩ := kq.four
                    have f0 : ∀ n, (VA.drewN n).cell? ⟨bl, ol + k * 5, none⟩ = some (.int .u32 x.1) := fun n => below_cell e0' ((Gr.refl VA).drewN n).below
                    have f1 : ∀ n, (VA.drewN n).cell? ⟨QB, 0, none⟩ = some (.int .i32 q.1) := fun n => below_cell y0 ((Gr.refl VA).drewN n).below
                    have f2 : ∀ n, (VA.drewN n).cell? ⟨QB, 1, none⟩ = some (.int .i32 q.2.1) := fun n => below_cell y1 ((Gr.refl VA).drewN n).below
                    have f3 : ∀ n, (VA.drewN n).cell? ⟨QB, 2, none⟩ = some (.int .i32 q.2.2.1) := fun n => below_cell y2 ((Gr.refl VA).drewN n).below
                    have f4 : ∀ n, (VA.drewN n).cell? ⟨QB, 3, none⟩ = some (.int .i32 q.2.2.2) := fun n => below_cell y3 ((Gr.refl VA).drewN n).below
                    have P : Hid (∀ n, Calls Try.prog 13 #[.pointer (some ⟨T2, 0, none⟩), .int .u32 x.1, bv q] (VA.drewN n) fun e w' => ∃ t' : At, e = .returned (.int .i64 (putE x.1 q t2.er.toL)) ∧ TreeIs w' T2 t' ∧ t'.er.toL = putL x.1 q t2.er.toL ∧ (VA.drewN n).grownBy w' (some T2)) := fun n => put_any T2 t2 x.1 q _ (TWA.out.two.gr ((Gr.refl VA).drewN n))
                    dsimp only [bv, bx] at P
                    clear e0' y0 y1 y2 y3 kq
                    refine (wpIn_wide (n := 5)).1 ?_
                    refine region_head_lit 7 (by kernel_rfl) (by kernel_rfl) (by simp) (by kernel_rfl) ?_
                    simp only [List.take_succ_cons, List.take_zero, List.drop_succ_cons, List.drop_zero]
                    repeat (gi_big_quiet_step (fail))
                    refine wpQuietIn_nil ?_
                    intro _ hw'
                    obtain ⟨n, rfl⟩ := hw'
                    gi_wp2_with fail
                    refine ⟨trivial, (callsIn_wide.2 (P.out n)).mono ?_⟩
                    rintro e V2 ⟨t', rfl, h1, h2, h3⟩
                    have TW' : Hid (Two W0 V2 T1 T2 t1 t') := (TWA.out.gr ((Gr.refl VA).drewN n)).set2 h1 h3
                    have BK2 : Hid (Back t1.er.toL l k t'.er.toL) := by unfold Hid; rw [h2]; exact BK'.out
                    clear h1 h2 h3 P f0 f1 f2 f3 f4 TWA BK'
                    generalize putE x.1 q t2.er.toL = PE
                    gi_wp2
                    go_wp2
                    go_roundg k
                    case measure => have := HGK.out; omega
                    case rel => exact ⟨k, t', rfl, by omega, rfl, TW', BK2⟩
                  · have hb' : hasI x.1 t1.er.toL = false := by simpa using hb
                    rw [hb'] at hF
                    have hq : t1.er.find x.1 = .nil := PT.isNil_iff.1 (by rw [hF]; rfl)
                    have BX : Hid (Calls Try.prog 16 #[.pointer (some ⟨T1, 0, none⟩), .int .u32 x.1] wr fun e w' => e = .returned (.tuple #[bx 0 0 0 0, .bool false]) ∧ Gr wr w') := by
                      have h := box_any T1 t1 x.1 wr TW.out.one
                      rw [hq] at h
                      exact h
                    have BK' : Hid (Back t1.er.toL l k t2.er.toL) := BK.out.skip HX.out hb'
                    clear hF hq hb
                    go_wp2_with fail
                    refine BX.out.mono ?_
                    rintro e V ⟨rfl, gV⟩
                    have TWA : Hid (Two W0 (V.alloc (.cells #[.int .i32 0, .int .i32 0, .int .i32 0, .int .i32 0] 36)) T1 T2 t1 t2) := TW.out.gr (gV.alloc _)
                    clear e0 e1 e2 e3 e4 TW BX gV BK
                    go_wp2
                    go_roundg k
                    case measure => have := HGK.out; omega
                    case rel => exact ⟨k, t2, rfl, by omega, rfl, TWA, BK'⟩
            case rest =>
              obtain ⟨t2, TW4, EQ⟩ := hcut
              clear TW3 EM LN DP
              have TT1 : Hid (∀ V, BW wc V → TreeIs V T1 t1) := fun V g => TW4.out.one.below g
              have TT2 : Hid (∀ V, BW wc V → TreeIs V T2 t2) := fun V g => TW4.out.two.below g
              have LN1 : Hid (∀ V, BW wc V → Calls Try.prog 10 #[.pointer (some ⟨T1, 0, none⟩)] V fun e w' => e = .returned (.int .i64 (t1.er.toL.length : Nat)) ∧ w' = V) := fun V g => len_any T1 t1 V (TT1.out V g)
              have LN2 : Hid (∀ V, BW wc V → Calls Try.prog 10 #[.pointer (some ⟨T2, 0, none⟩)] V fun e w' => e = .returned (.int .i64 (t1.er.toL.length : Nat)) ∧ w' = V) := fun V g => by rw [← EQ.out]; exact len_any T2 t2 V (TT2.out V g)
              have FW : Hid (∀ b, (rngL b t1.er.toL).length ≤ 1000000) := fun b => by have := rngL_len b t1.er.toL; have := TW4.out.one.few; omega
              have TD1 : Hid (∀ b fv V, BW wc V → ItR V (.pointer (some ⟨T1, 0, none⟩)) b fv → Calls Try.prog 18 #[fv, .int .i64 0] V fun e w' => ∃ u, e = .returned u ∧ Hid (Reads w' u (rngL b t1.er.toL)) ∧ Below V.heap.size V w') := fun b fv V g hI => told_tree T1 t1 fv b V (TT1.out V g) hI
              have TD2 : Hid (∀ b fv V, BW wc V → ItR V (.pointer (some ⟨T2, 0, none⟩)) b fv → Calls Try.prog 18 #[fv, .int .i64 0] V fun e w' => ∃ u, e = .returned u ∧ Hid (Reads w' u (rngL b t1.er.toL)) ∧ Below V.heap.size V w') := fun b fv V g hI => by rw [← EQ.out]; exact told_tree T2 t2 fv b V (TT2.out V g) hI
              have RA1 : Hid (∀ w, Calls Try.prog 19 #[.pointer (some ⟨T1, 0, none⟩), bx a b c d] w fun e w' => ∃ fv, e = .returned fv ∧ ItR w' (.pointer (some ⟨T1, 0, none⟩)) (a, b, c, d) fv ∧ Gr w w') := range_any _ (a, b, c, d)
              have RA2 : Hid (∀ w, Calls Try.prog 19 #[.pointer (some ⟨T2, 0, none⟩), bx a b c d] w fun e w' => ∃ fv, e = .returned fv ∧ ItR w' (.pointer (some ⟨T2, 0, none⟩)) (a, b, c, d) fv ∧ Gr w w') := range_any _ (a, b, c, d)
              have kw := kb.mono TW4.out.bw kb.lt
              have y0 := cell_bw (kw.at 0)
              have y1 := cell_bw (kw.at 1)
              have y2 := cell_bw (kw.at 2)
              have y3 := cell_bw (kw.at 3)
              have BWF : Hid (BW w wc) := BW0.out.tr TW4.out.bw
              clear kw kb TW4 EQ TT1 TT2
              generalize ((t1.er.toL.length : Nat) : Int) = LL at *
              generalize t1.er.toL = A1 at *
              go_wp2_with fail
              go_region_held3 (BW wc)
                (first
                  | exact BW.drew _
                  | assumption
                  | exact BW.gr (by assumption) (by assumption)
                  | exact BW.tr (by assumption) (by assumption))
                (first
                  | (go_at_call_of 10 (Value.pointer (some ⟨T1, 0, none⟩)); refine (LN1.out _ (by assumption)).mono ?_; rintro e v ⟨rfl, hv⟩; cases hv)
                  | (go_at_call_of 10 (Value.pointer (some ⟨T2, 0, none⟩)); refine (LN2.out _ (by assumption)).mono ?_; rintro e v ⟨rfl, hv⟩; cases hv)
                  | (go_at_call_of 19 (Value.pointer (some ⟨T1, 0, none⟩)); refine (RA1.out _).mono ?_; rintro e v1 ⟨f1, rfl, i1, g1⟩)
                  | (go_at_call_of 19 (Value.pointer (some ⟨T2, 0, none⟩)); refine (RA2.out _).mono ?_; rintro e v3 ⟨f2, rfl, i2, g3⟩)
                  | (go_at_call_of 20 (Value.pointer (some ⟨T1, 0, none⟩)); refine (at_any _ a b _).mono ?_; rintro e v6 ⟨f3, rfl, i3, g6⟩)
                  | (go_at_call_of 20 (Value.pointer (some ⟨T2, 0, none⟩)); refine (at_any _ a b _).mono ?_; rintro e v8 ⟨f4, rfl, i4, g8⟩)
                  | (go_at_call_of 21 (Value.pointer (some ⟨T1, 0, none⟩)); refine (crossing_any _ a b c d _).mono ?_; rintro e v11 ⟨f5, rfl, i5, g11⟩)
                  | (go_at_call_of 21 (Value.pointer (some ⟨T2, 0, none⟩)); refine (crossing_any _ a b c d _).mono ?_; rintro e v13 ⟨f6, rfl, i6, g13⟩)
                  | (go_at_call_of 18 f1; refine (TD1.out _ f1 _ (by assumption) i1).mono ?_; rintro e v2 ⟨r1, rfl, q1, g2⟩)
                  | (go_at_call_of 18 f2; refine (TD2.out _ f2 _ (by assumption) i2).mono ?_; rintro e v4 ⟨r2, rfl, q2, g4⟩)
                  | (go_at_call_of 18 f3; refine (TD1.out _ f3 _ (by assumption) i3).mono ?_; rintro e v7 ⟨r3, rfl, q3, g7⟩)
                  | (go_at_call_of 18 f4; refine (TD2.out _ f4 _ (by assumption) i4).mono ?_; rintro e v9 ⟨r4, rfl, q4, g9⟩)
                  | (go_at_call_of 18 f5; refine (TD1.out _ f5 _ (by assumption) i5).mono ?_; rintro e v12 ⟨r5, rfl, q5, g12⟩)
                  | (go_at_call_of 18 f6; refine (TD2.out _ f6 _ (by assumption) i6).mono ?_; rintro e v14 ⟨r6, rfl, q6, g14⟩)
                  | (go_at_call_of 17 r1; refine (same_eq r1 r2 _ (FW.out _) _ ((q1.out.below g3.below).below g4) q2.out).mono ?_; rintro e v5 ⟨rfl, g5⟩)
                  | (go_at_call_of 17 r3; refine (same_eq r3 r4 _ (FW.out _) _ ((q3.out.below g8.below).below g9) q4.out).mono ?_; rintro e v10 ⟨rfl, g10⟩)
                  | (go_at_call_of 17 r5; refine (same_eq r5 r6 _ (FW.out _) _ ((q5.out.below g13.below).below g14) q6.out).mono ?_; rintro e v15 ⟨rfl, g15⟩))
              rename_i hH
              go_wp2
              go_ret
              exact ⟨rfl, BWF.out.tr hH⟩
end Go.Proofs.Ytpikhdfndnpidaa
