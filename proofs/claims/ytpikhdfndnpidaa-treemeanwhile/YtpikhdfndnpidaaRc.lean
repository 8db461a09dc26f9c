/- The reference's Range, At: the numbers of the boxes that meet one, in a row of their own. -/
import Derived.Test.YtpikhdfndnpidaaRb
import Derived.OwnWalk
set_option linter.unusedSimpArgs false
set_option linter.unusedVariables false
namespace Go.Proofs.Ytpikhdfndnpidaa
open Go.RowKit Go.Sort Go.Shelf

theorem rngL_snoc (b : Q4) (l : List E) (x : E) : rngL b (l ++ [x]) = rngL b l ++ (if meetQ x.2 b then [x.1] else []) := by
  unfold rngL
  rw [List.filter_append, List.map_append]
  congr 1
  by_cases c : meetQ x.2 b = true <;> simp [c]
abbrev numC (l : List Int) : List Value := l.map (fun i => Value.int .u32 i)
theorem numC_one (l : List Int) : ∀ u ∈ numC l, u.oneCell' = true := by
  intro u hu
  obtain ⟨i, _, rfl⟩ := List.mem_map.1 hu
  rfl
set_option maxRecDepth 20000 in
set_option maxHeartbeats 8000000 in
theorem rrange_own (base R : Nat) (l : List E) (b : Q4) (w : World) (h : RefIs w base R l) (hl : l.length ≤ 1000000) : Calls Try.prog 22 #[.pointer (some ⟨R, 0, none⟩), bv b] w fun e w' => ∃ u, e = .returned u ∧ (∃ B, w.heap.size ≤ B ∧ Row w' B u (rngL b l)) ∧ Below w.heap.size w w' := by
  obtain ⟨i0, hi, hz0, hz1, hz2⟩ := info_parts Try.info32
  obtain ⟨W, hW⟩ : ∃ W, W = w.alloc (.cells #[.int .i32 b.1, .int .i32 b.2.1, .int .i32 b.2.2.1, .int .i32 b.2.2.2] 36) := ⟨_, rfl⟩
  have g0 : Gr w W := hW ▸ (Gr.refl w).alloc _
  have kb : Bk W w.heap.size 36 [.int .i32 b.1, .int .i32 b.2.1, .int .i32 b.2.2.1, .int .i32 b.2.2.2] := hW ▸ Bk.new w 36 _
  have HR := hid0 (h.gr g0)
  have B0 : Hid (BW w W) := g0.below
  obtain ⟨N, hN⟩ : ∃ N, N = l.length := ⟨_, rfl⟩
  have HN := hid0 hN
  have hN6 : N ≤ 1000000 := by omega
  have MT : Hid (∀ q W, Calls Try.prog 42 #[bv q, bv b] W fun e w' => e = .returned (.bool (meetQ q b)) ∧ Gr W w') := fun q W => rmeet_any _ _ _ _ _ _ _ _ W
  dsimp only [bv, bx] at MT
  have KB := hid0 kb
  clear h hN hl g0 kb
  go_enter Try.func22, Try.ntmps22
  go_upto_region 1 with fail
  rw [← hW]
  clear hW
  generalize w.heap.size = BE at *
  go_wp2_with fail
  go_loopg [5, 6] N (fun gk v i wr => ∃ k : Nat, i = .int .i64 (k : Int) ∧ k ≤ N ∧ gk = N - k ∧ Hid (wr.ownsRow W.heap.size 32 1 v (rngL b (l.take k)).length (numC (rngL b (l.take k)))) ∧ Hid (BW W wr))
  case atStart => exact ⟨0, rfl, Nat.zero_le _, rfl, World.ownsRow_nil _ _ _ _, BW.refl W⟩
  case round =>
    obtain ⟨k, rfl, hk, rfl, OW, BWr⟩ := hrel
    obtain ⟨ai, ci, i0', hid⟩ := (HR.out.below BWr.out).id
    obtain ⟨ab, cb, j0, hbx⟩ := (HR.out.below BWr.out).box
    rw [← HN.out] at i0' j0
    by_cases c : k < N
    · have ck : (k : Int) < (N : Int) := by omega
      have kl : k < l.length := by have := HN.out; omega
      obtain ⟨x, hx⟩ : ∃ x, l[k]? = some x := ⟨l[k], List.getElem?_eq_getElem kl⟩
      obtain ⟨gi, rfl, e0⟩ := hid k x hx
      obtain ⟨gb, rfl, b0, b1, b2, b3⟩ := hbx k x hx
      have kb := KB.out.mono BWr.out KB.out.lt
      obtain ⟨y0, y1, y2, y3⟩ := kb.four
      have TK : Hid (l.take (k + 1) = l.take k ++ [x]) := by
        unfold Hid
        rw [List.take_add_one, hx]
        rfl
      have hw1 : wrap64 ((k : Int) + 1) = ((k + 1 : Nat) : Int) := by unfold wrap64; omega
      have f0 := cell_gr b0
      have f1 := cell_gr b1
      have f2 := cell_gr b2
      have f3 := cell_gr b3
      have f4 := cell_gr y0
      have f5 := cell_gr y1
      have f6 := cell_gr y2
      have f7 := cell_gr y3
      have j0' := cell_gr j0
      have QM : Hid (∀ n os, Calls Try.prog 42 #[bv x.2, bv b] (grow (wr.drewN n) os) fun e w' => e = .returned (.bool (meetQ x.2 b)) ∧ ∃ p : GrownBy, w' = grow (wr.drewN p.n) p.os) := fun n os => Calls.grown_of (MT.out x.2 _)
      dsimp only [bv, bx] at QM
      generalize hmb : meetQ x.2 b = mb at QM
      have HMB := hid0 hmb
      clear hmb
      clear hx hid hbx b0 b1 b2 b3 y0 y1 y2 y3 kb kl
      go_wp2_with fail
      refine wp_region_quiet_grown (by kernel_rfl) (by kernel_rfl) ?_
      repeat (go_big_quiet_step (fail))
      go_big_quiet_step (exact QM.out _ _)
      repeat (go_big_quiet_step (fail))
      refine wpQuiet_nil ?_
      intro V hw'
      have gV : Gr wr V := by obtain ⟨⟨nq, osq⟩, rfl⟩ := hw'; exact ⟨nq, osq, rfl⟩
      clear hw' f0 f1 f2 f3 f4 f5 f6 f7 QM
      have BV : Hid (BW W V) := BWr.out.gr gV
      have OV : Hid (V.ownsRow W.heap.size 32 1 u5 (rngL b (l.take k)).length (numC (rngL b (l.take k)))) := by
        rcases OW.out.2 with ⟨e1, h0⟩ | ⟨g1, cap, cur, e1, hb1, hc, hr⟩
        · exact ⟨OW.out.1, .inl ⟨e1, h0⟩⟩
        · exact ⟨OW.out.1, .inr ⟨g1, cap, cur, e1, hb1, (gV.below.block g1 (lt_of_block hc)).trans hc, hr⟩⟩
      have i1 := below_cell i0' gV.below
      have e1 := below_cell e0 gV.below
      have hWs : W.heap.size ≤ V.heap.size := BV.out.size
      clear i0' j0 j0' e0 OW BWr gV
      cases mb with
      | true =>
        have SN : Hid (rngL b (l.take (k + 1)) = rngL b (l.take k) ++ [x.1]) := by unfold Hid; rw [TK.out, rngL_snoc, if_pos HMB.out]
        have hlk : (rngL b (l.take k)).length ≤ 1000000 := by have := rngL_len b (l.take k); have := List.length_take_le k l; omega
        generalize rngL b (l.take k) = P at *
        generalize hPn : P.length = pn at *
        have HPn := hid0 hPn
        clear hPn
        go_wp2_with (at_builtin; refine wpList_append_own_at _ rfl (.tmp 25) (.tmp 33) 26 rfl W.heap.size 32 i0 (.int .u32 0) 1 4 Try.underlying26 hi hz0 hz1 hz2 rfl (by decide) u5 pn _ rfl (OV.out.alloc _) ⟨V.heap.size, 0, none⟩ 1 1 [.int .u32 x.1] rfl rfl (one_new _ _) (by simp [Value.oneCell']) (by unfold maxLen; omega) (by omega) (by simp; omega) ?_; intro v' w1 hown' hgrow _ hat)
        have hB1 : BW W w1 := by
          have h1 : BW W (V.alloc (.cells #[.int .u32 x.1] 32)) := BV.out.gr ((Gr.refl _).alloc _)
          exact below_grown h1 hgrow (fun r e => (own_lt OV.out e).2.1) h1.size
        go_roundg (N - (k + 1))
        case measure => omega
        case rel =>
          refine ⟨k + 1, rfl, by omega, rfl, ?_, hB1⟩
          unfold Hid
          rw [SN.out]
          simp only [List.length_append, List.length_cons, List.length_nil, List.map_append, List.map_cons, List.map_nil, HPn.out]
          exact hown'
      | false =>
        have SN : Hid (rngL b (l.take (k + 1)) = rngL b (l.take k)) := by unfold Hid; rw [TK.out, rngL_snoc, if_neg (by rw [HMB.out]; simp)]; simp
        go_wp2
        go_roundg (N - (k + 1))
        case measure => omega
        case rel =>
          refine ⟨k + 1, rfl, by omega, rfl, ?_, BV⟩
          unfold Hid
          rw [SN.out]
          exact OV.out
    · have ck : ¬ (k : Int) < (N : Int) := by omega
      have ek : k = N := by omega
      have TK : Hid (l.take k = l) := by unfold Hid; exact List.take_of_length_le (by have := HN.out; omega)
      rw [TK.out] at OW
      clear hid hbx
      go_wp2
      go_ret
      refine ⟨_, rfl, ⟨W.heap.size, B0.out.size, OW.out⟩, ?_⟩
      exact B0.out.tr BWr.out
theorem rrange_row (base R : Nat) (l : List E) (b : Q4) (w : World) (h : RefIs w base R l) (hl : l.length ≤ 1000000) : Calls Try.prog 22 #[.pointer (some ⟨R, 0, none⟩), bv b] w fun e w' => ∃ u, e = .returned u ∧ (∃ B, Row w' B u (rngL b l)) ∧ Below w.heap.size w w' := by
  refine (rrange_own base R l b w h hl).mono ?_
  rintro e w' ⟨u, rfl, ⟨B, _, h1⟩, h2⟩
  exact ⟨u, rfl, ⟨B, h1⟩, h2⟩
theorem rrange_any (base R : Nat) (l : List E) (b : Q4) (w : World) (h : RefIs w base R l) (hl : l.length ≤ 1000000) : Calls Try.prog 22 #[.pointer (some ⟨R, 0, none⟩), bv b] w fun e w' => ∃ u, e = .returned u ∧ Hid (Reads w' u (rngL b l)) ∧ Below w.heap.size w w' := by
  refine (rrange_row base R l b w h hl).mono ?_
  rintro e w' ⟨u, rfl, ⟨B, h1⟩, h2⟩
  exact ⟨u, rfl, h1.reads, h2⟩
theorem rat_any (base R : Nat) (l : List E) (x y : Int) (w : World) (h : RefIs w base R l) (hl : l.length ≤ 1000000) : Calls Try.prog 28 #[.pointer (some ⟨R, 0, none⟩), pt x y] w fun e w' => ∃ u, e = .returned u ∧ Hid (Reads w' u (rngL (x, y, x, y) l)) ∧ Below w.heap.size w w' := by
  have g0 := (Gr.refl w).alloc (.cells #[.int .i32 x, .int .i32 y] 34)
  have R := hid0 (rrange_any base R l (x, y, x, y) _ (h.gr g0) hl)
  obtain ⟨c0, c1⟩ := (Bk.new w 34 [.int .i32 x, .int .i32 y]).two
  dsimp only [bv, bx] at R
  have B0 : BW w (w.alloc (.cells #[.int .i32 x, .int .i32 y] 34)) := g0.below
  clear h
  go_enter Try.func28, Try.ntmps28
  go_upto_region 1 with fail
  generalize w.alloc (.cells #[.int .i32 x, .int .i32 y] 34) = W at *
  go_wp2_with (go_at_call 22; refine R.out.mono ?_; rintro e w1 ⟨u, rfl, hI, g⟩)
  go_ret
  exact ⟨u, rfl, hI, B0.tr g⟩
end Go.Proofs.Ytpikhdfndnpidaa
