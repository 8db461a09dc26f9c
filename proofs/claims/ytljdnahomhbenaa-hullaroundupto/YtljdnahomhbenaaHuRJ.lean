/- The reference's once: the points in order, each once. Plain: how the reference goes around: what follows a corner is the next one of the hull. -/
import Derived.Test.YtljdnahomhbenaaFo
namespace Go.Proofs.Ytljdnahomhbenaa
section
set_option linter.unusedSimpArgs false
open Go.RowKit Go.Sort Go.Lib Go.Shelf

set_option maxRecDepth 20000 in
set_option maxHeartbeats 8000000 in
theorem once_any (vo : Option Addr) (cv : Nat) (l : List (Int × Int)) (w : World) (hl : l.length ≤ 17592186043904) (hP : Pts w vo l) :
    Calls Try.prog 27 #[.slice vo l.length cv] w fun e w' => ∃ sv, e = .returned sv ∧ w'.ownsRow w.heap.size 28 2 sv (srt l).length (flat (srt l)) ∧ Below w.heap.size w w' := by
  obtain ⟨i0, hi, hz0, hz1, hz2⟩ := info_parts Try.info28
  have L1 := hid0 (rsorted_any vo cv l w hl hP)
  have HS : Hid (∀ R : List (Int × Int), R.Perm l → asc R → compactUpTo R.toArray l.length = srt l) := fun R hp ha => by
    rw [← compact_srt hp ha]
    unfold compact
    rw [hp.length_eq]
  obtain ⟨S, hS⟩ : ∃ S, srt l = S := ⟨_, rfl⟩
  rw [hS] at HS ⊢
  clear hS hP
  go_enter Try.func27, Try.ntmps27
  go_wp2_with fail
  refine L1.out.mono ?_
  rintro e w1 ⟨sv, R, rfl, O1, hp, ha, hb1⟩
  have HS' := hid0 (HS.out R hp ha)
  obtain ⟨ro, rc, rfl, PR, hRl, _⟩ := own_pts O1
  have HR := hid0 PR
  have hsz1 := hb1.size
  clear L1 HS O1 PR hp ha
  go_wp2
  go_loopw [3, 5] (fun s i wr => ∃ k : Nat, k ≤ l.length ∧ i = .int .i64 k ∧ wr.ownsRow w1.heap.size 28 2 s (compactUpTo R.toArray k).length (flat (compactUpTo R.toArray k)) ∧ (compactUpTo R.toArray k).length ≤ k ∧ Below w1.heap.size w1 wr) (fun _ i _ => l.length - (intOf i).toNat)
  case atStart => exact ⟨0, by omega, rfl, World.ownsRow_nil _ _ _ _, by simp [compactUpTo], Below.refl _ _⟩
  case round =>
    obtain ⟨k, hk, rfl, O, hCk, hb⟩ := hrel
    by_cases hlt : k < l.length
    · obtain ⟨b, off, rfl, p0, p1⟩ := HR.out k (by omega)
      replace p0 := below_cell p0 hb
      replace p1 := below_cell p1 hb
      have HC := hid0 (compactUpTo_succ R.toArray k)
      have EX := hid0 (getD_arr R k)
      have KN : Hid (0 < k → R.getD k (0, 0) = R.getD (k - 1) (0, 0) → keeps R.toArray k = false) := fun h1 h2 => keeps_neg h1 (by rw [getD_arr, getD_arr]; exact h2)
      have KP : Hid (R.getD k (0, 0) ≠ R.getD (k - 1) (0, 0) → keeps R.toArray k = true) := fun h2 => keeps_pos (by rw [getD_arr, getD_arr]; exact h2)
      have K0 : Hid (k = 0 → keeps R.toArray k = true) := fun h => keeps_lt_one R.toArray k (by omega)
      have hsz := hb.size
      obtain ⟨p, hpe⟩ : ∃ p, p = R.getD k (0, 0) := ⟨_, rfl⟩
      rw [← hpe] at p0 p1 KN KP EX
      clear hpe
      by_cases h0 : k = 0
      · subst h0
        have hC : Hid (compactUpTo R.toArray (0 + 1) = compactUpTo R.toArray 0 ++ [p]) := by
          unfold Hid
          rw [HC.out, K0.out rfl, if_pos rfl, EX.out]
        clear HC KN KP K0 EX
        simp only [Nat.zero_mul, Nat.add_zero] at p0 p1
        obtain ⟨so, sc, es⟩ := own_any O
        subst es
        go_wp2
        go_region
        have p0' := below_cell p0 (Gr.refl wr).drew.below
        have p1' := below_cell p1 (Gr.refl wr).drew.below
        have O' := own2_gr O ((Gr.refl _).drew)
        have hb' := hb.trans ((Gr.refl wr).drew.below.mono hb.size)
        clear O hb p0 p1
        generalize wr.drew = W2 at *
        have hsz2 := hb'.size
        generalize compactUpTo R.toArray 0 = C0 at *
        go_wp2_with (at_builtin; refine wpList_append_own _ rfl (.tmp 28) (.tmp 33) 22 rfl w1.heap.size 28 i0 (.agg #[.int .i32 0, .int .i32 0]) 2 8 Try.underlying22 hi hz0 hz1 hz2 rfl (by decide) _ C0.length _ rfl (O'.alloc _) ⟨W2.heap.size, 0, none⟩ 1 1 [.int .i32 p.1, .int .i32 p.2] rfl rfl (one_cells _ _ _) (fun u hu => by simp at hu; rcases hu with rfl | rfl <;> rfl) (by unfold maxLen; omega) (by omega) (by simp; omega) ?_)
        intro sv w2 hown1 hgrow _
        have hb2 : Below w1.heap.size w1 w2 := (hb'.alloc hsz2 _).grown hgrow (by simp; omega) (fun j hj => (O'.lt j hj).1)
        clear hgrow O' hb' p0' p1'
        go_wp2
        go_roundw
        case rel =>
          refine ⟨0 + 1, by omega, by go_num, ?_, ?_, hb2⟩
          · rw [hC.out, List.length_append, flat_one]
            exact hown1
          · rw [hC.out, List.length_append]
            show C0.length + 1 ≤ 0 + 1
            omega
        case measure => simp [intOf]; omega
      · obtain ⟨b2, off2, e2, q0, q1⟩ := HR.out (k - 1) (by omega)
        cases e2
        replace q0 := below_cell q0 hb
        replace q1 := below_cell q1 hb
        obtain ⟨q, hqe⟩ : ∃ q, q = R.getD (k - 1) (0, 0) := ⟨_, rfl⟩
        rw [← hqe] at q0 q1 KN KP
        clear hqe
        have d0 : ((k : Int) == 0) = false := by simp; omega
        have Cs := pair_cases p q
        rcases Cs with ⟨e, e1, e2⟩ | Cs
        · have kk := hid0 (KN.out (by omega) e)
          have hC : Hid (compactUpTo R.toArray (k + 1) = compactUpTo R.toArray k) := by
            unfold Hid
            rw [HC.out, kk.out, if_neg (by simp), List.append_nil]
          clear HC KN KP K0 EX kk e
          rw [e1] at p0
          rw [e2] at p1
          go_wp2
          go_region
          go_wp2
          go_roundw
          case rel =>
            refine ⟨k + 1, by omega, by go_num, ?_, ?_, hb.trans ((Gr.refl wr).drew.below.mono hb.size)⟩
            · rw [hC.out]
              exact own2_gr O ((Gr.refl _).drew)
            · rw [hC.out]; omega
          case measure => simp [intOf]; omega
        · have kk : Hid (keeps R.toArray k = true) := KP.out (by rcases Cs with ⟨e, _⟩ | ⟨e, _⟩ <;> exact e)
          have hC : Hid (compactUpTo R.toArray (k + 1) = compactUpTo R.toArray k ++ [p]) := by
            unfold Hid
            rw [HC.out, kk.out, if_pos rfl, EX.out]
          clear HC KN KP K0 EX kk
          obtain ⟨so, sc, es⟩ := own_any O
          subst es
          rcases Cs with ⟨-, k1, k2⟩ | ⟨-, k1⟩
          all_goals
            go_wp2
            go_region
            have p0' := below_cell p0 (Gr.refl wr).drew.below
            have p1' := below_cell p1 (Gr.refl wr).drew.below
            have O' := own2_gr O ((Gr.refl _).drew)
            have hb' := hb.trans ((Gr.refl wr).drew.below.mono hb.size)
            clear O hb p0 p1 q0 q1
            generalize wr.drew = W2 at *
            have hsz2 := hb'.size
            generalize compactUpTo R.toArray k = C0 at *
            go_wp2_with (at_builtin; refine wpList_append_own _ rfl (.tmp 28) (.tmp 33) 22 rfl w1.heap.size 28 i0 (.agg #[.int .i32 0, .int .i32 0]) 2 8 Try.underlying22 hi hz0 hz1 hz2 rfl (by decide) _ C0.length _ rfl (O'.alloc _) ⟨W2.heap.size, 0, none⟩ 1 1 [.int .i32 p.1, .int .i32 p.2] rfl rfl (one_cells _ _ _) (fun u hu => by simp at hu; rcases hu with rfl | rfl <;> rfl) (by unfold maxLen; omega) (by omega) (by simp; omega) ?_)
            intro sv w2 hown1 hgrow _
            have hb2 : Below w1.heap.size w1 w2 := (hb'.alloc hsz2 _).grown hgrow (by simp; omega) (fun j hj => (O'.lt j hj).1)
            clear hgrow O' hb' p0' p1'
            go_wp2
            go_roundw
            case rel =>
              refine ⟨k + 1, by omega, by go_num, ?_, ?_, hb2⟩
              · rw [hC.out, List.length_append, flat_one]
                exact hown1
              · rw [hC.out, List.length_append]
                simp; omega
            case measure => simp [intOf]; omega
    · have hkn : k = l.length := by omega
      subst hkn
      rw [HS'.out] at O
      obtain ⟨so, sc, es⟩ := own_any O
      subst es
      go_wp2
      go_ret
      exact ⟨_, rfl, own_base O hsz1, hb1.trans (hb.mono hsz1)⟩
end
section
open Go.RowKit Go.Sort Go.Lib

theorem on_bt (p a b : Int × Int) : onB p.1 p.2 a.1 a.2 b.1 b.2 = true ↔ Bt p a b ∧ cr a b p = 0 := by
  rw [on_bet, Bool.and_eq_true, Bool.and_eq_true, beq_iff_eq]
  rw [show turnI a.1 a.2 b.1 b.2 p.1 p.2 = crT a b p from rfl, (turn_cr a b p).2.2]
  unfold betB Bt
  simp only [Bool.or_eq_true, Bool.and_eq_true, decide_eq_true_eq]
theorem ok_iff (a b p : Int × Int) : OkP a b p ↔ 0 ≤ cr a b p ∧ (cr a b p = 0 → Bt p a b) := by
  unfold OkP
  rw [(turn_cr a b p).2.1, (turn_cr a b p).2.2, on_bt]
  constructor
  · rintro ⟨h1, h2⟩
    refine ⟨by omega, fun e => ?_⟩
    rcases h2 e with rfl | h
    · unfold Bt; omega
    · exact h.1
  · rintro ⟨h1, h2⟩
    exact ⟨by omega, fun e => Or.inr ⟨h2 e, e⟩⟩
theorem fol_iff (l : List (Int × Int)) (a b : Int × Int) : folB l a b = true ↔ Fol l a b := by
  unfold folB Fol
  rw [decide_eq_true_eq]
  refine and_congr_right fun _ => ⟨fun h p hp => ?_, fun h j hj => ?_⟩
  · obtain ⟨j, hj, rfl⟩ := List.getElem_of_mem hp
    have := h j hj
    have e : l.getD j (0, 0) = l[j] := by simp [List.getD, hj]
    rw [e] at this
    exact (ok_iff a b _).mp this
  · have e : l.getD j (0, 0) = l[j] := by simp [List.getD, hj]
    rw [e]
    exact (ok_iff a b _).mpr (h _ (List.getElem_mem hj))
/-- From the last of a beginning of the hull on: who follows is the next one, or the first. -/
theorem next_of {l : List (Int × Int)} {x0 : Int × Int} {xs : List (Int × Int)} (C : Cyc l x0 xs) {i : Nat} (hi : i < xs.length + 1) : ∃ q, q ∈ l ∧ Fol l ((x0 :: xs).getD i (0, 0)) q ∧ (i + 1 = xs.length + 1 → q = x0) ∧ (i + 1 < xs.length + 1 → q = (x0 :: xs).getD (i + 1) (0, 0) ∧ q ≠ x0) := by
  have e1 : x0 :: (xs ++ [x0]) = (x0 :: xs) ++ [x0] := rfl
  have hL : (x0 :: xs).length = xs.length + 1 := rfl
  generalize hX : x0 :: xs = X at *
  have hlen : (X ++ [x0]).length = xs.length + 2 := by simp [hL]
  have hlinks : Links (Fol l) (X ++ [x0]) := by rw [← e1]; exact C.links
  have d1 : X ++ [x0] = (X ++ [x0]).take i ++ (X ++ [x0])[i]'(by omega) :: (X ++ [x0])[i + 1]'(by omega) :: (X ++ [x0]).drop (i + 2) := by
    rw [← List.drop_eq_getElem_cons, ← List.drop_eq_getElem_cons, List.take_append_drop]
  have d2 : (X ++ [x0])[i]'(by omega) = X.getD i (0, 0) := by
    rw [List.getElem_append_left (by omega)]
    simp [List.getD, show i < X.length by omega]
  have hF : Fol l (X.getD i (0, 0)) ((X ++ [x0])[i + 1]'(by omega)) := by
    rw [← d2]
    rw [d1] at hlinks
    exact links_edge hlinks
  by_cases h : i + 1 = xs.length + 1
  · have e : (X ++ [x0])[i + 1]'(by omega) = x0 := by
      rw [List.getElem_append_right (by omega)]
      simp
    rw [e] at hF
    exact ⟨x0, C.sub x0 (by simp), hF, fun _ => rfl, fun h' => by omega⟩
  · have e : (X ++ [x0])[i + 1]'(by omega) = X.getD (i + 1) (0, 0) := by
      rw [List.getElem_append_left (by omega)]
      simp [List.getD, show i + 1 < X.length by omega]
    rw [e] at hF
    have hm : X.getD (i + 1) (0, 0) ∈ xs := by
      rw [← hX]
      have : i < xs.length := by omega
      simp [List.getD, this]
    exact ⟨_, C.sub _ (List.mem_cons_of_mem _ hm), hF, fun h' => absurd h' h, fun _ => ⟨rfl, fun e => C.fresh (e ▸ hm)⟩⟩
end
end Go.Proofs.Ytljdnahomhbenaa
