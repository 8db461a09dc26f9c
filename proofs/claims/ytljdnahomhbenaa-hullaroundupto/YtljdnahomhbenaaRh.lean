/- The reference's Hull. -/
import Derived.Test.YtljdnahomhbenaaHuRJ
namespace Go.Proofs.Ytljdnahomhbenaa
section
set_option linter.unusedSimpArgs false
open Go.RowKit Go.Sort Go.Lib Go.Shelf

theorem hull_few {l : List (Int × Int)} (h : Asc l) (h3 : l.length < 3) : hullL l = l := by
  cases l with
  | nil => rfl
  | cons a r => cases r with
    | nil => rfl
    | cons b r => cases r with
      | nil => exact hull_flat h (by simp) rfl rfl (fun p hp => by
          simp at hp
          rcases hp with rfl | rfl
          · unfold cr; grind
          · unfold cr; grind)
      | cons c r => simp at h3; omega
def flatB (l : List (Int × Int)) (k : Nat) : Bool := decide (∀ j, j < k → crT (l.getD 0 (0, 0)) (l.getD (l.length - 1) (0, 0)) (l.getD j (0, 0)) = 0)
theorem flat_succ (l : List (Int × Int)) (k : Nat) : flatB l (k + 1) = if crT (l.getD 0 (0, 0)) (l.getD (l.length - 1) (0, 0)) (l.getD k (0, 0)) = 0 then flatB l k else false := by
  unfold flatB
  rw [Bool.eq_iff_iff, decide_eq_true_eq]
  split
  · rename_i h
    rw [decide_eq_true_eq]
    refine ⟨fun x j hj => x j (by omega), fun x j hj => ?_⟩
    by_cases e : j = k
    · subst e; exact h
    · exact x j (by omega)
  · rename_i h
    simp only [Bool.false_eq_true, iff_false]
    exact fun x => h (x k (by omega))
theorem flat_yes {l : List (Int × Int)} (h : Asc l) (h2 : 2 ≤ l.length) (hf : flatB l l.length = true) : hullL l = [l.getD 0 (0, 0), l.getD (l.length - 1) (0, 0)] := by
  unfold flatB at hf
  rw [decide_eq_true_eq] at hf
  refine hull_flat h h2 ?_ ?_ fun p hp => ?_
  · cases l with
    | nil => simp at h2
    | cons a r => rfl
  · rw [List.getLast?_eq_getElem?, List.getElem?_eq_getElem (by omega)]
    simp [List.getD, show l.length - 1 < l.length by omega]
  · obtain ⟨j, hj, rfl⟩ := List.getElem_of_mem hp
    have := hf j hj
    rw [(turn_cr _ _ _).2.2] at this
    simpa [List.getD, hj] using this
theorem getD_eq (l : List (Int × Int)) (i : Nat) (h : i < l.length) : l.getD i (0, 0) = l[i] := by simp [List.getD, h]
theorem own_new {w : World} {D : List (Int × Int)} {n : Nat} (base : Nat) (o : Obj) (ho : o = .cells (flat D).toArray 28 (0, 0)) (hn : D.length = n) (hb : base ≤ w.heap.size) (hm : n ≤ maxLen) : (w.alloc o).ownsRow base 28 2 (.slice (some ⟨w.heap.size, 0, none⟩) n n) n (flat D) := by
  have := heap_alloc_new w o
  rw [ho] at this ⊢
  exact OwnP.of_heap this hn hb hm

set_option maxRecDepth 20000 in
set_option maxHeartbeats 8000000 in
theorem rhull_any (vo : Option Addr) (cv : Nat) (l : List (Int × Int)) (w : World) (hl : l.length ≤ 8796093021952) (h32 : ∀ p ∈ l, in2 p) (hP : Pts w vo l) :
    Calls Try.prog 10 #[.slice vo l.length cv] w fun e w' => ∃ sv, e = .returned sv ∧ w'.ownsRow w.heap.size 28 2 sv (hullL (srt l)).length (flat (hullL (srt l))) ∧ Below w.heap.size w w' := by
  obtain ⟨i0, hi, hz0, hz1, hz2⟩ := info_parts Try.info28
  have L1 := hid0 (once_any vo cv l w (by omega) hP)
  have H32 : Hid (∀ p ∈ srt l, in2 p) := fun p hp => h32 p ((srt_mem l p).mp hp)
  have HA := hid0 (srt_asc l)
  have hm := Nat.le_trans (srt_len l) hl
  generalize srt l = S at *
  clear hP h32
  obtain ⟨H, hH⟩ : ∃ H, hullL S = H := ⟨_, rfl⟩
  have HH := hid0 hH
  rw [hH]
  clear hH
  go_enter Try.func10, Try.ntmps10
  go_wp2_with fail
  refine L1.out.mono ?_
  rintro e w1 ⟨sv, rfl, O1, hb1⟩
  obtain ⟨so, sc, rfl, PS, -, -⟩ := own_pts O1
  have HP := hid0 PS
  have hsz1 := hb1.size
  clear L1 PS
  by_cases h3 : S.length < 3
  · have e : H = S := by rw [← HH.out, hull_few HA.out h3]
    subst e
    go_wp2
    go_ret
    exact ⟨_, rfl, O1, hb1⟩
  · clear O1
    have P0 := HP.out 0 (by omega)
    have PL := HP.out (S.length - 1) (by omega)
    obtain ⟨b, off, rfl, a0, a1⟩ := P0
    obtain ⟨b', off', eb, c0, c1⟩ := PL
    cases eb
    simp only [Nat.zero_mul, Nat.add_zero] at a0 a1
    have hp0 : Hid (in2 (S.getD 0 (0, 0))) := H32.out _ (by simp [List.getD, show 0 < S.length by omega])
    have hpL : Hid (in2 (S.getD (S.length - 1) (0, 0))) := H32.out _ (by simp [List.getD, show S.length - 1 < S.length by omega])
    have Fz := hid0 (flat_succ S)
    have FY := hid0 (flat_yes HA.out (by omega))
    have F0 : Hid (flatB S 0 = true) := by unfold Hid flatB; simp
    obtain ⟨p0, hp0e⟩ : ∃ p, p = S.getD 0 (0, 0) := ⟨_, rfl⟩
    obtain ⟨pL, hpLe⟩ : ∃ p, p = S.getD (S.length - 1) (0, 0) := ⟨_, rfl⟩
    have HP0 := hid0 hp0e
    rw [← hp0e] at a0 a1 hp0 Fz FY
    rw [← hpLe] at c0 c1 hpL Fz FY
    clear hp0e hpLe
    go_wp2
    go_loopw [4, 5] (fun s i wr => ∃ k : Nat, k ≤ S.length ∧ i = .int .i64 k ∧ s = .bool (flatB S k) ∧ Below w1.heap.size w1 wr) (fun _ i _ => S.length - (intOf i).toNat)
    case atStart => exact ⟨0, by omega, rfl, by rw [F0.out], Below.refl _ _⟩
    case round =>
      clear F0
      obtain ⟨k, hk, rfl, rfl, hb⟩ := hrel
      by_cases hlt : k < S.length
      · obtain ⟨b', off', eb, q0, q1⟩ := HP.out k hlt
        cases eb
        have z0 := fun d os => cell_regrown (below_cell a0 hb) d os
        have z1 := fun d os => cell_regrown (below_cell a1 hb) d os
        have z2 := fun d os => cell_regrown (below_cell c0 hb) d os
        have z3 := fun d os => cell_regrown (below_cell c1 hb) d os
        have z4 := fun d os => cell_regrown (below_cell q0 hb) d os
        have z5 := fun d os => cell_regrown (below_cell q1 hb) d os
        have hq : Hid (in2 (S.getD k (0, 0))) := H32.out _ (by simp [List.getD, hlt])
        have Fz' := hid0 (Fz.out k)
        obtain ⟨q, hqe⟩ : ∃ q, q = S.getD k (0, 0) := ⟨_, rfl⟩
        rw [← hqe] at z4 z5 hq Fz'
        clear hqe q0 q1
        have T : Hid (∀ d os, Calls Try.prog 25 #[pt p0.1 p0.2, pt pL.1 pL.2, pt q.1 q.2] (grow (redrawn wr d) os) fun e w' => e = .returned (.int .i64 (crT p0 pL q)) ∧ ∃ p : Regrown, w' = grow (redrawn wr p.d) p.os) := fun d os => Calls.regrown_of (rturn_any _ _ _ _ _ _ hp0.out.1 hp0.out.2 hpL.out.1 hpL.out.2 hq.out.1 hq.out.2 _)
        obtain ⟨t, hte⟩ : ∃ t, t = crT p0 pL q := ⟨_, rfl⟩
        rw [← hte] at T Fz'
        clear hte
        generalize flatB S k = fl at *
        go_upto_region 8 with fail
        refine wp_region_quiet_below (by kernel_rfl) (by kernel_rfl) ?_
        repeat (go_big_quiet_step (first | exact T.out _ _))
        refine wpQuiet_nil ?_
        rintro _ ⟨⟨dq, osq⟩, rfl⟩
        have hc := below_regrown wr dq osq
        replace hb := hb.trans (hc.mono hb.size)
        clear z0 z1 z2 z3 z4 z5 T hc
        generalize grow (redrawn wr dq) osq = W2 at *
        by_cases ht : t = 0
        · subst ht
          have fe := Fz'.out
          rw [if_pos rfl] at fe
          have FE := hid0 fe
          clear fe Fz'
          go_wp2
          go_roundw
          case rel => exact ⟨k + 1, by omega, by go_num, by rw [FE.out], hb⟩
          case measure => simp [intOf]; omega
        · have fe := Fz'.out
          rw [if_neg ht] at fe
          have FE := hid0 fe
          clear fe Fz'
          have ht' : (t == 0) = false := by simpa using ht
          go_wp2
          go_roundw
          case rel => exact ⟨k + 1, by omega, by go_num, by rw [FE.out], hb⟩
          case measure => simp [intOf]; omega
      · have hkn : k = S.length := by omega
        subst hkn
        clear Fz
        obtain ⟨fl, hfl⟩ : ∃ fl, flatB S S.length = fl := ⟨_, rfl⟩
        rw [hfl] at FY ⊢
        clear hfl
        cases fl with
        | true =>
          have e : H = [p0, pL] := by rw [← HH.out, FY.out rfl]
          subst e
          have y0 := below_cell a0 hb
          have y1 := below_cell a1 hb
          have y2 := below_cell c0 hb
          have y3 := below_cell c1 hb
          go_wp2
          go_region
          go_wp2
          go_ret
          have hsz := hb.size
          have gd := (Gr.refl wr).drew
          refine ⟨_, rfl, own2_gr (own_new (D := [p0, pL]) w.heap.size _ rfl rfl (by omega) (by decide)) ((Gr.refl _).drew), ?_⟩
          exact hb1.trans ((hb.trans ((((Gr.refl wr).alloc _).drew).below.mono hb.size)).mono hsz1)
        | false =>
          obtain ⟨x0, xs, e0, eH, C⟩ := hull_cyc HA.out (by omega)
          have HC := hid0 C
          have hx0 : Hid (p0 = x0) := by
            unfold Hid
            rw [HP0.out]
            cases S with
            | nil => simp at h3
            | cons y r => simpa using e0
          have hHe : Hid (H = x0 :: xs) := HH.out.symm.trans eH
          have hHl : xs.length + 1 ≤ S.length := cyc_len C
          have hHn : Hid (H.length = xs.length + 1) := by unfold Hid; rw [hHe.out]; rfl
          clear C eH e0 FY
          have y0 := below_cell a0 hb
          have y1 := below_cell a1 hb
          have hsz := hb.size
          go_upto_region 13 with fail
          have O2 := own_new (w := wr) (D := [p0]) (n := 1) w1.heap.size (.cells #[.int .i32 p0.1, .int .i32 p0.2] 28) rfl rfl (by omega) (by decide)
          have hb2 := hb.alloc hsz (.cells #[.int .i32 p0.1, .int .i32 p0.2] 28)
          have e1 : Hid ([p0] = H.take 1) := by unfold Hid; rw [hHe.out, hx0.out]; rfl
          clear hb y0 y1
          generalize wr.alloc (.cells #[.int .i32 p0.1, .int .i32 p0.2] 28) = W1 at *
          go_loopw [6] (fun s wr => ∃ k : Nat, 1 ≤ k ∧ k ≤ xs.length + 1 ∧ wr.ownsRow w1.heap.size 28 2 s k (flat (H.take k)) ∧ Below w1.heap.size w1 wr) (fun s _ => S.length + 1 - lenV s)
          case atStart => exact ⟨1, Nat.le_refl _, by omega, by rw [← e1.out]; exact O2, hb2⟩
          case round =>
            clear O2 hb2 e1 hsz
            obtain ⟨k, hk1, hk, O, hb⟩ := hrel
            obtain ⟨g, cap, rfl, hcap, hgb⟩ := own_shape2 O (by omega)
            have OP : OwnP _ w1.heap.size g k cap (H.take k) := O
            obtain ⟨x0', x1', _, _⟩ := OP.at (k - 1) (by omega)
            have eA : (H.take k).getD (k - 1) (0, 0) = (x0 :: xs).getD (k - 1) (0, 0) := by
              rw [← hHe.out]
              have : k - 1 < k := by omega
              simp [List.getD, this]
            rw [eA] at x0' x1'
            obtain ⟨q, hqm, hqF, hqE, hqN⟩ := next_of HC.out (i := k - 1) (by omega)
            have hA32 : Hid (in2 ((x0 :: xs).getD (k - 1) (0, 0))) := by
              have hm' : (x0 :: xs).getD (k - 1) (0, 0) ∈ x0 :: xs := by
                have : k - 1 < (x0 :: xs).length := by simp; omega
                rw [getD_eq _ _ this]
                exact List.getElem_mem this
              exact H32.out _ (HC.out.sub _ hm')
            have UQ : Hid (∀ p, p ∈ S → folB S ((x0 :: xs).getD (k - 1) (0, 0)) p = true → p = q) := fun p hp hf => fol_unique ((fol_iff _ _ _).mp hf) hqF hp hqm
            have EQ : Hid (folB S ((x0 :: xs).getD (k - 1) (0, 0)) q = true) := (fol_iff _ _ _).mpr hqF
            obtain ⟨a, hae⟩ : ∃ a, a = (x0 :: xs).getD (k - 1) (0, 0) := ⟨_, rfl⟩
            rw [← hae] at x0' x1' hA32 UQ EQ
            have QE : Hid (k = xs.length + 1 → q = x0) := fun h => hqE (by omega)
            have QN : Hid (k < xs.length + 1 → q ≠ x0 ∧ H.take (k + 1) = H.take k ++ [q]) := fun h => by
              obtain ⟨h1, h2⟩ := hqN (by omega)
              refine ⟨h2, ?_⟩
              rw [h1, show k - 1 + 1 = k by omega, ← hHe.out]
              have hlt : k < H.length := by rw [hHn.out]; exact h
              rw [← List.take_append_getElem hlt]
              simp [List.getD, hlt]
            have MQ := hid0 hqm
            clear hqF hqE hqN hae eA OP hqm
            have hsz := hb.size
            have hle : decide ((k : Int) ≤ (S.length : Int)) = true := decide_eq_true (by omega)
            go_upto_region 15 with fail
            have hB := heap_alloc_new wr (.cells #[.int .i32 a.1, .int .i32 a.2] 28)
            have O3 := O.alloc (.cells #[.int .i32 a.1, .int .i32 a.2] 28)
            have hb3 := hb.alloc hsz (.cells #[.int .i32 a.1, .int .i32 a.2] 28)
            obtain ⟨bq, hbq⟩ : ∃ bq, bq = wr.heap.size := ⟨_, rfl⟩
            rw [← hbq] at hB ⊢
            clear hbq O hb x0' x1'
            generalize wr.alloc (.cells #[.int .i32 a.1, .int .i32 a.2] 28) = W3 at *
            have v0 : W3.cell? ⟨bq, 0, none⟩ = some (.int .i32 a.1) := by simp [World.cell?, hB]
            have v1 : W3.cell? ⟨bq, 1, none⟩ = some (.int .i32 a.2) := by simp [World.cell?, hB]
            clear hB
            go_wp2
            go_loopw [6, 8] (fun s6 i wz => ∃ j : Nat, s6 = .slice (some ⟨g, 0, none⟩) k cap ∧ j ≤ S.length ∧ i = .int .i64 j ∧ Hid (∀ t, t < j → folB S a (S.getD t (0, 0)) = false) ∧ Below W3.heap.size W3 wz) (fun _ i _ => S.length - (intOf i).toNat)
            case atStart => exact ⟨0, rfl, by omega, rfl, (by intro t ht; omega), Below.refl _ _⟩
            case round =>
              obtain ⟨j, rfl, hj, rfl, hN, hbz⟩ := hrel
              by_cases hlt : j < S.length
              · obtain ⟨b', off', eb, q0, q1⟩ := HP.out j hlt
                cases eb
                have hbW := hb3.trans (hbz.mono hb3.size)
                have PSz := HP.out.mono hbW
                have hp : Hid (S.getD j (0, 0) ∈ S) := by unfold Hid; simp [List.getD, hlt]
                have FO : Hid (∀ d os, Calls Try.prog 28 #[.slice (some ⟨b, off, none⟩) S.length sc, pt a.1 a.2, pt (S.getD j (0, 0)).1 (S.getD j (0, 0)).2] (grow (redrawn wr d) os) fun e w' => e = .returned (.bool (folB S a (S.getD j (0, 0)))) ∧ ∃ p : Regrown, w' = grow (redrawn wr p.d) p.os) := fun d os => Calls.regrown_of (follows_any (some ⟨b, off, none⟩) sc S a (S.getD j (0, 0)) _ (by omega) H32.out hA32.out (H32.out _ hp.out) (PSz.mono (below_regrown wr d os)))
                have z0 := fun d os => cell_regrown (below_cell v0 hbz) d os
                have z1 := fun d os => cell_regrown (below_cell v1 hbz) d os
                have z2 := fun d os => cell_regrown (below_cell q0 hbW) d os
                have z3 := fun d os => cell_regrown (below_cell q1 hbW) d os
                have U1 : Hid (folB S a (S.getD j (0, 0)) = true → S.getD j (0, 0) = q) := UQ.out _ hp.out
                have U2 : Hid (folB S a (S.getD j (0, 0)) = false → ∀ t, t < j + 1 → folB S a (S.getD t (0, 0)) = false) := fun h t ht => by
                  by_cases e : t = j
                  · subst e; exact h
                  · exact hN.out t (by omega)
                obtain ⟨p, hpe⟩ : ∃ p, p = S.getD j (0, 0) := ⟨_, rfl⟩
                rw [← hpe] at q0 q1 FO z2 z3 U1 U2
                obtain ⟨f, hf⟩ : ∃ f, f = folB S a p := ⟨_, rfl⟩
                rw [← hf] at FO U1 U2
                clear hpe hf hN hp PSz
                go_upto_region 18 with fail
                refine wp_region_quiet_below (by kernel_rfl) (by kernel_rfl) ?_
                repeat (go_big_quiet_step (first | exact FO.out _ _))
                refine wpQuiet_nil ?_
                rintro _ ⟨⟨dq, osq⟩, rfl⟩
                have hc := below_regrown wr dq osq
                replace hbz := hbz.trans (hc.mono hbz.size)
                clear z0 z1 z2 z3 FO hc hbW
                generalize grow (redrawn wr dq) osq = W4 at *
                cases f with
                | false =>
                  have U3 := hid0 (U2.out rfl)
                  clear U1 U2
                  go_wp2
                  go_roundw
                  case rel => exact ⟨j + 1, rfl, by omega, by go_num, U3, hbz⟩
                  case measure => simp [intOf]; omega
                | true =>
                  have hpq : p = q := U1.out rfl
                  subst hpq
                  clear U1 U2
                  have hbW := hb3.trans (hbz.mono hb3.size)
                  have y0 := below_cell a0 hbW
                  have y1 := below_cell a1 hbW
                  have y2 := below_cell q0 hbW
                  have y3 := below_cell q1 hbW
                  have O4 := own_below O3 hbz
                  by_cases hkn : k = xs.length + 1
                  · have e : p = x0 := QE.out hkn
                    have e' : p = p0 := e.trans hx0.out.symm
                    subst e'
                    have fin : H.take k = H := List.take_of_length_le (by rw [hHn.out]; omega)
                    rw [fin] at O4
                    have fl : H.length = k := by rw [hHn.out, hkn]
                    go_wp2
                    go_region
                    go_wp2
                    go_ret
                    refine ⟨_, rfl, ?_, ?_⟩
                    · rw [fl]
                      exact own_base (own2_gr O4 ((Gr.refl _).drew)) hsz1
                    · exact hb1.trans ((hbW.trans ((Gr.refl _).drew.below.mono hbW.size)).mono hsz1)
                  · obtain ⟨n1, n2⟩ := QN.out (by omega)
                    have N2 := hid0 n2
                    have Cs := pair_cases p p0
                    have hne : p ≠ p0 := fun e => n1 (e.trans hx0.out)
                    clear n1 n2 QE QN
                    rcases Cs with ⟨e, -, -⟩ | Cs
                    · exact absurd e hne
                    · rcases Cs with ⟨-, k1, k2⟩ | ⟨-, k1⟩
                      all_goals
                        go_wp2
                        go_region
                        have O5 := own2_gr O4 ((Gr.refl _).drew)
                        have hb5 := hbW.trans ((Gr.refl W4).drew.below.mono hbW.size)
                        have w2 := below_cell y2 (Gr.refl W4).drew.below
                        have w3 := below_cell y3 (Gr.refl W4).drew.below
                        clear O4 hbW y0 y1 y2 y3 hbz
                        generalize W4.drew = W5 at *
                        have hsz5 := hb5.size
                        go_wp2_with (at_builtin; refine wpList_append_own _ rfl (.tmp 84) (.tmp 89) 22 rfl w1.heap.size 28 i0 (.agg #[.int .i32 0, .int .i32 0]) 2 8 Try.underlying22 hi hz0 hz1 hz2 rfl (by decide) _ k _ rfl (O5.alloc _) ⟨W5.heap.size, 0, none⟩ 1 1 [.int .i32 p.1, .int .i32 p.2] rfl rfl (one_cells _ _ _) (fun u hu => by simp at hu; rcases hu with rfl | rfl <;> rfl) (by unfold maxLen; omega) (by omega) (by simp; omega) ?_)
                        intro sv w6 hown1 hgrow _
                        have hb6 : Below w1.heap.size w1 w6 := (hb5.alloc hsz5 _).grown hgrow (by simp; omega) (fun j hj => (O5.lt j hj).1)
                        clear hgrow O5 hb5 w2 w3
                        have fin : w6.ownsRow w1.heap.size 28 2 sv (k + 1) (flat (H.take (k + 1))) := by
                          rw [N2.out, flat_one]
                          exact hown1
                        clear hown1
                        obtain ⟨s6, c6, es6⟩ := own_any fin
                        subst es6
                        go_wp2
                        go_roundw
                        case rel => exact ⟨k + 1, by omega, by omega, fin, hb6⟩
                        case measure => simp [lenV]; omega
              · exfalso
                have hj' : j = S.length := by omega
                obtain ⟨t, ht, e⟩ := List.getElem_of_mem MQ.out
                have := hN.out t (by omega)
                rw [show S.getD t (0, 0) = S[t] by simp [List.getD, ht], e, EQ.out] at this
                cases this
end
end Go.Proofs.Ytljdnahomhbenaa
