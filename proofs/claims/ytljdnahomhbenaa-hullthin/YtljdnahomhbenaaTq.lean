/- The reference's Thin. -/
import Derived.Test.YtljdnahomhbenaaTn2
namespace Go.Proofs.Ytljdnahomhbenaa
section
set_option linter.unusedSimpArgs false
set_option linter.unusedVariables false
open Go.RowKit Go.Sort Go.Lib Go.Shelf

theorem sorted_filter : ∀ (n : Nat) (l : List Nat), l.Pairwise (· < ·) → (∀ x ∈ l, x < n) → (List.range n).filter (fun k => decide (k ∈ l)) = l
  | 0, l, _, hb => by
    cases l with
    | nil => rfl
    | cons x r => exact absurd (hb x (by simp)) (by omega)
  | n + 1, l, hp, hb => by
    rw [List.range_succ, List.filter_append]
    by_cases h : n ∈ l
    · obtain ⟨s, t, e⟩ := List.append_of_mem h
      subst e
      have ht : t = [] := by
        cases t with
        | nil => rfl
        | cons y r =>
          rw [List.pairwise_append] at hp
          have h1 := (List.pairwise_cons.1 hp.2.1).1 y (by simp)
          have h2 := hb y (by simp)
          omega
      subst ht
      have hs : ∀ x ∈ s, x < n := fun x hx => by
        rw [List.pairwise_append] at hp
        exact hp.2.2 x hx n (by simp)
      have ih := sorted_filter n s (by rw [List.pairwise_append] at hp; exact hp.1) hs
      have e1 : (List.range n).filter (fun k => decide (k ∈ s ++ [n])) = (List.range n).filter (fun k => decide (k ∈ s)) := by
        refine List.filter_congr (fun k hk => ?_)
        rw [List.mem_range] at hk
        rw [decide_eq_decide]
        simp only [List.mem_append, List.mem_cons, List.not_mem_nil, or_false]
        constructor
        · rintro (h | h)
          · exact h
          · omega
        · exact Or.inl
      rw [e1, ih]
      simp
    · have ih := sorted_filter n l hp (fun x hx => by
        have := hb x hx
        have : x ≠ n := fun e => h (e ▸ hx)
        omega)
      rw [ih]
      simp [h]
theorem thin_sorted (V : List (Int × Int)) (tol : Int) : ∀ (n i j : Nat), j - i = n → (thinP V tol i j).Pairwise (· < ·) := by
  intro n
  induction n using Nat.strongRecOn with
  | ind n ih =>
    intro i j hn
    by_cases h : 0 < cutQ V tol i j
    · have hlt := cutQ_lt h
      rw [thin_yes h, List.pairwise_append]
      refine ⟨ih _ (by omega) i (i + cutQ V tol i j) rfl, ?_, ?_⟩
      · rw [List.pairwise_cons]
        exact ⟨fun y hy => (thin_bd V tol _ _ _ rfl y hy).1, ih _ (by omega) (i + cutQ V tol i j) j rfl⟩
      · intro x hx y hy
        have h1 := (thin_bd V tol _ _ _ rfl x hx).2
        rcases List.mem_cons.1 hy with h2 | h2
        · omega
        · have := (thin_bd V tol _ _ _ rfl y h2).1
          omega
    · rw [thin_not h]; exact List.Pairwise.nil
/-- The places that are kept. -/
def idxL (V : List (Int × Int)) (tol : Int) : List Nat := if V.length < 3 then List.range V.length else keptL V tol
theorem idx_filter (V : List (Int × Int)) (tol : Int) : (List.range V.length).filter (fun k => decide (k ∈ idxL V tol)) = idxL V tol := by
  unfold idxL
  split
  · rw [List.filter_eq_self]
    intro k hk
    exact decide_eq_true hk
  · rename_i h3
    have hb : ∀ x ∈ thinP V tol 0 (V.length - 1), 0 < x ∧ x < V.length - 1 := fun x hx => thin_bd V tol _ 0 (V.length - 1) rfl x hx
    refine sorted_filter _ _ ?_ ?_
    · unfold keptL
      rw [List.pairwise_append]
      refine ⟨List.pairwise_cons.2 ⟨fun y hy => (hb y hy).1, thin_sorted V tol _ 0 (V.length - 1) rfl⟩, List.pairwise_singleton _ _, ?_⟩
      intro x hx y hy
      simp only [List.mem_cons, List.not_mem_nil, or_false] at hy
      rcases List.mem_cons.1 hx with h | h
      · omega
      · have := (hb x h).2; omega
    · intro x hx
      unfold keptL at hx
      simp only [List.mem_append, List.mem_cons, List.not_mem_nil, or_false] at hx
      rcases hx with (h | h) | h
      · omega
      · have := (hb x h).2; omega
      · omega
theorem idx_thin {V : List (Int × Int)} {tol : Int} (h : faultF V tol = 0) : ptsAt V (idxL V tol) = thinV V tol := by
  unfold thinV idxL
  rw [if_pos h]
  by_cases h3 : V.length < 3
  · rw [if_pos h3, if_pos h3]
    unfold ptsAt
    apply List.ext_getElem
    · simp
    · intro k h1 h2
      simp [List.getD, h2]
  · rw [if_neg h3, if_neg h3]
set_option maxRecDepth 20000 in
theorem rthin_few (v kv : Value) (j tol : Int) (hj : j ≤ 1) (hj2 : -1 ≤ j) (w : World) :
    Calls Try.prog 51 #[v, .int .i64 0, .int .i64 j, .int .i64 tol, kv] w fun e w' => e = .returned (.tuple #[]) ∧ Below w.heap.size w w' := by
  have gA := (((Gr.refl w).alloc (.cells #[.bool false, .slice none 0 0] 53)).alloc (.cells #[.bool false, .slice none 0 0] 53))
  have hj' : ¬ (1 : Int) < j := by omega
  go_enter Try.func51, Try.ntmps51
  go_upto_region 2 with fail
  generalize (w.alloc (.cells #[.bool false, .slice none 0 0] 53)).alloc (.cells #[.bool false, .slice none 0 0] 53) = W1 at *
  go_wp2
  go_loopw [10, 13] (fun av kv wr => av = .int .i64 (-1) ∧ kv = .int .i64 1 ∧ wr = W1) (fun _ kv _ => 0)
  case atStart => exact ⟨rfl, rfl, rfl⟩
  case round =>
    obtain ⟨rfl, rfl, rfl⟩ := hrel
    go_upto_region 10 with fail
    refine wp_region_quiet_below (by kernel_rfl) (by kernel_rfl) ?_
    repeat (go_big_quiet_step (fail))
    refine wpQuiet_nil ?_
    rintro _ ⟨⟨dq, osq⟩, rfl⟩
    have hc := below_regrown wr dq osq
    have hb := gA.below.trans (hc.mono gA.size)
    generalize grow (redrawn wr dq) osq = W4 at *
    go_wp2
    go_returns
    exact ⟨rfl, hb⟩
theorem mark_bits {V : List (Int × Int)} {tol : Int} {C' : List Bool} (h3 : ¬ V.length < 3) (hM : Marks (List.replicate V.length false) C' (thinP V tol 0 (V.length - 1))) (k : Nat) : (C'.getD k false || decide (k = 0) || decide (k = V.length - 1)) = decide (k ∈ idxL V tol) := by
  have e : (List.replicate V.length false).getD k false = false := by
    rw [List.getD_eq_getElem?_getD]
    by_cases hk : k < V.length <;> simp [List.getElem?_replicate, hk]
  rw [hM.2, e, Bool.false_or]
  unfold idxL keptL
  rw [if_neg h3]
  simp only [List.mem_append, List.mem_cons, List.not_mem_nil, or_false, Bool.decide_or]
  cases decide (k ∈ thinP V tol 0 (V.length - 1)) <;> cases decide (k = 0) <;> cases decide (k = V.length - 1) <;> rfl
theorem few_bits {V : List (Int × Int)} {tol : Int} (h3 : V.length < 3) {k : Nat} (hk : k < V.length) : ((List.replicate V.length false).getD k false || decide (k = 0) || decide (k = V.length - 1)) = decide (k ∈ idxL V tol) := by
  have e : (List.replicate V.length false).getD k false = false := by
    rw [List.getD_eq_getElem?_getD]
    simp [List.getElem?_replicate, hk]
  rw [e]
  unfold idxL
  rw [if_pos h3, decide_eq_true (List.mem_range.2 hk), Bool.false_or, ← Bool.decide_or]
  exact decide_eq_true (by omega)
/-- What thin leaves in the row of marks. -/
theorem rthin_all (vo : Option Addr) (cv g : Nat) (V : List (Int × Int)) (tol : Int) (h0 : faultF V tol = 0) (w0 w : World) (hg : w0.heap.size ≤ g) (hP0 : Pts w0 vo V) (hP : Pts w vo V) (hB : BR w g (List.replicate V.length false)) :
    Calls Try.prog 51 #[.slice vo V.length cv, .int .i64 0, .int .i64 ((V.length : Int) - 1), .int .i64 tol, .slice (some ⟨g, 0, none⟩) V.length V.length] w fun e w' => e = .returned (.tuple #[]) ∧ ∃ C', BR w' g C' ∧ C'.length = V.length ∧ (∀ k, k < V.length → (C'.getD k false || decide (k = 0) || decide (k = V.length - 1)) = decide (k ∈ idxL V tol)) ∧ Below g w w' := by
  obtain ⟨h1, h2, h3⟩ := fault_ok h0
  have hgw := lt_of_block hB
  by_cases h : V.length < 3
  · refine (rthin_few (.slice vo V.length cv) (.slice (some ⟨g, 0, none⟩) V.length V.length) ((V.length : Int) - 1) tol (by omega) (by omega) w).mono fun e w' ⟨he, hb⟩ => ⟨he, _, hB.bl hb, by simp, fun k hk => few_bits h hk, hb.mono (Nat.le_of_lt hgw)⟩
  · obtain ⟨b, off, rfl, c0, _⟩ := hP0 0 (by omega)
    have hbg : b < g := Nat.lt_of_lt_of_le (World.block_lt_of_cell? _ _ c0) hg
    have := rthin_any b off cv g V tol h1 h3 h2 hbg _ 0 (V.length - 1) rfl (by omega) (by omega) (List.replicate V.length false) w (by simp) hP hB
    rw [show ((V.length - 1 : Nat) : Int) = (V.length : Int) - 1 by omega] at this
    refine this.mono fun e w' ⟨he, C', hC, hM, hb⟩ => ⟨he, C', hC, by rw [hM.1]; simp, fun k _ => mark_bits h hM k, hb⟩

set_option maxRecDepth 20000 in
set_option maxHeartbeats 8000000 in
theorem rThin_any (vo : Option Addr) (cv : Nat) (V : List (Int × Int)) (tol : Int) (hl : V.length ≤ 281474976710656) (w : World) (hP : Pts w vo V) :
    Calls Try.prog 22 #[.slice vo V.length cv, .int .i64 tol] w fun e w' => ∃ sv, e = .returned (.tuple #[sv, .int .i64 (faultF V tol)]) ∧ w'.ownsRow w.heap.size 28 2 sv (thinV V tol).length (flat (thinV V tol)) ∧ Below w.heap.size w w' := by
  obtain ⟨i0, hi, hz0, hz1, hz2⟩ := info_parts Try.info28
  obtain ⟨i1, hj, hy0, hy1, hy2⟩ := info_parts Try.info4
  have HP := hid0 hP
  have TA := hid0 (fun (g : Nat) (w' : World) (h0 : faultF V tol = 0) (hg : w.heap.size ≤ g) (hb : Below w.heap.size w w') (hB : BR w' g (List.replicate V.length false)) => rthin_all vo cv g V tol h0 w w' hg hP (hP.mono hb) hB)
  have TI := hid0 (fun h => idx_thin (V := V) (tol := tol) h)
  have IF := hid0 (idx_filter V tol)
  have T0 : Hid (faultF V tol ≠ 0 → thinV V tol = []) := fun h => by unfold thinV; rw [if_neg h]
  have AP : Hid (∀ k, k < V.length → latQ (V.getD k (0, 0)) = false → anyOut V = true) := fun k => any_pos
  have AN : Hid ((∀ j, j < V.length → latQ (V.getD j (0, 0)) = true) → anyOut V = false) := any_neg
  have FV : Hid (faultF V tol = if 4096 < V.length then 4 else if tol < 0 ∨ 3037000498 < tol then 2 else if anyOut V then 190 else 0) := rfl
  clear hP
  generalize thinV V tol = TV at *
  generalize faultF V tol = FA at *
  generalize idxL V tol = IX at *
  generalize anyOut V = AO at *
  obtain ⟨n, hn⟩ : ∃ n, V.length = n := ⟨_, rfl⟩
  rw [hn] at hl TA IF AP AN FV ⊢
  have HN := hid0 hn
  clear hn
  have nilWay : FA ≠ 0 → TV = [] := T0.out
  by_cases c1 : 4096 < n
  · have c1' : (n : Int) > 4096 := by omega
    have e1 : FA = 4 := by rw [FV.out, if_pos c1]
    have e2 := nilWay (by omega)
    subst e1 e2
    clear TA TI IF T0 AP AN FV nilWay
    go_enter Try.func22, Try.ntmps22
    go_wp2
    go_ret2
    exact ⟨_, rfl, World.ownsRow_nil _ _ _ _, Below.refl _ _⟩
  · have c1' : ¬ (n : Int) > 4096 := by omega
    by_cases c2 : tol < 0
    · have e1 : FA = 2 := by rw [FV.out, if_neg c1, if_pos (Or.inl c2)]
      have e2 := nilWay (by omega)
      subst e1 e2
      clear TA TI IF T0 AP AN FV nilWay
      go_enter Try.func22, Try.ntmps22
      go_wp2
      go_ret2
      exact ⟨_, rfl, World.ownsRow_nil _ _ _ _, Below.refl _ _⟩
    · by_cases c3 : 3037000498 < tol
      · have c3' : tol > 3037000498 := c3
        have e1 : FA = 2 := by rw [FV.out, if_neg c1, if_pos (Or.inr c3)]
        have e2 := nilWay (by omega)
        subst e1 e2
        clear TA TI IF T0 AP AN FV nilWay
        go_enter Try.func22, Try.ntmps22
        go_wp2
        go_ret2
        exact ⟨_, rfl, World.ownsRow_nil _ _ _ _, Below.refl _ _⟩
      · have c3' : ¬ tol > 3037000498 := c3
        have F2 : Hid (FA = if AO then 190 else 0) := by
          unfold Hid
          rw [FV.out, if_neg c1, if_neg (by omega)]
        have NW := hid0 nilWay
        clear FV nilWay T0
        go_enter Try.func22, Try.ntmps22
        go_wp2
        go_loopw [6] (fun iv wr => ∃ k : Nat, k ≤ n ∧ iv = .int .i64 k ∧ Hid (∀ j, j < k → latQ (V.getD j (0, 0)) = true) ∧ Gr w wr) (fun iv _ => n - (intOf iv).toNat)
        case atStart => exact ⟨0, by omega, rfl, (by intro j hj; omega), Gr.refl _⟩
        case round =>
          obtain ⟨k, hk, rfl, hE, hG⟩ := hrel
          by_cases hlt : k < n
          · have hlt' : (k : Int) < (n : Int) := by omega
            obtain ⟨b, off, rfl, p0, p1⟩ := HP.out k (by rw [HN.out]; exact hlt)
            replace p0 := below_cell p0 hG.below
            replace p1 := below_cell p1 hG.below
            have OU := hid0 (fun w => rin_any (V.getD k (0, 0)).1 (V.getD k (0, 0)).2 w)
            have AP' := hid0 (AP.out k hlt)
            have HE' : Hid (latQ (V.getD k (0, 0)) = true → ∀ j, j < k + 1 → latQ (V.getD j (0, 0)) = true) := fun e j hj => by
              by_cases c : j = k
              · subst c; exact e
              · exact hE.out j (by omega)
            clear hE
            have eq : latQ (V.getD k (0, 0)) = (latB (V.getD k (0, 0)).1 && latB (V.getD k (0, 0)).2) := rfl
            rw [← eq] at OU
            clear eq
            generalize latQ (V.getD k (0, 0)) = B at *
            generalize (V.getD k (0, 0)).1 = X at *
            generalize (V.getD k (0, 0)).2 = Y at *
            cases B with
            | true =>
              replace HE' := hid0 (HE'.out rfl)
              clear AP'
              go_wp2_with (go_at_call 50; refine (OU.out _).mono ?_; rintro e w1 ⟨rfl, g1⟩)
              go_roundw
              case rel => exact ⟨k + 1, by omega, by go_num, HE', hG.trans g1⟩
              case measure => simp [intOf]; omega
            | false =>
              have e0 := AP'.out rfl
              have e1 : FA = 190 := by rw [F2.out, e0]; rfl
              have e2 := NW.out (by omega)
              subst e1 e2
              clear AP' HE' AN AP TA TI IF F2 NW
              go_wp2_with (go_at_call 50; refine (OU.out _).mono ?_; rintro e w1 ⟨rfl, g1⟩)
              go_ret2
              exact ⟨_, rfl, World.ownsRow_nil _ _ _ _, (hG.trans g1).below⟩
          · have hlt' : ¬ (k : Int) < (n : Int) := by omega
            have ekn : k = n := by omega
            rw [ekn] at hE
            have e0 := AN.out hE.out
            have e1 : FA = 0 := by rw [F2.out, e0]; rfl
            have e2 := TI.out e1
            subst e1
            replace e2 := hid0 e2
            have TB := hid0 (fun g w' => TA.out g w' rfl)
            have hb := hG.below
            have hsz := hb.size
            clear AN AP TA TI F2 NW hE hG
            go_wp2_with (at_make; refine wpList_make_full _ rfl (.tmp 32) (.tmp 32) 59 rfl w.heap.size 4 i1 (.bool false) 1 Try.underlying59 hj hy0 hy1 .i64 .i64 _ _ n rfl rfl (by omega) (by omega) (by rw [hy2]; omega) (by unfold maxLen; omega) hsz ?_)
            intro w3 hown hgrow
            have hbg : Below wr.heap.size wr w3 := (Below.refl wr.heap.size wr).grown hgrow (Nat.le_refl _) (fun j hj => by cases hj)
            have B3 := hid0 (BR.new hown)
            replace hb := hb.trans (hbg.mono hb.size)
            clear hown hgrow hbg
            obtain ⟨g, hg⟩ : ∃ g, g = wr.heap.size := ⟨_, rfl⟩
            rw [← hg] at B3 hsz ⊢
            clear hg
            have T51 := hid0 (TB.out g w3 hsz hb B3.out)
            clear TB B3
            go_upto_region 12 with (go_at_call 51; refine T51.out.mono ?_; rintro e w4 ⟨rfl, C4, B4, L4, M4, g4⟩; clear T51)
            replace hb := hb.trans (g4.mono hsz)
            replace B4 := hid0 B4
            replace M4 := hid0 M4
            replace L4 := hid0 L4
            clear g4
            have hsz4 := hb.size
            go_wp2
            go_loopw [8, 9] (fun ov iv wr => ∃ k : Nat, k ≤ n ∧ iv = .int .i64 k ∧ wr.ownsRow w4.heap.size 28 2 ov ((List.range k).filter (fun q => decide (q ∈ IX))).length (flat (ptsAt V ((List.range k).filter (fun q => decide (q ∈ IX))))) ∧ Below w4.heap.size w4 wr) (fun _ iv _ => n - (intOf iv).toNat)
            case atStart => exact ⟨0, by omega, rfl, World.ownsRow_nil _ _ _ _, Below.refl _ _⟩
            case round =>
              obtain ⟨k, hk, rfl, O5, h5⟩ := hrel
              obtain ⟨so, c5, rfl⟩ := own_any O5
              by_cases hlt : k < n
              · have hlt' : (k : Int) < (n : Int) := by omega
                have hlen : ((List.range k).filter (fun q => decide (q ∈ IX))).length ≤ k := by
                  have := List.length_filter_le (fun q => decide (q ∈ IX)) (List.range k)
                  rw [List.length_range] at this
                  exact this
                have FQ : Hid ((List.range (k + 1)).filter (fun q => decide (q ∈ IX)) = (List.range k).filter (fun q => decide (q ∈ IX)) ++ (if decide (k ∈ IX) = true then [k] else [])) := by
                  unfold Hid
                  rw [List.range_succ, List.filter_append]
                  congr 1
                  cases h : decide (k ∈ IX) <;> simp [List.filter, h]
                have ck := BR.at (Hs.bl B4.out h5) (i := k) (by rw [L4.out]; exact hlt)
                have MK := hid0 (M4.out k hlt)
                obtain ⟨x, hx⟩ : ∃ x, C4.getD k false = x := ⟨_, rfl⟩
                rw [hx] at ck MK
                clear hx
                generalize decide (k ∈ IX) = PB at *
                generalize (List.range k).filter (fun q => decide (q ∈ IX)) = FL at *
                go_upto_region 16 with fail
                go_cut [61] (fun v wz => v = .bool PB ∧ wz = wr)
                case first =>
                  clear FQ O5 h5
                  cases x with
                  | true =>
                    have e : PB = true := by rw [← MK.out]; rfl
                    clear MK
                    go_wp2
                    go_meet
                    case rel => exact ⟨by rw [e], rfl⟩
                  | false =>
                    by_cases h1 : k = 0
                    · have e : PB = true := by rw [← MK.out, decide_eq_true h1]; rfl
                      have h1' : ((k : Int) == 0) = true := by simp [h1]
                      clear MK h1
                      go_wp2
                      go_meet
                      case rel => exact ⟨by rw [e], rfl⟩
                    · have h1' : ((k : Int) == 0) = false := beq_eq_false_iff_ne.2 (by omega)
                      by_cases h2 : k = n - 1
                      · have e : PB = true := by rw [← MK.out, decide_eq_false h1, decide_eq_true h2]; rfl
                        have h2' : ((k : Int) == (n : Int) - 1) = true := beq_iff_eq.2 (by omega)
                        clear MK h1 h2
                        go_wp2
                        go_meet
                        case rel => exact ⟨by rw [e], rfl⟩
                      · have e : PB = false := by rw [← MK.out, decide_eq_false h1, decide_eq_false h2]; rfl
                        have h2' : ((k : Int) == (n : Int) - 1) = false := beq_eq_false_iff_ne.2 (by omega)
                        clear MK h1 h2
                        go_wp2
                        go_meet
                        case rel => exact ⟨by rw [e], rfl⟩
                obtain ⟨rfl, rfl⟩ := hcut
                clear ck MK
                cases PB with
                | true =>
                  obtain ⟨b, off, e, p0, p1⟩ := (HP.out.mono (hb.trans (h5.mono hsz4))) k (by rw [HN.out]; exact hlt)
                  subst e
                  obtain ⟨q, hq⟩ : ∃ q, V.getD k (0, 0) = q := ⟨_, rfl⟩
                  rw [hq] at p0 p1
                  have HQ := hid0 hq
                  clear hq
                  have hsz5 := h5.size
                  go_wp2_with (at_builtin; refine wpList_append_own _ rfl (.tmp 62) (.tmp 67) 22 rfl w4.heap.size 28 i0 (.agg #[.int .i32 0, .int .i32 0]) 2 8 Try.underlying22 hi hz0 hz1 hz2 rfl (by decide) _ FL.length _ rfl (O5.alloc _) ⟨wc.heap.size, 0, none⟩ 1 1 [.int .i32 q.1, .int .i32 q.2] rfl rfl (one_cells _ _ _) (fun u hu => by simp at hu; rcases hu with rfl | rfl <;> rfl) (by unfold maxLen; omega) (by omega) (by simp; omega) ?_)
                  intro sv w5 hown1 hgrow _
                  have hb5 : Below w4.heap.size w4 w5 := (h5.alloc hsz5 _).grown hgrow (by simp; omega) (fun j hj => (O5.lt j hj).1)
                  clear hgrow O5 h5 p0 p1
                  go_wp2
                  go_roundw
                  case rel =>
                    refine ⟨k + 1, by omega, by go_num, ?_, hb5⟩
                    have FQ' := FQ.out
                    simp only [if_true] at FQ'
                    rw [FQ', ptsAt_one, flat_one, List.length_append, HQ.out]
                    exact hown1
                  case measure => simp [intOf]; omega
                | false =>
                  go_wp2
                  go_roundw
                  case rel =>
                    refine ⟨k + 1, by omega, by go_num, ?_, h5⟩
                    rw [FQ.out, if_neg (by simp), List.append_nil]
                    exact O5
                  case measure => simp [intOf]; omega
              · have hlt' : ¬ (k : Int) < (n : Int) := by omega
                have ek : k = n := by omega
                subst ek
                obtain ⟨F, hF⟩ : ∃ F, (List.range k).filter (fun q => decide (q ∈ IX)) = F := ⟨_, rfl⟩
                rw [hF] at O5 IF ⊢
                clear hF
                have e3 : IX = F := IF.out.symm
                subst e3
                clear IF M4
                have eT := e2.out
                go_wp2
                go_ret2
                refine ⟨_, rfl, ?_, hb.trans (h5.mono hsz4)⟩
                rw [← eT, ptsAt_len]
                exact own_low O5 hsz4
end
end Go.Proofs.Ytljdnahomhbenaa
