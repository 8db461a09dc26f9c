/- HullThin: the law's walk. -/
import Derived.Test.YtljdnahomhbenaaTq
import Derived.Test.YtljdnahomhbenaaKp
import Derived.Maps.AppendAt
namespace Go.Proofs.Ytljdnahomhbenaa
section
set_option linter.unusedSimpArgs false
set_option linter.unusedVariables false
open Go.RowKit Go.Sort Go.Lib Go.Shelf

theorem ext_getT {l m : List (Int × Int)} (hn : l.length = m.length) (h : ∀ j, j < l.length → l.getD j (0, 0) = m.getD j (0, 0)) : l = m := by
  refine List.ext_getElem hn fun i h1 h2 => ?_
  have := h i h1
  simpa [List.getD, h1, h2] using this
set_option maxRecDepth 20000 in
set_option maxHeartbeats 4000000 in
theorem same12_thin (ao bo : Option Addr) (ca cb : Nat) (l m : List (Int × Int)) (w : World) (hl : l.length ≤ 281474976710656) (ha : Pts w ao l) (hb : Pts w bo m) :
    Calls Try.prog 12 #[.slice ao l.length ca, .slice bo m.length cb] w fun e w' => e = .returned (.bool (decide (l = m))) ∧ Gr w w' := by
  have HA := hid0 ha
  have HB := hid0 hb
  clear ha hb
  by_cases hn : l.length = m.length
  · have HT : Hid ((∀ j, j < l.length → l.getD j (0, 0) = m.getD j (0, 0)) → decide (l = m) = true) := fun h => decide_eq_true (ext_getT hn h)
    have HF : Hid (∀ j, j < l.length → l.getD j (0, 0) ≠ m.getD j (0, 0) → decide (l = m) = false) := fun j _ h => decide_eq_false (fun e => h (by rw [e]))
    generalize decide (l = m) = R at *
    have HB' : Hid (∀ i, i < l.length → ∃ b off, bo = some ⟨b, off, none⟩ ∧ w.cell? ⟨b, off + i * 2, none⟩ = some (.int .i32 (m.getD i (0, 0)).1) ∧ w.cell? ⟨b, off + i * 2 + 1, none⟩ = some (.int .i32 (m.getD i (0, 0)).2)) := fun i hi => HB.out i (by omega)
    rw [← hn]
    clear HB
    go_enter Try.func12, Try.ntmps12
    go_wp2
    go_loopw [5] (fun i wr => ∃ k : Nat, k ≤ l.length ∧ i = .int .i64 k ∧ Hid (∀ j, j < k → l.getD j (0, 0) = m.getD j (0, 0)) ∧ Gr w wr) (fun i _ => l.length - (intOf i).toNat)
    case atStart => exact ⟨0, by omega, rfl, (by intro j hj; omega), Gr.refl _⟩
    case round =>
      obtain ⟨k, hk, rfl, hE, hG⟩ := hrel
      by_cases hlt : k < l.length
      · obtain ⟨b, off, rfl, p0, p1⟩ := HA.out k hlt
        obtain ⟨b2, off2, rfl, q0, q1⟩ := HB'.out k hlt
        replace p0 := below_cell p0 hG.below
        replace p1 := below_cell p1 hG.below
        replace q0 := below_cell q0 hG.below
        replace q1 := below_cell q1 hG.below
        have C := pair_cases (l.getD k (0, 0)) (m.getD k (0, 0))
        have HF' := hid0 (HF.out k hlt)
        have HE' : Hid (l.getD k (0, 0) = m.getD k (0, 0) → ∀ j, j < k + 1 → l.getD j (0, 0) = m.getD j (0, 0)) := fun e j hj => by
          by_cases c : j = k
          · subst c; exact e
          · exact hE.out j (by omega)
        clear HF hE
        generalize (l.getD k (0, 0)).1 = X at *
        generalize (l.getD k (0, 0)).2 = Y at *
        generalize (m.getD k (0, 0)).1 = X' at *
        generalize (m.getD k (0, 0)).2 = Y' at *
        rcases C with ⟨e, rfl, rfl⟩ | ⟨e, b1, b2⟩ | ⟨e, b1⟩
        · replace HE' := hid0 (HE'.out e)
          clear HF' e
          go_wp2
          go_region
          go_wp2
          go_roundw
          case rel => exact ⟨k + 1, by omega, by go_num, HE', hG.drew⟩
          case measure => simp [intOf]; omega
        all_goals
          have eF := hid0 (HF'.out e)
          clear HF' HE' e HT
          go_wp2
          go_region
          go_wp2
          go_ret
          exact ⟨by rw [eF.out]; rfl, hG.drew⟩
      · obtain rfl : k = l.length := by omega
        have eT := hid0 (HT.out hE.out)
        clear HT HF
        go_wp2
        go_ret
        exact ⟨by rw [eT.out]; rfl, hG⟩
  · have eF : decide (l = m) = false := decide_eq_false (fun e => hn (by rw [e]))
    rw [eF]
    have hn' : ((l.length : Int) == (m.length : Int)) = false := beq_eq_false_iff_ne.2 (by omega)
    clear HA HB eF
    go_enter Try.func12, Try.ntmps12
    go_wp2
    go_ret
    exact ⟨rfl, Gr.refl _⟩
set_option maxRecDepth 20000 in
set_option maxHeartbeats 4000000 in
theorem same36_any (ao bo : Option Addr) (ca cb : Nat) (l m : List (Int × Int)) (w : World) (hl : l.length ≤ 281474976710656) (ha : Pts w ao l) (hb : Pts w bo m) :
    Calls Try.prog 36 #[.slice ao l.length ca, .slice bo m.length cb] w fun e w' => e = .returned (.bool (decide (l = m))) ∧ Gr w w' := by
  have HA := hid0 ha
  have HB := hid0 hb
  clear ha hb
  by_cases hn : l.length = m.length
  · have HT : Hid ((∀ j, j < l.length → l.getD j (0, 0) = m.getD j (0, 0)) → decide (l = m) = true) := fun h => decide_eq_true (ext_getT hn h)
    have HF : Hid (∀ j, j < l.length → l.getD j (0, 0) ≠ m.getD j (0, 0) → decide (l = m) = false) := fun j _ h => decide_eq_false (fun e => h (by rw [e]))
    generalize decide (l = m) = R at *
    have HB' : Hid (∀ i, i < l.length → ∃ b off, bo = some ⟨b, off, none⟩ ∧ w.cell? ⟨b, off + i * 2, none⟩ = some (.int .i32 (m.getD i (0, 0)).1) ∧ w.cell? ⟨b, off + i * 2 + 1, none⟩ = some (.int .i32 (m.getD i (0, 0)).2)) := fun i hi => HB.out i (by omega)
    rw [← hn]
    clear HB
    go_enter Try.func36, Try.ntmps36
    go_wp2
    go_loopw [5] (fun i wr => ∃ k : Nat, k ≤ l.length ∧ i = .int .i64 k ∧ Hid (∀ j, j < k → l.getD j (0, 0) = m.getD j (0, 0)) ∧ Gr w wr) (fun i _ => l.length - (intOf i).toNat)
    case atStart => exact ⟨0, by omega, rfl, (by intro j hj; omega), Gr.refl _⟩
    case round =>
      obtain ⟨k, hk, rfl, hE, hG⟩ := hrel
      by_cases hlt : k < l.length
      · obtain ⟨b, off, rfl, p0, p1⟩ := HA.out k hlt
        obtain ⟨b2, off2, rfl, q0, q1⟩ := HB'.out k hlt
        replace p0 := below_cell p0 hG.below
        replace p1 := below_cell p1 hG.below
        replace q0 := below_cell q0 hG.below
        replace q1 := below_cell q1 hG.below
        have C := pair_cases (l.getD k (0, 0)) (m.getD k (0, 0))
        have HF' := hid0 (HF.out k hlt)
        have HE' : Hid (l.getD k (0, 0) = m.getD k (0, 0) → ∀ j, j < k + 1 → l.getD j (0, 0) = m.getD j (0, 0)) := fun e j hj => by
          by_cases c : j = k
          · subst c; exact e
          · exact hE.out j (by omega)
        clear HF hE
        generalize (l.getD k (0, 0)).1 = X at *
        generalize (l.getD k (0, 0)).2 = Y at *
        generalize (m.getD k (0, 0)).1 = X' at *
        generalize (m.getD k (0, 0)).2 = Y' at *
        rcases C with ⟨e, rfl, rfl⟩ | ⟨e, b1, b2⟩ | ⟨e, b1⟩
        · replace HE' := hid0 (HE'.out e)
          clear HF' e
          go_wp2
          go_region
          go_wp2
          go_roundw
          case rel => exact ⟨k + 1, by omega, by go_num, HE', hG.drew⟩
          case measure => simp [intOf]; omega
        all_goals
          have eF := hid0 (HF'.out e)
          clear HF' HE' e HT
          go_wp2
          go_region
          go_wp2
          go_ret
          exact ⟨by rw [eF.out]; rfl, hG.drew⟩
      · obtain rfl : k = l.length := by omega
        have eT := hid0 (HT.out hE.out)
        clear HT HF
        go_wp2
        go_ret
        exact ⟨by rw [eT.out]; rfl, hG⟩
  · have eF : decide (l = m) = false := decide_eq_false (fun e => hn (by rw [e]))
    rw [eF]
    have hn' : ((l.length : Int) == (m.length : Int)) = false := beq_eq_false_iff_ne.2 (by omega)
    clear HA HB eF
    go_enter Try.func36, Try.ntmps36
    go_wp2
    go_ret
    exact ⟨rfl, Gr.refl _⟩

theorem ownT_all {w : World} {base n : Nat} {sv : Value} {R : List (Int × Int)} (h : w.ownsRow base 28 2 sv n (flat R)) : ∃ ro rc, sv = .slice ro n rc ∧ Pts w ro R ∧ R.length = n := by
  have hl : R.length = n := by have := h.1; rw [flat_len] at this; omega
  rcases h.2 with ⟨rfl, hn⟩ | ⟨g, cap, cur, rfl, _, _, h3, _⟩
  · exact ⟨none, 0, by rw [hn], fun i hi => by omega, hl⟩
  · exact ⟨_, cap, rfl, Pts.of_own (base := base) (cap := cap) (by rw [hl]; exact h), hl⟩
theorem ownT_below {w w' : World} {base n : Nat} {sv : Value} {xs : List Value} (h : w.ownsRow base 28 2 sv n xs) (k : Below w.heap.size w w') : w'.ownsRow base 28 2 sv n xs := by
  refine ⟨h.1, ?_⟩
  rcases h.2 with ⟨rfl, hn⟩ | ⟨g, cap, cur, rfl, h1, h2, h3⟩
  · exact .inl ⟨rfl, hn⟩
  · exact .inr ⟨g, cap, cur, rfl, h1, (k.block g (lt_of_block h2)).trans h2, h3⟩
/-- A row is kept where its block is kept. -/
theorem ownT_kept {w w' : World} {base n : Nat} {sv : Value} {xs : List Value} (h : w.ownsRow base 28 2 sv n xs) (k : ∀ x, x < w.heap.size → sv.ownBlock = some x → w'.heap[x]? = w.heap[x]?) : w'.ownsRow base 28 2 sv n xs := by
  refine ⟨h.1, ?_⟩
  rcases h.2 with ⟨rfl, hn⟩ | ⟨g, cap, cur, rfl, h1, h2, h3⟩
  · exact .inl ⟨rfl, hn⟩
  · exact .inr ⟨g, cap, cur, rfl, h1, (k g (lt_of_block h2) rfl).trans h2, h3⟩

set_option maxRecDepth 20000 in
set_option maxHeartbeats 4000000 in
theorem spoilt_keep (B n : Nat) (sv : Value) (D : List (Int × Int)) (w : World) (hn : n ≤ 17592186043904) (hBs : B ≤ w.heap.size) (hD : w.ownsRow B 28 2 sv n (flat D)) :
    Calls Try.prog 15 #[sv] w fun e w' => e = .returned (.tuple #[]) ∧ Below B w w' ∧ ∀ x, x < w.heap.size → sv.ownBlock ≠ some x → w'.heap[x]? = w.heap[x]? := by
  obtain ⟨i0, hi, hz0, hz1, hz2⟩ := info_parts Try.info28
  obtain ⟨so, sc, es⟩ := own_any hD
  subst es
  go_enter Try.func15, Try.ntmps15
  go_wp2
  go_loopw [2] (fun i wr => ∃ (k : Nat) (L : List (Int × Int)), k ≤ n ∧ i = .int .i64 k ∧ wr.ownsRow B 28 2 (.slice so n sc) n (flat L) ∧ Hid (∀ x, x < w.heap.size → (Value.slice so n sc).ownBlock ≠ some x → wr.heap[x]? = w.heap[x]?) ∧ Below B w wr) (fun i _ => n - (intOf i).toNat)
  case atStart => exact ⟨0, D, by omega, rfl, hD, (fun _ _ _ => rfl), Below.refl _ _⟩
  case round =>
    clear hD
    obtain ⟨k, L, hk, rfl, O, HK, hb⟩ := hrel
    by_cases hlt : k < n
    · obtain ⟨g, cap, e, hcap, hg⟩ := own_shape2 O (by omega)
      cases e
      have OP : OwnP _ B g n sc L := O
      obtain ⟨c0, c1, f0, f1⟩ := OP.at k hlt
      go_wp2
      go_roundw
      case rel =>
        refine ⟨k + 1, L.set k (-5, 5), by omega, by go_num, OP.set k hlt (-5) 5, (fun x hx hne => ?_), (hb.setCell hg _).setCell hg _⟩
        have hxg : x ≠ g := fun e => hne (by rw [e]; rfl)
        rw [Below.heap_setCell _ _ _ _ hxg, Below.heap_setCell _ _ _ _ hxg]
        exact HK.out x hx hne
      case measure => simp [intOf]; omega
    · have hkn : k = n := by omega
      subst hkn
      go_wp2
      go_loopw [0, 3] (fun s i wr => ∃ (j : Nat) (xs : List Value), j ≤ 20 ∧ i = .int .i64 j ∧ wr.ownsRow B 28 2 s (k + j) xs ∧ Hid (∀ x, x < w.heap.size → (Value.slice so k sc).ownBlock ≠ some x → wr.heap[x]? = w.heap[x]?) ∧ Hid (∀ y, s.ownBlock = some y → (Value.slice so k sc).ownBlock = some y ∨ w.heap.size ≤ y) ∧ Below B w wr) (fun _ i _ => 20 - (intOf i).toNat)
      case atStart => exact ⟨0, _, by omega, rfl, O, HK, (fun y hy => Or.inl hy), hb⟩
      case round =>
        clear O hb HK
        obtain ⟨j, xs, hj, rfl, hown, HK, HL, hb⟩ := hrel
        by_cases hlt2 : j < 20
        · have hsz := hb.size
          obtain ⟨so2, c2, rfl⟩ := own_any hown
          go_wp2_with (at_builtin; refine wpList_append_own_at _ rfl (.tmp 18) (.tmp 20) 22 rfl B 28 i0 (.agg #[.int .i32 0, .int .i32 0]) 2 8 Try.underlying22 hi hz0 hz1 hz2 rfl (by decide) _ (k + j) _ rfl (hown.alloc _) ⟨wr.heap.size, 0, none⟩ 1 1 [.int .i32 6, .int .i32 0] rfl rfl (one_cells _ _ _) (fun u hu => by simp at hu; rcases hu with rfl | rfl <;> rfl) (by unfold maxLen; omega) (by omega) (by simp; omega) ?_)
          intro sv w1 hown1 hgrow _ hloc
          have hb1 : Below B w w1 := (hb.alloc (by omega) _).grown hgrow (by simp; omega) (fun j hj => (hown.lt j hj).1)
          have HK1 : Hid (∀ x, x < w.heap.size → (Value.slice so k sc).ownBlock ≠ some x → w1.heap[x]? = w.heap[x]?) := fun x hx hne => by
            have h1 : (Value.slice so2 (k + j) c2).ownBlock ≠ some x := fun e => by
              rcases HL.out x e with h | h
              · exact hne h
              · omega
            rw [hgrow.block x (by simp; omega) (fun e => h1 e.symm), Below.heap_alloc wr _ x (by omega)]
            exact HK.out x hx hne
          have HL1 : Hid (∀ y, sv.ownBlock = some y → (Value.slice so k sc).ownBlock = some y ∨ w.heap.size ≤ y) := fun y hy => by
            rcases hloc with h | h
            · exact HL.out y (by rw [← h]; exact hy)
            · rw [h] at hy
              cases hy
              right
              first | omega | (rw [World.size_alloc]; omega)
          clear hgrow hown hb hloc HK HL
          go_wp2
          go_roundw
          case rel => exact ⟨j + 1, _, by omega, by go_num, hown1, HK1, HL1, hb1⟩
          case measure => simp [intOf]; omega
        · go_wp2
          go_end0
          exact ⟨rfl, hb, HK.out⟩

set_option maxRecDepth 20000 in
set_option maxHeartbeats 8000000 in
theorem thin_walk (vo : Option Addr) (cv : Nat) (V : List (Int × Int)) (tol : Int) (w : World) (hl : V.length ≤ 17592186043904) (hn : vo = none → V.length = 0 ∧ cv = 0) (hP : Pts w vo V) :
    Calls Try.prog 6 #[.slice vo V.length cv, .int .i64 tol] w fun e w' => e = .returned (.bool true) ∧ Below w.heap.size w w' := by
  by_cases h80 : 80 < V.length ∧ V.length ≤ 4096
  · have a1 : (V.length : Int) > 80 := by omega
    have a2 : (V.length : Int) ≤ 4096 := by omega
    clear hP hn
    go_enter Try.func6, Try.ntmps6
    go_wp2
    go_ret
    exact ⟨rfl, Below.refl _ _⟩
  · have L1 := hid0 (lent_any vo cv V w hl hn hP)
    have HP := hid0 hP
    have HTl : (thinV V tol).length ≤ 80 := by
      by_cases h0 : faultF V tol = 0
      · obtain ⟨h1, _, _⟩ := fault_ok h0
        by_cases h2 : V.length = 0
        · unfold thinV; rw [if_pos h0, if_pos (by omega)]; omega
        · obtain ⟨_, _, _, _, _, _, h3⟩ := thin_places h0 (by omega)
          omega
      · unfold thinV; rw [if_neg h0]; simp
    have T1 := hid0 (fun g cap w' (hP : Pts w' (some ⟨g, 0, none⟩) V) (hc : V.length ≤ cap) (hcc : cap ≤ 9223372036854775807) => thin_any (some ⟨g, 0, none⟩) cap V tol (by omega) hc hcc w' hP)
    have T2 := hid0 (fun w' (hP : Pts w' vo V) => rThin_any vo cv V tol (by omega) w' hP)
    clear hP hn
    generalize thinV V tol = T at *
    generalize faultF V tol = E at *
    have LEFT0 := hid0 (fun g cap w' (hc : V.length + 20 ≤ cap) (hm : cap ≤ maxLen) h1 h2 => left_true g cap vo cv V w' hl hc hm h1 h2)
    obtain ⟨n, hn⟩ : ∃ n, V.length = n := ⟨_, rfl⟩
    rw [hn] at hl h80 L1 T1 T2 LEFT0 ⊢
    have HN := hid0 hn
    clear hn
    go_enter Try.func6, Try.ntmps6
    go_upto_region 1 with fail
    go_cut [19] (fun v wz => v = .bool false ∧ wz = w)
    case first =>
      clear L1 T1 T2 LEFT0
      by_cases h1 : 80 < n
      · have a1 : (n : Int) > 80 := by omega
        have a2 : ¬ (n : Int) ≤ 4096 := by omega
        go_wp2
        go_meet
        case rel => exact ⟨rfl, rfl⟩
      · have a1 : ¬ (n : Int) > 80 := by omega
        go_wp2
        go_meet
        case rel => exact ⟨rfl, rfl⟩
    obtain ⟨rfl, hwc⟩ := hcut
    have hwc' := hwc.symm
    clear hwc
    subst hwc'
    go_wp2_with fail
    refine L1.out.mono ?_
    rintro e w1 ⟨g1, cap1, rfl, O1, hb1⟩
    have P1 : Hid (Pts w1 (some ⟨g1, 0, none⟩) (V ++ marks 20)) := Pts.of_own O1
    obtain ⟨_, _, hc1, hm1, _⟩ := OwnP.shape O1
    have hc1' : n + 20 ≤ cap1 := by rw [List.length_append, marks_len, HN.out] at hc1; exact hc1
    have hm1' : cap1 ≤ 9223372036854775807 := by unfold maxLen at hm1; omega
    have hm1h := hid0 hm1
    have P1k0 := hid0 P1.out
    clear L1 O1 hc1 hm1
    go_wp2_with fail
    refine (T1.out g1 cap1 w1 P1.out.left (by omega) hm1').mono ?_
    rintro e w2 ⟨sv2, rfl, O2, hb2⟩
    have P2 : Hid (Pts w2 (some ⟨g1, 0, none⟩) (V ++ marks 20)) := P1.out.mono hb2
    have V2 : Hid (Pts w2 vo V) := (HP.out.mono hb1).mono hb2
    clear P1
    go_wp2_with fail
    refine (T2.out w2 V2.out).mono ?_
    rintro e w3 ⟨sv3, rfl, O3, hb3⟩
    have P3 : Hid (Pts w3 (some ⟨g1, 0, none⟩) (V ++ marks 20)) := P2.out.mono hb3
    have V3 : Hid (Pts w3 vo V) := V2.out.mono hb3
    have P1k := P1k0
    have O2' := ownT_below O2 hb3
    have hne : ∀ x, sv3.ownBlock = some x → sv2.ownBlock ≠ some x := fun x h3 h2 => by
      have a := (O3.lt x h3).1
      have b := (O2.lt x h2).2
      omega
    replace hne := hid0 hne
    obtain ⟨r2, c2, rfl, R2, _⟩ := ownT_all O2'
    obtain ⟨r3, c3, rfl, R3, _⟩ := ownT_all O3
    have S1 := hid0 (same12_thin r2 r3 c2 c3 T T w3 (by omega) R2 R3)
    rw [decide_eq_true rfl] at S1
    clear T2 P2 V2 O2 R2 R3
    have eE : (E != E) = false := by simp
    dsimp only
    go_wp2_with fail
    refine S1.out.mono ?_
    rintro e w4 ⟨rfl, g4⟩
    have P4 := hid0 (P3.out.mono g4.below)
    have V4 := hid0 (V3.out.mono g4.below)
    clear P3 V3 S1
    dsimp only
    go_wp2_with fail
    refine (LEFT0.out g1 cap1 w4 hc1' hm1h.out P4.out V4.out).mono ?_
    rintro e w5 ⟨rfl, g5⟩
    have P5 := hid0 (P4.out.mono g5.below)
    have V5 := hid0 (V4.out.mono g5.below)
    have O25 := own2_gr (own2_gr O2' g4) g5
    have O35 := own2_gr (own2_gr O3 g4) g5
    have hW : Below w.heap.size w w5 := by
      have a := hb1.trans (hb2.mono hb1.size)
      have b := a.trans (hb3.mono a.size)
      have c := b.trans (g4.below.mono b.size)
      exact c.trans (g5.below.mono c.size)
    have hW1 : Below w1.heap.size w1 w5 := by
      have b := hb2.trans (hb3.mono hb2.size)
      have c := b.trans (g4.below.mono b.size)
      exact c.trans (g5.below.mono c.size)
    have hsz1 : w.heap.size ≤ w1.heap.size := hb1.size
    have hsz2 : w1.heap.size ≤ w5.heap.size := hW1.size
    clear P4 V4 O2' O3 g4 g5 P5 V5 hb1 hb2 hb3
    dsimp only
    go_wp2_with fail
    refine (spoilt_keep w1.heap.size T.length _ T w5 (by omega) hsz2 O25).mono ?_
    rintro e w6 ⟨rfl, hb6, HK⟩
    have O36 := ownT_kept O35 (fun x hx hs => HK x hx (hne.out x hs))
    have P6 := hid0 (P1k.out.mono (hW1.trans hb6))
    have hW6 : Below w.heap.size w w6 := hW.trans (hb6.mono hsz1)
    have V6 := hid0 (HP.out.mono hW6)
    clear HK O25 O35 hb6 hW hW1 hne P1k P1k0
    dsimp only
    go_wp2_with fail
    refine (T1.out g1 cap1 w6 P6.out.left (by omega) hm1').mono ?_
    rintro e w7 ⟨sv7, rfl, O7, hb7⟩
    have O37 := ownT_below O36 hb7
    have P7 := hid0 (P6.out.mono hb7)
    have V7 := hid0 (V6.out.mono hb7)
    obtain ⟨r7, c7, rfl, R7, _⟩ := ownT_all O7
    obtain ⟨r8, c8, e8, R8, _⟩ := ownT_all O37
    cases e8
    have S2 := hid0 (same12_thin r7 r3 c7 c3 T T w7 (by omega) R7 R8)
    rw [decide_eq_true rfl] at S2
    have hW7 : Below w.heap.size w w7 := hW6.trans (hb7.mono hW6.size)
    have eE2 : (E == E) = true := by simp
    clear T1 P6 V6 O36 O37 O7 R7 R8 hb7
    dsimp only
    go_wp2_with fail
    refine S2.out.mono ?_
    rintro e w8 ⟨rfl, g8⟩
    have P8 := hid0 (P7.out.mono g8.below)
    have V8 := hid0 (V7.out.mono g8.below)
    clear P7 V7 S2
    dsimp only
    go_wp2_with fail
    refine (LEFT0.out g1 cap1 w8 hc1' hm1h.out P8.out V8.out).mono ?_
    rintro e w9 ⟨rfl, g9⟩
    have hW8 := hW7.trans (g8.below.mono hW7.size)
    have hW9 := hW8.trans (g9.below.mono hW8.size)
    clear P8 V8 LEFT0
    go_wp2
    go_ret
    exact ⟨rfl, hW9⟩
end
end Go.Proofs.Ytljdnahomhbenaa
