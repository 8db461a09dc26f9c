/- The law's turned and has. -/
import Derived.Test.YtljdnahomhbenaaHt
namespace Go.Proofs.Ytljdnahomhbenaa
section
set_option linter.unusedSimpArgs false
open Go.RowKit Go.Sort Go.Lib Go.Shelf

def rotK (L : List (Int × Int)) (R : Nat) (k : Nat) : List (Int × Int) := (List.range k).map fun i => L.getD ((R + i) % L.length) (0, 0)
theorem rotK_succ (L : List (Int × Int)) (R : Nat) (k : Nat) : rotK L R (k + 1) = rotK L R k ++ [L.getD ((R + k) % L.length) (0, 0)] := by simp [rotK, List.range_succ]
theorem rot_mem (L : List (Int × Int)) (R : Nat) (p : Int × Int) : p ∈ rotK L R L.length ↔ p ∈ L := by
  unfold rotK
  rw [List.mem_map]
  constructor
  · rintro ⟨i, hi, rfl⟩
    have hi' := List.mem_range.mp hi
    have := Nat.mod_lt (R + i) (show 0 < L.length by omega)
    rw [getD_eq _ _ this]
    exact List.getElem_mem _
  · intro h
    obtain ⟨t, ht, rfl⟩ := List.getElem_of_mem h
    have hr := Nat.mod_lt R (show 0 < L.length by omega)
    refine ⟨(t + L.length - R % L.length) % L.length, List.mem_range.mpr (Nat.mod_lt _ (by omega)), ?_⟩
    have e : (R + (t + L.length - R % L.length) % L.length) % L.length = t := by
      rw [Nat.add_mod, Nat.mod_mod, ← Nat.add_mod, Nat.add_mod]
      generalize hR : R % L.length = r at *
      rw [Nat.add_mod]
      by_cases c : r ≤ t
      · rw [show t + L.length - r = (t - r) + L.length by omega, Nat.add_mod_right, Nat.mod_eq_of_lt (show t - r < L.length by omega), Nat.mod_eq_of_lt hr]
        rw [Nat.mod_eq_of_lt (show t - r < L.length by omega), show r + (t - r) = t by omega, Nat.mod_eq_of_lt ht]
      · rw [Nat.mod_eq_of_lt (show t + L.length - r < L.length by omega), Nat.mod_eq_of_lt hr]
        rw [Nat.mod_eq_of_lt (show t + L.length - r < L.length by omega), show r + (t + L.length - r) = t + L.length by omega, Nat.add_mod_right, Nat.mod_eq_of_lt ht]
    rw [e, getD_eq _ _ ht]
theorem swap_mem {S : List (Int × Int)} {i j : Nat} (hi : i < S.length) (hj : j < S.length) (hij : i ≠ j) (p : Int × Int) : p ∈ (S.set i (S.getD j (0, 0))).set j (S.getD i (0, 0)) ↔ p ∈ S := by
  rw [List.mem_iff_getElem?, List.mem_iff_getElem?]
  have g : ∀ t, ((S.set i (S.getD j (0, 0))).set j (S.getD i (0, 0)))[t]? = if t = j then S[i]? else if t = i then S[j]? else S[t]? := fun t => by
    rw [List.getElem?_set, List.getElem?_set]
    have ei : S[i]? = some (S.getD i (0, 0)) := by rw [getD_eq _ _ hi, List.getElem?_eq_getElem hi]
    have ej : S[j]? = some (S.getD j (0, 0)) := by rw [getD_eq _ _ hj, List.getElem?_eq_getElem hj]
    by_cases c1 : t = j
    · subst c1
      simp only [if_true, List.length_set, if_pos hj, ei]
    · have c1' : ¬ j = t := fun x => c1 x.symm
      by_cases c2 : t = i
      · subst c2
        simp only [if_neg c1, if_neg c1', if_true, if_pos hi, ej]
      · have c2' : ¬ i = t := fun x => c2 x.symm
        simp only [if_neg c1, if_neg c1', if_neg c2, if_neg c2']
  constructor
  · rintro ⟨t, ht⟩
    rw [g] at ht
    split at ht
    · exact ⟨i, ht⟩
    · split at ht
      · exact ⟨j, ht⟩
      · exact ⟨t, ht⟩
  · rintro ⟨t, ht⟩
    by_cases c1 : t = i
    · subst c1
      exact ⟨j, by rw [g, if_pos rfl]; exact ht⟩
    · by_cases c2 : t = j
      · subst c2
        exact ⟨i, by rw [g, if_neg hij, if_pos rfl]; exact ht⟩
      · exact ⟨t, by rw [g, if_neg c2, if_neg c1]; exact ht⟩

set_option maxRecDepth 100000 in
set_option maxHeartbeats 8000000 in
theorem turned_any (ao : Option Addr) (cap : Nat) (L : List (Int × Int)) (hlen : L.length ≤ 1048576) (n : Int) (w : World) (hP : Pts w ao L) :
    Calls Try.prog 23 #[.slice ao L.length cap, .int .i64 n] w fun e w' => ∃ sv T, e = .returned sv ∧ w'.ownsRow w.heap.size 28 2 sv T.length (flat T) ∧ (∀ p, p ∈ T ↔ p ∈ L) ∧ T.length ≤ L.length + 1 ∧ Below w.heap.size w w' := by
  obtain ⟨i0, hi, hz0, hz1, hz2⟩ := info_parts Try.info28
  have HP : Hid (Pts w ao L) := hP
  clear hP
  obtain ⟨R, hR⟩ : ∃ R : Nat, R = (n.tmod (L.length : Int) + L.length).toNat := ⟨_, rfl⟩
  have hT : L.length ≠ 0 → -(L.length : Int) < n.tmod (L.length : Int) ∧ n.tmod (L.length : Int) < L.length := fun h => by
    have h1 := Int.tmod_lt_of_pos n (show (0 : Int) < L.length by omega)
    have h2 := Int.lt_tmod_of_pos n (show (0 : Int) < L.length by omega)
    omega
  replace hT : Hid (L.length ≠ 0 → -(L.length : Int) < n.tmod (L.length : Int) ∧ n.tmod (L.length : Int) < L.length) := hT
  replace hR : Hid (R = (n.tmod (L.length : Int) + L.length).toNat) := hR
  go_enter Try.func23, Try.ntmps23
  go_wp2
  go_loopw [5, 6] (fun s i wr => ∃ k : Nat, k ≤ L.length ∧ i = .int .i64 k ∧ wr.ownsRow w.heap.size 28 2 s k (flat (rotK L R k)) ∧ Below w.heap.size w wr) (fun _ i _ => L.length - (intOf i).toNat)
  case atStart => exact ⟨0, by omega, rfl, World.ownsRow_nil _ _ _ _, Below.refl _ _⟩
  case round =>
    obtain ⟨k, hk, rfl, hown, hB⟩ := hrel
    by_cases hlt : k < L.length
    · have hne : ¬ L = [] := by rintro rfl; simp at hlt
      obtain ⟨hT1, hT2⟩ := hT.out (by omega)
      have hR' := hR.out
      obtain ⟨m, hm⟩ : ∃ m, m = (R + k) % L.length := ⟨_, rfl⟩
      have hml : m < L.length := by rw [hm]; exact Nat.mod_lt _ (by omega)
      have em : (wrap64 (wrap64 (n.tmod (L.length : Int) + L.length) + k)).tmod (L.length : Int) = (m : Int) := by
        rw [hm, hR']
        generalize n.tmod (L.length : Int) = T at *
        have h1 : wrap64 (T + L.length) = T + L.length := by unfold wrap64; omega
        rw [h1]
        have h2 : wrap64 (T + L.length + k) = T + L.length + k := by unfold wrap64; omega
        rw [h2, Int.tmod_eq_emod_of_nonneg (by omega)]
        push_cast
        congr 1
        omega
      have hsz := hB.size
      replace hm : Hid (m = (R + k) % L.length) := hm
      clear hR' hR hT hT1 hT2
      obtain ⟨b, off, rfl, c0, c1⟩ := (HP.out.mono hB) m hml
      have hst : Hid (rotK L R (k + 1) = rotK L R k ++ [((L.getD m (0, 0)).1, (L.getD m (0, 0)).2)]) := by unfold Hid; rw [rotK_succ, ← hm.out]
      generalize (L.getD m (0, 0)).1 = X at *
      generalize (L.getD m (0, 0)).2 = Y at *
      clear HP
      go_wp2_with (at_builtin; refine wpList_append_own _ rfl (.tmp 15) (.tmp 31) 22 rfl w.heap.size 28 i0 (.agg #[.int .i32 0, .int .i32 0]) 2 8 Try.underlying22 hi hz0 hz1 hz2 rfl (by decide) _ k _ rfl (hown.alloc _) ⟨wr.heap.size, 0, none⟩ 1 1 [.int .i32 X, .int .i32 Y] rfl rfl (one_cells _ _ _) (fun u hu => by simp at hu; rcases hu with rfl | rfl <;> rfl) (by unfold maxLen; omega) (by omega) (by simp; omega) ?_)
      intro sv w1 hown1 hgrow _
      have hb1 : Below w.heap.size w w1 := (hB.alloc hsz _).grown hgrow (by simp; omega) (fun j hj => (hown.lt j hj).1)
      clear hgrow hown hB c0 c1
      go_wp2
      go_roundw
      case rel => exact ⟨k + 1, by omega, by go_num, by rw [hst.out, flat_one]; exact hown1, hb1⟩
      case measure => simp [intOf]; omega
    · have hkn : k = L.length := by omega
      subst hkn
      have HM := hid0 (rot_mem L R)
      have HLn : (rotK L R L.length).length = L.length := by simp [rotK]
      clear hR hT HP
      generalize rotK L R L.length = S at *
      have hsz := hB.size
      by_cases h0 : L.length = 0
      · have eS : S = [] := List.eq_nil_of_length_eq_zero (by omega)
        have eL : L = [] := List.eq_nil_of_length_eq_zero h0
        subst eS
        subst eL
        obtain ⟨so, sc, es⟩ := own_any hown
        subst es
        go_wp2
        go_loopw [7] (fun i wr' => i = .int .i64 0 ∧ wr' = wr) (fun _ _ => 0)
        case atStart => exact ⟨rfl, rfl⟩
        case round =>
          obtain ⟨rfl, rfl⟩ := hrel
          go_wp2
          go_ret
          exact ⟨_, [], rfl, hown, fun p => Iff.rfl, by simp, hB⟩
      · obtain ⟨g, c, rfl, hc, hg⟩ := own_shape2 hown (by omega)
        have hq : Hid (∀ n : Nat, Int.tdiv (n : Int) 2 = ((n / 2 : Nat) : Int)) := fun n => by
          rw [Int.tdiv_eq_ediv_of_nonneg (by omega)]
          omega
        have hq2 := hq.out L.length
        obtain ⟨hf, hhf⟩ : ∃ hf, hf = L.length / 2 := ⟨_, rfl⟩
        rw [← hhf] at hq2
        have hh2 : 2 * hf ≤ L.length := by omega
        have HHf : Hid (L.length < 2 * hf + 2) := by unfold Hid; omega
        clear hhf hq
        obtain ⟨nL, hnL⟩ : ∃ nL, nL = L.length := ⟨_, rfl⟩
        have HnL := hid0 hnL
        rw [← hnL] at hown hq2 hh2 HHf HLn hc h0 hlen ⊢
        clear hnL
        go_wp2
        go_loopw [7] (fun i wz => ∃ (k : Nat) (Z : List (Int × Int)), k ≤ hf ∧ i = .int .i64 k ∧ OwnP wz w.heap.size g nL c Z ∧ Hid (∀ p, p ∈ Z ↔ p ∈ L) ∧ Below w.heap.size w wz) (fun i _ => hf - (intOf i).toNat)
        case atStart => exact ⟨0, S, by omega, rfl, hown, HM, hB⟩
        case round =>
          clear hown hB HM
          obtain ⟨k, Z, hk, rfl, O, hM, hb⟩ := hrel
          have hZl := O.len
          by_cases hlt : k < hf
          · obtain ⟨j, hj⟩ : ∃ j : Nat, j + k + 1 = nL := ⟨nL - 1 - k, by omega⟩
            have ej : (nL : Int) - 1 - k = (j : Int) := by omega
            have hkj : k < j := by omega
            have hkn : k < nL := by omega
            have hjn : j < nL := by omega
            obtain ⟨a0, a1, f0, f1⟩ := O.at k hkn
            obtain ⟨b0, b1, g0, g1⟩ := O.at j hjn
            have M2 := hid0 (fun p => (swap_mem (show k < Z.length by omega) (show j < Z.length by omega) (by omega) p).trans (hM.out p))
            obtain ⟨PK, hPK⟩ : ∃ PK, Z.getD k (0, 0) = PK := ⟨_, rfl⟩
            obtain ⟨PJ, hPJ⟩ : ∃ PJ, Z.getD j (0, 0) = PJ := ⟨_, rfl⟩
            rw [hPK] at a0 a1 M2
            rw [hPJ] at b0 b1 M2
            have HPK := hid0 hPK
            have HPJ := hid0 hPJ
            clear hPK hPJ
            go_upto_region 10 with fail
            have gA := (Gr.refl wr).alloc (.cells #[.int .i32 PK.1, .int .i32 PK.2] 28)
            have hB8 := heap_alloc_new wr (.cells #[.int .i32 PK.1, .int .i32 PK.2] 28)
            have hgs : g < wr.heap.size := by
              obtain ⟨_, h2, _⟩ := O.shape
              exact lt_of_block h2
            have O1 := O.gr gA
            have hb3 := hb.trans (gA.below.mono hb.size)
            obtain ⟨b8, hb8⟩ : ∃ b8, b8 = wr.heap.size := ⟨_, rfl⟩
            rw [← hb8] at hB8 hgs ⊢
            clear hb8 gA O hM a0 a1 f0 f1 b0 b1 g0 g1 hb
            generalize wr.alloc (.cells #[.int .i32 PK.1, .int .i32 PK.2] 28) = W1 at *
            obtain ⟨x0, x1, _, _⟩ := pt_cells hB8
            obtain ⟨a0, a1, f0, f1⟩ := O1.at k hkn
            obtain ⟨b0, b1, g0, g1⟩ := O1.at j hjn
            rw [HPK.out] at a0 a1
            rw [HPJ.out] at b0 b1
            have O3 := (O1.set k hkn PJ.1 PJ.2).set j hjn PK.1 PK.2
            clear O1 hB8 HPK HPJ
            have n1 : b8 ≠ g := by omega
            have n2 : g ≠ b8 := by omega
            have n3 : k * 2 ≠ j * 2 := by omega
            have n4 : k * 2 + 1 ≠ j * 2 := by omega
            have n5 : k * 2 ≠ j * 2 + 1 := by omega
            go_wp2
            go_roundw
            case rel => exact ⟨k + 1, _, by omega, by go_num, O3, M2, (((hb3.setCell hg _).setCell hg _).setCell hg _).setCell hg _⟩
            case measure => simp [intOf]; omega
          · have hZ0 : Hid (∀ p, p ∈ Z ++ [Z.getD 0 (0, 0)] ↔ p ∈ L) := fun p => by
              rw [List.mem_append, hM.out p]
              refine ⟨fun h => h.elim id fun h => ?_, Or.inl⟩
              have : p = Z.getD 0 (0, 0) := by simpa using h
              rw [this, ← hM.out, getD_eq _ _ (by omega)]
              exact List.getElem_mem _
            obtain ⟨a0, a1, _, _⟩ := O.at 0 (by omega)
            simp only [Nat.zero_mul, Nat.zero_add] at a0 a1
            have hsz3 := hb.size
            obtain ⟨P0, hP0⟩ : ∃ P0, Z.getD 0 (0, 0) = P0 := ⟨_, rfl⟩
            rw [hP0] at a0 a1 hZ0
            clear hP0
            have hd0 : decide ((0 : Int) < (nL : Int)) = true := decide_eq_true (by omega)
            go_wp2_with (at_builtin; refine wpList_append_own _ rfl (.tmp 66) (.tmp 70) 22 rfl w.heap.size 28 i0 (.agg #[.int .i32 0, .int .i32 0]) 2 8 Try.underlying22 hi hz0 hz1 hz2 rfl (by decide) _ nL _ rfl (World.ownsRow.alloc O _) ⟨wr.heap.size, 0, none⟩ 1 1 [.int .i32 P0.1, .int .i32 P0.2] rfl rfl (one_cells _ _ _) (fun u hu => by simp at hu; rcases hu with rfl | rfl <;> rfl) (by unfold maxLen; omega) (by omega) (by simp; omega) ?_)
            intro sv w1 hown1 hgrow _
            have hb1 : Below w.heap.size w w1 := (hb.alloc hsz3 _).grown hgrow (by simp; omega) (fun j hj => (World.ownsRow.lt O j hj).1)
            clear hgrow hb a0 a1 O
            have fin : w1.ownsRow w.heap.size 28 2 sv (Z ++ [P0]).length (flat (Z ++ [P0])) := by
              rw [List.length_append, hZl, flat_one]
              exact hown1
            obtain ⟨s6, c6, es6⟩ := own_any hown1
            subst es6
            clear hown1
            go_wp2
            go_ret
            exact ⟨_, Z ++ [P0], rfl, fin, hZ0.out, by rw [List.length_append, hZl, ← HnL.out]; simp, hb1⟩
end
end Go.Proofs.Ytljdnahomhbenaa
