/- The reference's Column is the program's column. -/
import Derived.Test.YtmoddfikhipagaaRc
set_option linter.unusedSimpArgs false
set_option linter.unusedVariables false
namespace Go.Proofs.Ytmoddfikhipagaa
open Go.RowKit Go.Sort

theorem colP_rows (p q : C2) (s : Int) (k i : Nat) : (entP p q s i).2 < (leaP p q s k i).2 → (colP p q s k i).1.2 = (entP p q s i).2 ∧ (colP p q s k i).2.2 = (leaP p q s k i).2 := fun h => by
  unfold colP byH; rw [if_neg (by omega)]; exact ⟨rfl, rfl⟩
theorem colP_rows' (p q : C2) (s : Int) (k i : Nat) : ¬ (entP p q s i).2 < (leaP p q s k i).2 → (colP p q s k i).1.2 = (leaP p q s k i).2 ∧ (colP p q s k i).2.2 = (entP p q s i).2 := fun h => by
  unfold colP byH
  by_cases h2 : (leaP p q s k i).2 < (entP p q s i).2
  · rw [if_pos h2]; exact ⟨rfl, rfl⟩
  · rw [if_neg h2]; dsimp only; omega
/-- Where the column's left edge lies. -/
theorem left_at (px qx s : Int) (k i : Nat) (hs : 1 ≤ s) (hk : qx / s = px / s + k) (hi : i ≤ k) : (px / s + i) * s ≤ qx ∧ px - s < (px / s + i) * s ∧ (i = 0 → (px / s + i) * s ≤ px) ∧ (0 < i → px < (px / s + i) * s) ∧ ((px / s + i) * s + s ≤ qx ↔ i < k) := by
  have a1 := Int.ediv_mul_le px (show s ≠ 0 by omega)
  have a2 := Int.lt_ediv_add_one_mul_self px (show 0 < s by omega)
  have b1 := Int.ediv_mul_le qx (show s ≠ 0 by omega)
  have b2 := Int.lt_ediv_add_one_mul_self qx (show 0 < s by omega)
  have c1 : (px / s + i) * s ≤ qx / s * s := Int.mul_le_mul_of_nonneg_right (by rw [hk]; omega) (by omega)
  have c2 : px / s * s ≤ (px / s + i) * s := Int.mul_le_mul_of_nonneg_right (by omega) (by omega)
  rw [Int.add_mul, Int.one_mul] at a2 b2
  refine ⟨by omega, by omega, fun h => ?_, fun h => ?_, fun h => ?_, fun h => ?_⟩
  · subst h; simpa using a1
  · have : (px / s + 1) * s ≤ (px / s + i) * s := Int.mul_le_mul_of_nonneg_right (by omega) (by omega)
    rw [Int.add_mul (px / s) 1 s, Int.one_mul] at this
    omega
  · rcases Nat.lt_or_ge i k with h' | h'
    · exact h'
    · exfalso
      have e : i = k := by omega
      rw [e, ← hk] at h
      omega
  · have : (px / s + i + 1) * s ≤ qx / s * s := Int.mul_le_mul_of_nonneg_right (by rw [hk]; omega) (by omega)
    rw [Int.add_mul (px / s + i), Int.one_mul] at this
    omega

set_option maxRecDepth 20000 in
set_option maxHeartbeats 4000000 in
theorem column_zero (px py qy s x lo hi : Int) (w : World) (w1 : wrap64 px = px) (w2 : wrap64 py = py) (w4 : wrap64 qy = qy)
    (C1 : Hid (∀ w, Calls Try.prog 32 #[.int .i64 py, .int .i64 s] w fun e w' => e = .returned (.int .i64 (py / s)) ∧ w' = w))
    (C2 : Hid (∀ w, Calls Try.prog 32 #[.int .i64 qy, .int .i64 s] w fun e w' => e = .returned (.int .i64 (qy / s)) ∧ w' = w))
    (hlo : py / s < qy / s → lo = py / s ∧ hi = qy / s) (hhi : ¬ py / s < qy / s → lo = qy / s ∧ hi = py / s) :
    Calls Try.prog 41 #[pt px py, pt px qy, .int .i64 s, .int .i64 x] w fun e w' => e = .returned (.tuple #[.int .i64 lo, .int .i64 hi]) ∧ Gr w w' := by
  have HL := hid0 (And.intro hlo hhi)
  clear hlo hhi
  have b4 := (Bk.new w 23 [.int .i32 px, .int .i32 py]).alloc (.cells #[.int .i32 px, .int .i32 qy] 23)
  have b5 := Bk.new (w.alloc (.cells #[.int .i32 px, .int .i32 py] 23)) 23 [.int .i32 px, .int .i32 qy]
  have g0 : Gr w ((w.alloc (.cells #[.int .i32 px, .int .i32 py] 23)).alloc (.cells #[.int .i32 px, .int .i32 qy] 23)) := ((Gr.refl _).alloc _).alloc _
  rw [World.size_alloc] at b5
  have hz : wrap64 (px - px) = 0 := by rw [Int.sub_self]; unfold wrap64; omega
  by_cases hlt : py / s < qy / s
  · obtain ⟨rfl, rfl⟩ := HL.out.1 hlt
    clear HL
    generalize py / s = A at *
    generalize qy / s = B at *
    go_enter Try.func41, Try.ntmps41
    go_upto_region 1 with fail
    generalize (w.alloc (.cells #[.int .i32 px, .int .i32 py] 23)).alloc (.cells #[.int .i32 px, .int .i32 qy] 23) = W at *
    obtain ⟨p0, p1⟩ := b4.two
    obtain ⟨q0, q1⟩ := b5.two
    go_wp2_with (first
      | (go_at_call 32; refine (C1.out _).mono ?_; rintro e w9 ⟨rfl, rfl⟩; clear C1)
      | (go_at_call 32; refine (C2.out _).mono ?_; rintro e w9 ⟨rfl, rfl⟩; clear C2))
    go_ret2
    exact ⟨rfl, g0⟩
  · obtain ⟨rfl, rfl⟩ := HL.out.2 hlt
    clear HL
    generalize py / s = A at *
    generalize qy / s = B at *
    go_enter Try.func41, Try.ntmps41
    go_upto_region 1 with fail
    generalize (w.alloc (.cells #[.int .i32 px, .int .i32 py] 23)).alloc (.cells #[.int .i32 px, .int .i32 qy] 23) = W at *
    obtain ⟨p0, p1⟩ := b4.two
    obtain ⟨q0, q1⟩ := b5.two
    go_wp2_with (first
      | (go_at_call 32; refine (C1.out _).mono ?_; rintro e w9 ⟨rfl, rfl⟩; clear C1)
      | (go_at_call 32; refine (C2.out _).mono ?_; rintro e w9 ⟨rfl, rfl⟩; clear C2))
    go_ret2
    exact ⟨rfl, g0⟩

theorem in64_of {x : Int} (h1 : -9000000000000000000 ≤ x) (h2 : x ≤ 9000000000000000000) : in64 x := by unfold in64; omega
set_option maxHeartbeats 2000000 in
theorem column_any (p q : C2) (s : Int) (k i : Nat) (hp : latP p) (hq : latP q) (hs : 1 ≤ s) (hs2 : s ≤ 2147483648) (hpq : p.1 ≤ q.1) (hk : q.1 / s = p.1 / s + k) (hi : i ≤ k) (w : World) :
    Calls Try.prog 41 #[cv p, cv q, .int .i64 s, .int .i64 (p.1 / s + i)] w fun e w' => e = .returned (.tuple #[.int .i64 (colP p q s k i).1.2, .int .i64 (colP p q s k i).2.2]) ∧ Gr w w' := by
  have hr1 := colP_rows p q s k i
  have hr2 := colP_rows' p q s k i
  generalize (colP p q s k i).1.2 = lo at *
  generalize (colP p q s k i).2.2 = hi' at *
  have hen := ent_x p q s i
  obtain ⟨px, py⟩ := p
  obtain ⟨qx, qy⟩ := q
  unfold latP at hp hq
  dsimp only at *
  have C1 := hid0 (down_any py s hs (in64_of (by omega) (by omega)))
  have C2 := hid0 (down_any qy s hs (in64_of (by omega) (by omega)))
  have w1 : wrap64 px = px := w64_in (in64_of (by omega) (by omega))
  have w2 : wrap64 py = py := w64_in (in64_of (by omega) (by omega))
  have w3 : wrap64 qx = qx := w64_in (in64_of (by omega) (by omega))
  have w4 : wrap64 qy = qy := w64_in (in64_of (by omega) (by omega))
  by_cases hd : qx - px = 0
  · have e : qx = px := by omega
    subst e
    have hk0 : k = 0 := by omega
    have hi0 : i = 0 := by omega
    subst hk0
    subst hi0
    exact column_zero qx py qy s _ lo hi' w w1 w2 w4 C1 C2 hr1 hr2
  · obtain ⟨l1, l2, l3, l4, l5⟩ := left_at px qx s k i hs hk hi
    have hent : (entP (px, py) (qx, qy) s i).2 = if px < (px / s + i) * s then (py * (qx - px) + (qy - py) * ((px / s + i) * s - px)) / ((qx - px) * s) else py / s := by
      by_cases h0 : 0 < i
      · rw [if_pos (l4 h0)]
        obtain ⟨j, rfl⟩ : ∃ j, i = j + 1 := ⟨i - 1, by omega⟩
        show (py + (qy - py) * ((px / s + ((j + 1 : Nat) : Int)) * s - px) / (qx - px)) / s = _
        exact row_eq _ _ _ _ (by omega) hs
      · have h00 : i = 0 := by omega
        rw [if_neg (by have := l3 h00; omega)]
        subst h00
        rfl
    have hlea : (leaP (px, py) (qx, qy) s k i).2 = if (px / s + i) * s + s ≤ qx then (if 0 < qy - py then (py * (qx - px) + (qy - py) * ((px / s + i) * s + s - px) - 1) / ((qx - px) * s) else (py * (qx - px) + (qy - py) * ((px / s + i) * s + s - px)) / ((qx - px) * s)) else qy / s := by
      have em : (px / s + ((i + 1 : Nat) : Int)) * s = (px / s + i) * s + s := by
        rw [show px / s + ((i + 1 : Nat) : Int) = (px / s + i) + 1 by omega, Int.add_mul, Int.one_mul]
      unfold leaP
      by_cases h0 : i < k
      · rw [if_pos h0, if_pos (l5.2 h0)]
        unfold befP rowP risP
        dsimp only
        rw [em]
        split
        · rw [row_eq _ _ _ _ (by omega) hs]
          congr 1
          omega
        · exact row_eq _ _ _ _ (by omega) hs
      · rw [if_neg h0, if_neg (fun h => h0 (l5.1 h))]
        rfl
    rw [hent, hlea] at hr1 hr2
    clear hent hlea hen
    generalize hX : px / s + (i : Int) = X at *
    have hXb : -2147483648 ≤ X ∧ X ≤ 1073741823 := by
      have hq1 := ediv_32 hs (a := qx) (by unfold in32; omega)
      have hq2 := (ediv_bd hs (a := qx) (in64_of (by omega) (by omega))).2
      have hp2 := (ediv_bd hs (a := px) (in64_of (by omega) (by omega))).2
      have : px / s ≤ X := by omega
      have h3 : X ≤ qx / s := by omega
      constructor
      · by_cases h : 0 ≤ px
        · have := hp2.1 h; omega
        · have := hp2.2 (by omega); omega
      · by_cases h : 0 ≤ qx
        · have := hq2.1 h; omega
        · have := hq2.2 (by omega); omega
    generalize hL : X * s = L at *
    have bA := mul_bd (a := py) (b := qx - px) (K := 2147483646) (by omega) (by omega) (by omega) (by omega)
    have bD : 1 ≤ (qx - px) * s ∧ (qx - px) * s ≤ 2147483646 * 2147483648 := by
      constructor
      · have := Int.mul_le_mul (show (1 : Int) ≤ qx - px by omega) hs (by omega) (by omega)
        simpa using this
      · exact Int.mul_le_mul (by omega) hs2 (by omega) (by omega)
    have bV : px < L → -(2147483646 * 2147483646) ≤ (qy - py) * (L - px) ∧ (qy - py) * (L - px) ≤ 2147483646 * 2147483646 := fun h => mul_bd (by omega) (by omega) (by omega) (by omega)
    have bV2 : L + s ≤ qx → -(2147483646 * 2147483646) ≤ (qy - py) * (L + s - px) ∧ (qy - py) * (L + s - px) ≤ 2147483646 * 2147483646 := fun h => mul_bd (by omega) (by omega) (by omega) (by omega)
    have bB : -(1073741823 * 2147483646) ≤ py * (qx - px) ∧ py * (qx - px) ≤ 1073741823 * 2147483646 := by
      have h1 : py * (qx - px) ≤ 1073741823 * (qx - px) := Int.mul_le_mul_of_nonneg_right (by omega) (by omega)
      have h2 : (-1073741823) * (qx - px) ≤ py * (qx - px) := Int.mul_le_mul_of_nonneg_right (by omega) (by omega)
      constructor <;> omega
    clear bA
    generalize hB : py * (qx - px) = B at *
    generalize hV : (qy - py) * (L - px) = V at *
    generalize hV2 : (qy - py) * (L + s - px) = V2 at *
    generalize hDD : (qx - px) * s = D at *
    refine column_raw px py qx qy s X (qx - px) (qy - py) L (L + s) B (L - px) V (B + V) (L + s - px) V2 (B + V2) D (if px < L then (B + V) / D else py / s) (if L + s ≤ qx then (if 0 < qy - py then (B + V2 - 1) / D else (B + V2) / D) else qy / s) lo hi' w
      w1 w2 w3 w4 (w64_in (in64_of (by omega) (by omega))) (w64_in (in64_of (by omega) (by omega))) (by rw [hL]; exact w64_in (in64_of (by omega) (by omega))) (w64_in (in64_of (by omega) (by omega))) (by rw [hB]; exact w64_in (in64_of (by omega) (by omega)))
      (fun h => w64_in (in64_of (by omega) (by omega))) (fun h => by rw [hV]; have := bV h; exact w64_in (in64_of (by omega) (by omega))) (fun h => by have := bV h; exact w64_in (in64_of (by omega) (by omega))) (by rw [hDD]; exact w64_in (in64_of (by omega) (by omega)))
      (fun h => w64_in (in64_of (by omega) (by omega))) (fun h => by rw [hV2]; have := bV2 h; exact w64_in (in64_of (by omega) (by omega))) (fun h => by have := bV2 h; exact w64_in (in64_of (by omega) (by omega)))
      hd C1 C2 (fun h => by rw [if_pos h]; have := bV h; exact down_any _ _ bD.1 (in64_of (by omega) (by omega))) (fun h => by have := bV2 h; exact down_any _ _ bD.1 (in64_of (by omega) (by omega)))
      (fun h h' => by
        rw [if_pos h, if_pos h']
        have := bV2 h
        have e := up_any (B + V2) D bD.1 (in64_of (by omega) (by omega)) (in64_of (by omega) (by omega))
        have e2 : (B + V2 - 1) / D + 1 = -((-(B + V2)) / D) := by have := up_eq (B + V2) D bD.1; omega
        rw [e2]
        exact e)
      (fun h => by rw [if_neg h]) (fun h => by rw [if_neg h]) ?_ (fun h h' => by rw [if_pos h, if_neg (by omega)]) ?_ hr1 hr2
    · intro h h'
      rw [if_pos h, if_neg (by omega)]
      have v1 : V = 0 := by rw [← hV, h', Int.zero_mul]
      have v2 : V2 = 0 := by rw [← hV2, h', Int.zero_mul]
      have e := row_eq py 0 (qx - px) s (by omega) hs
      rw [Int.zero_ediv, Int.add_zero, Int.add_zero, hB, hDD] at e
      rw [v1, v2, Int.add_zero, e]
      split <;> rfl
    · refine w64_in ?_
      split
      · rename_i h
        have := bV2 h
        split
        · exact (ediv_bd bD.1 (in64_of (by omega) (by omega))).1
        · exact (ediv_bd bD.1 (in64_of (by omega) (by omega))).1
      · exact (ediv_bd hs (in64_of (by omega) (by omega))).1
end Go.Proofs.Ytmoddfikhipagaa
