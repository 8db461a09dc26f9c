/- The program's Thin: what is wrong first; a line of less than three points; thinned. -/
import Derived.Test.YtljdnahomhbenaaTh7
namespace Go.Proofs.Ytljdnahomhbenaa
section
set_option linter.unusedSimpArgs false
set_option linter.unusedVariables false
open Go.RowKit Go.Sort

def latQ (p : Int × Int) : Bool := latB p.1 && latB p.2
def anyOut (L : List (Int × Int)) : Bool := L.any fun p => !latQ p
theorem any_pos {L : List (Int × Int)} {k : Nat} (hk : k < L.length) (h : latQ (L.getD k (0, 0)) = false) : anyOut L = true := by
  unfold anyOut
  rw [List.any_eq_true]
  refine ⟨L[k], List.getElem_mem hk, ?_⟩
  have : L.getD k (0, 0) = L[k] := by simp [List.getD, hk]
  rw [← this, h]; rfl
theorem any_neg {L : List (Int × Int)} (h : ∀ j, j < L.length → latQ (L.getD j (0, 0)) = true) : anyOut L = false := by
  unfold anyOut
  rw [List.any_eq_false]
  intro p hp
  obtain ⟨i, hi, rfl⟩ := List.getElem_of_mem hp
  have := h i hi
  rw [show L.getD i (0, 0) = L[i] from by simp [List.getD, hi]] at this
  simp [this]
theorem out_any (p : Int × Int) (w : World) : Calls Try.prog 74 #[pt p.1 p.2] w fun e w' => e = .returned (.bool (!latQ p)) ∧ Gr w w' := by
  have I := hid0 (fun w => in_any p.1 p.2 w)
  have e : latQ p = (latB p.1 && latB p.2) := rfl
  rw [e]
  clear e
  generalize (latB p.1 && latB p.2) = B at *
  obtain ⟨x, y⟩ := p
  dsimp only at *
  have g0 : Gr w (w.alloc (.cells #[.int .i32 x, .int .i32 y] 28)) := (Gr.refl _).alloc _
  have k0 := Hs.new w 28 #[.int .i32 x, .int .i32 y]
  have c0 : (w.alloc (.cells #[.int .i32 x, .int .i32 y] 28)).cell? ⟨w.heap.size, 0, none⟩ = some (.int .i32 x) := k0.cell rfl
  have c1 : (w.alloc (.cells #[.int .i32 x, .int .i32 y] 28)).cell? ⟨w.heap.size, 1, none⟩ = some (.int .i32 y) := k0.cell rfl
  clear k0
  go_enter Try.func74, Try.ntmps74
  go_upto_region 1 with fail
  generalize w.alloc (.cells #[.int .i32 x, .int .i32 y] 28) = W at *
  go_wp2_with (go_at_call 75; refine (I.out _).mono ?_; rintro e w1 ⟨rfl, g1⟩)
  go_ret
  exact ⟨rfl, g0.trans g1⟩
set_option maxRecDepth 20000 in
set_option maxHeartbeats 4000000 in
theorem index_out (ao : Option Addr) (cap : Nat) (L : List (Int × Int)) (hl : L.length ≤ 281474976710656) (w : World) (hP : Pts w ao L) :
    Calls Try.prog 38 #[.slice ao L.length cap, .func (.func 74) #[] #[]] w fun e w' => ∃ r : Int, e = .returned (.int .i64 r) ∧ decide (0 ≤ r) = anyOut L ∧ Gr w w' := by
  have HP := hid0 hP
  have HT : Hid ((∀ j, j < L.length → latQ (L.getD j (0, 0)) = true) → anyOut L = false) := any_neg
  have HF : Hid (∀ k, k < L.length → latQ (L.getD k (0, 0)) = false → anyOut L = true) := fun k => any_pos
  generalize anyOut L = R at *
  clear hP
  go_enter Try.func38, Try.ntmps38
  go_wp2
  go_loopw [8] (fun i wr => ∃ k : Nat, k ≤ L.length ∧ i = .int .i64 k ∧ Hid (∀ j, j < k → latQ (L.getD j (0, 0)) = true) ∧ Gr w wr) (fun i _ => L.length - (intOf i).toNat)
  case atStart => exact ⟨0, by omega, rfl, (by intro j hj; omega), Gr.refl _⟩
  case round =>
    obtain ⟨k, hk, rfl, hE, hG⟩ := hrel
    by_cases hlt : k < L.length
    · obtain ⟨b, off, rfl, p0, p1⟩ := HP.out k hlt
      replace p0 := below_cell p0 hG.below
      replace p1 := below_cell p1 hG.below
      have OU := fun w => hid0 (out_any (L.getD k (0, 0)) w)
      have HF' := hid0 (HF.out k hlt)
      have HE' : Hid (latQ (L.getD k (0, 0)) = true → ∀ j, j < k + 1 → latQ (L.getD j (0, 0)) = true) := fun e j hj => by
        by_cases c : j = k
        · subst c; exact e
        · exact hE.out j (by omega)
      clear HF hE
      generalize latQ (L.getD k (0, 0)) = B at *
      generalize (L.getD k (0, 0)).1 = X at *
      generalize (L.getD k (0, 0)).2 = Y at *
      cases B with
      | true =>
        replace HE' := hid0 (HE'.out rfl)
        clear HF'
        go_wp2_with (go_at_call 74; refine (OU _).out.mono ?_; rintro e w1 ⟨rfl, g1⟩)
        go_roundw
        case rel => exact ⟨k + 1, by omega, by go_num, HE', hG.trans g1⟩
        case measure => simp [intOf]; omega
      | false =>
        have eF := hid0 (HF'.out rfl)
        clear HF' HE' HT
        go_wp2_with (go_at_call 74; refine (OU _).out.mono ?_; rintro e w1 ⟨rfl, g1⟩)
        go_ret
        exact ⟨k, rfl, by rw [eF.out]; exact decide_eq_true (by omega), hG.trans g1⟩
    · obtain rfl : k = L.length := by omega
      have eT := hid0 (HT.out hE.out)
      clear HT HF
      go_wp2
      go_ret
      exact ⟨-1, rfl, by rw [eT.out]; rfl, hG⟩
theorem cont_out (ao : Option Addr) (cap : Nat) (L : List (Int × Int)) (hl : L.length ≤ 281474976710656) (w : World) (hP : Pts w ao L) :
    Calls Try.prog 76 #[.slice ao L.length cap, .func (.func 74) #[] #[]] w fun e w' => e = .returned (.bool (anyOut L)) ∧ Gr w w' := by
  have I := hid0 (index_out ao cap L hl w hP)
  clear hP
  generalize anyOut L = R at *
  go_enter Try.func76, Try.ntmps76
  go_wp2_with (go_at_call 38; refine I.out.mono ?_; rintro e w1 ⟨r, rfl, hr, g1⟩)
  go_ret
  refine ⟨?_, g1⟩
  rw [← hr]
  rfl
def faultF (V : List (Int × Int)) (tol : Int) : Int := if 4096 < V.length then 4 else if tol < 0 ∨ 3037000498 < tol then 2 else if anyOut V then 190 else 0
set_option maxRecDepth 20000 in
set_option maxHeartbeats 4000000 in
theorem fault_any (ao : Option Addr) (cap : Nat) (V : List (Int × Int)) (tol : Int) (hl : V.length ≤ 281474976710656) (w : World) (hP : Pts w ao V) :
    Calls Try.prog 47 #[.slice ao V.length cap, .int .i64 tol] w fun e w' => e = .returned (.int .i64 (faultF V tol)) ∧ Gr w w' := by
  have C := hid0 (cont_out ao cap V hl w hP)
  clear hP
  unfold faultF
  by_cases h1 : 4096 < V.length
  · rw [if_pos h1]
    have h1' : (V.length : Int) > 4096 := by omega
    go_enter Try.func47, Try.ntmps47
    go_wp2
    go_ret
    exact ⟨rfl, Gr.refl _⟩
  · rw [if_neg h1]
    have h1' : ¬ (V.length : Int) > 4096 := by omega
    by_cases h2 : tol < 0
    · rw [if_pos (Or.inl h2)]
      go_enter Try.func47, Try.ntmps47
      go_wp2
      go_ret
      exact ⟨rfl, Gr.refl _⟩
    · by_cases h3 : 3037000498 < tol
      · rw [if_pos (Or.inr h3)]
        have h3' : tol > 3037000498 := h3
        go_enter Try.func47, Try.ntmps47
        go_wp2
        go_ret
        exact ⟨rfl, Gr.refl _⟩
      · rw [if_neg (by omega)]
        have h3' : ¬ tol > 3037000498 := h3
        generalize anyOut V = R at *
        cases R with
        | true =>
          go_enter Try.func47, Try.ntmps47
          go_wp2_with (go_at_call 76; refine C.out.mono ?_; rintro e w1 ⟨rfl, g1⟩)
          go_ret
          exact ⟨rfl, g1⟩
        | false =>
          go_enter Try.func47, Try.ntmps47
          go_wp2_with (go_at_call 76; refine C.out.mono ?_; rintro e w1 ⟨rfl, g1⟩)
          go_ret
          exact ⟨rfl, g1⟩
theorem run_eqnil (ao : Option Addr) (l c : Nat) (w : World) : (binOp .eql 22 (.slice ao l c) (.slice none 0 0)).run Try.prog w = .ok (.bool ao.isNone) w := by
  simp [binOp, run_equal_slice_nil w 22 28 ao l c Try.underlying22]
set_option maxRecDepth 20000 in
set_option maxHeartbeats 4000000 in
theorem clone_any (ao : Option Addr) (cap : Nat) (V : List (Int × Int)) (hl : V.length ≤ 4096) (w : World) (hP : Pts w ao V) :
    Calls Try.prog 48 #[.slice ao V.length cap] w fun e w' => ∃ sv, e = .returned sv ∧ w'.ownsRow w.heap.size 28 2 sv V.length (flat V) ∧ Below w.heap.size w w' := by
  obtain ⟨i0, hi, hz0, hz1, hz2⟩ := info_parts Try.info28
  cases ao with
  | none =>
    have e : V = [] := by
      cases V with
      | nil => rfl
      | cons p r =>
        obtain ⟨_, _, h, _⟩ := hP 0 (by simp)
        cases h
    subst e
    clear hP
    have NE := fun w => run_eqnil none 0 cap w
    simp only [Option.isNone_none] at NE
    go_enter Try.func48, Try.ntmps48
    go_wp2
    go_ret
    exact ⟨_, rfl, World.ownsRow_nil _ _ _ _, Below.refl _ _⟩
  | some a =>
    have HC : ∀ (j : Nat) (u : Value), (flat V)[j]? = some u → (w.alloc (.cells #[] 28)).cell? (a.add j) = some u := fun j u h => below_cell (Pts.cellsA hP j u h) ((Gr.refl _).alloc _).below
    have O0 := World.ownsRow_lit (base := w.heap.size) (e := 28) (size := 2) w #[] 0 (Nat.le_refl _) (by unfold maxLen; omega) rfl
    clear hP
    have NE := fun w => run_eqnil (some a) V.length cap w
    simp only [Option.isNone_some] at NE
    go_enter Try.func48, Try.ntmps48
    go_wp2_with (at_builtin; refine wpList_append_own _ rfl (.tmp 5) (.tmp 6) 22 rfl w.heap.size 28 i0 (.agg #[.int .i32 0, .int .i32 0]) 2 8 Try.underlying22 hi hz0 hz1 hz2 rfl (by decide) _ 0 _ rfl O0 a V.length cap (flat V) rfl (flat_len V) HC (flat_cell V) (by unfold maxLen; omega) (by omega) (by simp) ?_)
    intro sv w1 hown1 hgrow _
    have hb1 : Below w.heap.size w w1 := ((Gr.refl w).alloc (.cells #[] 28)).below.grown hgrow (by simp) (fun j hj => (O0.lt j hj).1)
    clear hgrow
    go_wp2
    go_ret
    refine ⟨_, rfl, ?_, hb1⟩
    exact hown1
theorem own_low {w : World} {base base' n : Nat} {v : Value} {xs : List Value} (h : w.ownsRow base' 28 2 v n xs) (hb : base ≤ base') : w.ownsRow base 28 2 v n xs := by
  refine ⟨h.1, ?_⟩
  rcases h.2 with h | ⟨g, cap, cur, e, hg, r⟩
  · exact .inl h
  · exact .inr ⟨g, cap, cur, e, Nat.le_trans hb hg, r⟩
def thinV (V : List (Int × Int)) (tol : Int) : List (Int × Int) := if faultF V tol = 0 then (if V.length < 3 then V else ptsAt V (keptL V tol)) else []
theorem latQ_iff (p : Int × Int) : latQ p = true ↔ latP p := by
  unfold latQ latP
  simp only [latB, Bool.and_eq_true, decide_eq_true_eq]
  try omega
theorem fault_ok {V : List (Int × Int)} {tol : Int} (h : faultF V tol = 0) : V.length ≤ 4096 ∧ (0 ≤ tol ∧ tol ≤ 3037000498) ∧ ∀ p ∈ V, latP p := by
  unfold faultF at h
  by_cases h1 : 4096 < V.length
  · rw [if_pos h1] at h; omega
  · rw [if_neg h1] at h
    by_cases h2 : tol < 0 ∨ 3037000498 < tol
    · rw [if_pos h2] at h; omega
    · rw [if_neg h2] at h
      cases h3 : anyOut V with
      | true => rw [h3] at h; simp at h
      | false =>
        refine ⟨by omega, by omega, fun p hp => ?_⟩
        unfold anyOut at h3
        rw [List.any_eq_false] at h3
        have := h3 p hp
        simp only [Bool.not_eq_true', Bool.not_eq_false] at this
        exact (latQ_iff p).1 this
set_option maxRecDepth 20000 in
set_option maxHeartbeats 4000000 in
theorem thin_any (ao : Option Addr) (cap : Nat) (V : List (Int × Int)) (tol : Int) (hl : V.length ≤ 281474976710656) (hc : V.length ≤ cap) (hcc : cap ≤ 9223372036854775807) (w : World) (hP : Pts w ao V) :
    Calls Try.prog 21 #[.slice ao V.length cap, .int .i64 tol] w fun e w' => ∃ sv, e = .returned (.tuple #[sv, .int .i64 (faultF V tol)]) ∧ w'.ownsRow w.heap.size 28 2 sv (thinV V tol).length (flat (thinV V tol)) ∧ Below w.heap.size w w' := by
  have F := hid0 (fault_any ao cap V tol hl w hP)
  unfold thinV
  by_cases h0 : faultF V tol = 0
  · rw [if_pos h0]
    rw [h0] at F ⊢
    obtain ⟨h1, h2, h3⟩ := fault_ok h0
    clear h0
    by_cases h4 : V.length < 3
    · rw [if_pos h4]
      have h4' : (V.length : Int) < 3 := by omega
      have C := hid0 (fun w' (g : Gr w w') => clone_any ao cap V h1 w' (hP.mono g.below))
      clear hP
      go_enter Try.func21, Try.ntmps21
      go_wp2_with (first
        | (go_at_call 47; refine F.out.mono ?_; rintro e w1 ⟨rfl, g1⟩)
        | (go_at_call 48; refine (C.out _ g1).mono ?_; rintro e w2 ⟨sv, rfl, hown, hb⟩))
      go_ret2
      exact ⟨sv, rfl, own_low hown g1.size, g1.below.trans (hb.mono g1.size)⟩
    · rw [if_neg h4]
      have h4' : ¬ (V.length : Int) < 3 := by omega
      obtain ⟨b, off, rfl, _, _⟩ := hP 0 (by omega)
      have C := hid0 (fun w' (g : Gr w w') => thinned_any b off cap V tol w' h1 (by omega) hc hcc h3 h2 (hP.mono g.below))
      clear hP
      go_enter Try.func21, Try.ntmps21
      go_wp2_with (first
        | (go_at_call 47; refine F.out.mono ?_; rintro e w1 ⟨rfl, g1⟩)
        | (go_at_call 49; refine (C.out _ g1).mono ?_; rintro e w2 ⟨sv, rfl, hown, hb⟩))
      go_ret2
      exact ⟨sv, rfl, by rw [ptsAt_len]; exact own_low hown g1.size, g1.below.trans (hb.mono g1.size)⟩
  · rw [if_neg h0]
    generalize faultF V tol = E at *
    clear hP
    have h0' : (E != 0) = true := bne_iff_ne.2 h0
    go_enter Try.func21, Try.ntmps21
    go_wp2_with (go_at_call 47; refine F.out.mono ?_; rintro e w1 ⟨rfl, g1⟩)
    go_ret2
    exact ⟨_, rfl, World.ownsRow_nil _ _ _ _, g1.below⟩
end
end Go.Proofs.Ytljdnahomhbenaa
