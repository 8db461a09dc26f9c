/- The law WideRing, walked: for any three numbers of 128 bits the call returns true, and the memory that was there is as it was. -/
import Derived.Test.YtgpkigofbncamaaWide
import Derived.BigQuiet
import Derived.Deep.DeepMust
import Derived.Deep.RegionWith
namespace Go.Proofs.Ytgpkigofbncamaa
open Go.RowKit Go.Sort

abbrev PB (t : TypeId) (m : Int) : Obj := Obj.cells #[.int .i64 (hiI m), .int .u64 (loI m)] t

theorem cell_gr2 {W : World} {b : Nat} {x y : Value} (hb : b < W.heap.size) (h : W.cell? ⟨b, 0, none⟩ = some x) (h' : W.cell? ⟨b, 1, none⟩ = some y) :
    (∀ n os, (grow (W.drewN n) os).cell? ⟨b, 0, none⟩ = some x) ∧ (∀ n os, (grow (W.drewN n) os).cell? ⟨b, 1, none⟩ = some y) :=
  ⟨fun n os => cell_grown (a := ⟨b, 0, none⟩) hb h n os, fun n os => cell_grown (a := ⟨b, 1, none⟩) hb h' n os⟩

theorem regr {W : World} {a : Addr} {v : Value} (h : ∀ n os, (grow (W.drewN n) os).cell? a = some v) (nq : Nat) (osq : Array Obj) : ∀ n os, (grow ((grow (W.drewN nq) osq).drewN n) os).cell? a = some v := fun n os => by
  have e : grow ((grow (W.drewN nq) osq).drewN n) os = grow (W.drewN (nq + n)) (osq ++ os) := by
    show grow (grow ((W.drewN nq).drewN n) osq) os = _
    rw [grow_grow, World.drewN_drewN]
  rw [e]; exact h _ _

set_option maxRecDepth 100000 in
set_option maxHeartbeats 4000000 in
theorem ring_walk (m n k : Int) (hm : inI m) (hn : inI n) (hk : inI k) (w : World) :
    Calls Try.prog 7 #[.agg #[.int .i64 (hiI m), .int .u64 (loI m)], .agg #[.int .i64 (hiI n), .int .u64 (loI n)], .agg #[.int .i64 (hiI k), .int .u64 (loI k)]] w fun e w' => e = .returned (.bool true) ∧ Gr w w' := by
  go_enter Try.func7, Try.ntmps7
  go_wp2
  have hG : Gr w ((((((((((((w.alloc (PB 24 m)).alloc (PB 24 n)).alloc (PB 24 k)).alloc (PB 24 m)).alloc (PB 25 m)).alloc (PB 25 m)).alloc (PB 24 n)).alloc (PB 25 n)).alloc (PB 25 n)).alloc (PB 24 k)).alloc (PB 25 k)).alloc (PB 25 k)) :=
    ((((((((((((Gr.refl _).alloc _).alloc _).alloc _).alloc _).alloc _).alloc _).alloc _).alloc _).alloc _).alloc _).alloc _).alloc _
  have h7 := cell_gr2 (W := (((((((((((w.alloc (PB 24 m)).alloc (PB 24 n)).alloc (PB 24 k)).alloc (PB 24 m)).alloc (PB 25 m)).alloc (PB 25 m)).alloc (PB 24 n)).alloc (PB 25 n)).alloc (PB 25 n)).alloc (PB 24 k)).alloc (PB 25 k)).alloc (PB 25 k)) (b := w.heap.size + 1 + 1 + 1 + 1 + 1) (x := .int .i64 (hiI m)) (y := .int .u64 (loI m)) (by simp) (by go_simp) (by go_simp)
  have h8 := cell_gr2 (W := (((((((((((w.alloc (PB 24 m)).alloc (PB 24 n)).alloc (PB 24 k)).alloc (PB 24 m)).alloc (PB 25 m)).alloc (PB 25 m)).alloc (PB 24 n)).alloc (PB 25 n)).alloc (PB 25 n)).alloc (PB 24 k)).alloc (PB 25 k)).alloc (PB 25 k)) (b := w.heap.size + 1 + 1 + 1 + 1 + 1 + 1 + 1 + 1) (x := .int .i64 (hiI n)) (y := .int .u64 (loI n)) (by simp) (by go_simp) (by go_simp)
  have h9 := cell_gr2 (W := (((((((((((w.alloc (PB 24 m)).alloc (PB 24 n)).alloc (PB 24 k)).alloc (PB 24 m)).alloc (PB 25 m)).alloc (PB 25 m)).alloc (PB 24 n)).alloc (PB 25 n)).alloc (PB 25 n)).alloc (PB 24 k)).alloc (PB 25 k)).alloc (PB 25 k)) (b := w.heap.size + 1 + 1 + 1 + 1 + 1 + 1 + 1 + 1 + 1 + 1 + 1) (x := .int .i64 (hiI k)) (y := .int .u64 (loI k)) (by simp) (by go_simp) (by go_simp)
  generalize (((((((((((w.alloc (PB 24 m)).alloc (PB 24 n)).alloc (PB 24 k)).alloc (PB 24 m)).alloc (PB 25 m)).alloc (PB 25 m)).alloc (PB 24 n)).alloc (PB 25 n)).alloc (PB 25 n)).alloc (PB 24 k)).alloc (PB 25 k)).alloc (PB 25 k) = W at *
  obtain ⟨h70, h71⟩ := h7
  obtain ⟨h80, h81⟩ := h8
  obtain ⟨h90, h91⟩ := h9
  have e1 : (hiI (m + n) == hiI (n + m)) = true := by rw [Int.add_comm]; simp
  have e2 : (loI (m + n) == loI (n + m)) = true := by rw [Int.add_comm]; simp
  have e3 : (hiI (m + n + k) == hiI (m + (n + k))) = true := by rw [Int.add_assoc]; simp
  have e4 : (loI (m + n + k) == loI (m + (n + k))) = true := by rw [Int.add_assoc]; simp
  have e5 : (hiI (m - n) == hiI (m + -n)) = true := by rw [← Int.sub_eq_add_neg]; simp
  have e6 : (loI (m - n) == loI (m + -n)) = true := by rw [← Int.sub_eq_add_neg]; simp
  have e7 : (hiI (m + -m) == 0) = true := by rw [Int.add_right_neg]; rfl
  have e8 : (loI (m + -m) == 0) = true := by rw [Int.add_right_neg]; rfl
  refine wp_region_quiet_grown (by kernel_rfl) (by kernel_rfl) ?_
  repeat (first
    | go_big_quiet_step (first | (go_at_call 11; exact Calls.grown_of (add_any _ _ _)) | (go_at_call 13; exact Calls.grown_of (sub_any _ _ _)) | (go_at_call 15; exact Calls.grown_of (neg_any _ _)))
    | quiet_step (first | (go_at_call 11; exact Calls.grown_of (add_any _ _ _)) | (go_at_call 13; exact Calls.grown_of (sub_any _ _ _)) | (go_at_call 15; exact Calls.grown_of (neg_any _ _))))
  refine wpQuiet_nil ?_
  intro _ hw'
  obtain ⟨⟨nq, osq⟩, hw''⟩ := hw'
  subst hw''
  clear e1 e2 e3 e4 e5 e6 e7 e8
  have g := hG.trans ⟨nq, osq, rfl⟩
  clear hG
  replace h70 := regr h70 nq osq
  replace h71 := regr h71 nq osq
  replace h80 := regr h80 nq osq
  replace h81 := regr h81 nq osq
  replace h90 := regr h90 nq osq
  replace h91 := regr h91 nq osq
  generalize grow (W.drewN nq) osq = W1 at *
  go_wp2
  obtain ⟨b1, b2⟩ := cmpI_bd m n
  obtain ⟨b3, b4⟩ := cmpI_bd n m
  have f1 : (cmpI m n != -cmpI n m) = false := by rw [← cmpI_neg]; simp
  have cases3 : ((hiI m == hiI n) = true ∧ (loI m == loI n) = true ∧ (cmpI m n == 0) = true) ∨ ((hiI m == hiI n) = false ∧ (hiI m == hiI n) = false ∧ (cmpI m n == 0) = false) ∨ ((hiI m == hiI n) = true ∧ (loI m == loI n) = false ∧ (cmpI m n == 0) = false) := by
    by_cases h : hiI m = hiI n
    · by_cases l : loI m = loI n
      · exact .inl ⟨by simp [h], by simp [l], by simp [cmp_same hm hn h l]⟩
      · refine .inr (.inr ⟨by simp [h], by simp [l], ?_⟩)
        simp only [beq_eq_false_iff_ne, ne_eq, cmpI_zero]
        rintro rfl; exact l rfl
    · refine .inr (.inl ⟨by simp [h], by simp [h], ?_⟩)
      simp only [beq_eq_false_iff_ne, ne_eq, cmpI_zero]
      rintro rfl; exact h rfl
  have tri : 0 < cmpI m n ∨ (¬ 0 < cmpI m n ∧ 0 < cmpI n k) ∨ (¬ 0 < cmpI m n ∧ ¬ 0 < cmpI n k ∧ cmpI m k ≤ 0) := by
    rcases cmpI_tri m n k with h | h | h <;> omega
  rcases cases3 with ⟨f2, f3, f4⟩ | ⟨f2, f3, f4⟩ | ⟨f2, f3, f4⟩
  all_goals
    refine wp_region_quiet_grown (by kernel_rfl) (by kernel_rfl) ?_
    repeat (go_big_quiet_step (first | (go_at_call_of 21 (Value.agg #[Value.int IntKind.i64 0, Value.int IntKind.u64 0]); refine Calls.grown_of (cmp0_any _ ?_ _) <;> assumption) | (go_at_call 21; refine Calls.grown_of (cmp_any _ _ ?_ ?_ _) <;> assumption) | (go_at_call 19; refine Calls.grown_of (sign_any _ ?_ _) <;> assumption)))
    refine wpQuiet_nil ?_
    intro _ hw'
    obtain ⟨⟨nq2, osq2⟩, hw''⟩ := hw'
    subst hw''
    clear f1 f2 f3 f4 b1 b2 b3 b4
    have g2 := g.trans ⟨nq2, osq2, rfl⟩
    clear g
    replace h70 := regr h70 nq2 osq2
    replace h71 := regr h71 nq2 osq2
    replace h80 := regr h80 nq2 osq2
    replace h81 := regr h81 nq2 osq2
    replace h90 := regr h90 nq2 osq2
    replace h91 := regr h91 nq2 osq2
    generalize grow (W1.drewN nq2) osq2 = W2 at *
    have i70 : W2.cell? ⟨w.heap.size + 1 + 1 + 1 + 1 + 1, 0, none⟩ = some (.int .i64 (hiI m)) := by simpa using h70 0 #[]
    have i71 : W2.cell? ⟨w.heap.size + 1 + 1 + 1 + 1 + 1, 1, none⟩ = some (.int .u64 (loI m)) := by simpa using h71 0 #[]
    have i80 : W2.cell? ⟨w.heap.size + 1 + 1 + 1 + 1 + 1 + 1 + 1 + 1, 0, none⟩ = some (.int .i64 (hiI n)) := by simpa using h80 0 #[]
    have i81 : W2.cell? ⟨w.heap.size + 1 + 1 + 1 + 1 + 1 + 1 + 1 + 1, 1, none⟩ = some (.int .u64 (loI n)) := by simpa using h81 0 #[]
    have j70 := fun a b c d => regr h70 a b c d
    have j71 := fun a b c d => regr h71 a b c d
    have j90 := fun a b c d => regr h90 a b c d
    have j91 := fun a b c d => regr h91 a b c d
    rcases tri with t1 | ⟨t1, t2⟩ | ⟨t1, t2, t3⟩
    all_goals
      go_wp2_with (go_at_call 21; refine (cmp_any _ _ ?_ ?_ _).mono ?_; assumption; assumption; rintro e w' ⟨rfl, ⟨q1, os1, rfl⟩⟩)
    · go_ret
      exact ⟨rfl, g2.trans ⟨_, _, rfl⟩⟩
    · go_ret
      exact ⟨rfl, (g2.trans ⟨_, _, rfl⟩).trans ⟨_, _, rfl⟩⟩
    · go_ret
      exact ⟨rfl, ((g2.trans ⟨_, _, rfl⟩).trans ⟨_, _, rfl⟩).trans ⟨_, _, rfl⟩⟩
end Go.Proofs.Ytgpkigofbncamaa
