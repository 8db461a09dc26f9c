/- Each call on a set and on the document's own beside it, in one word. -/
import Derived.Test.YtjnjpjpgokdciaaDoorSm
set_option linter.unusedSimpArgs false
set_option linter.unusedVariables false
namespace Go.Proofs.YtjnjpjpgokdciaaDoor
open Go.RowKit Go.Sort Go.Shelf

def addD (T : List Bool) (i : Int) : Bool := decide (0 ≤ i) && decide (i < (T.length : Int)) && !T.getD i.toNat false
def addT (T : List Bool) (i : Int) : List Bool := if addD T i then T.set i.toNat true else T
def delT (T : List Bool) (i : Int) : List Bool := if hasB T i then T.set i.toNat false else T
def errZ (T U : List Bool) : Int := if T.length = U.length then 0 else 2
def zipZ (o : Nat) (T U : List Bool) : List Bool := if T.length = U.length then zipT o T U else T
theorem hasB_in {T : List Bool} {i : Int} (h : hasB T i = true) : ∃ k : Nat, i = k ∧ k < T.length ∧ T.getD k false = true := by
  by_cases ho : i < 0 ∨ (T.length : Int) ≤ i
  · rw [hasB_out ho] at h; cases h
  · obtain ⟨k, rfl⟩ : ∃ k : Nat, i = k := ⟨i.toNat, by omega⟩
    rw [hasB_nat] at h
    exact ⟨k, rfl, by omega, h⟩
theorem addD_yes {T : List Bool} {i : Int} (h : addD T i = true) : ∃ k : Nat, i = k ∧ k < T.length ∧ T.getD k false = false := by
  unfold addD at h
  simp only [Bool.and_eq_true, decide_eq_true_eq, Bool.not_eq_true'] at h
  obtain ⟨⟨h1, h2⟩, h3⟩ := h
  exact ⟨i.toNat, by omega, by omega, h3⟩
theorem addD_no {T : List Bool} {i : Int} (h : addD T i = false) : (i < 0 ∨ (T.length : Int) ≤ i) ∨ hasB T i = true := by
  by_cases ho : i < 0 ∨ (T.length : Int) ≤ i
  · exact .inl ho
  · obtain ⟨k, rfl⟩ : ∃ k : Nat, i = k := ⟨i.toNat, by omega⟩
    refine .inr ?_
    rw [hasB_nat]
    unfold addD at h
    rw [decide_eq_true (by omega), decide_eq_true (by omega), Int.toNat_natCast] at h
    simpa using h
section
variable {w : World} {b g c gc r q s t : Nat} {T U : List Bool} {W V : List Nat}
theorem add_w (h : BitsIs w b g T W) (i : Int) : Calls Tryd.prog 29 #[pT b, .int .i64 i] w fun e w' => e = .returned (.bool (addD T i)) ∧ (∃ W', BitsIs w' b g (addT T i) W') ∧ Chg (fun j => j = g) w w' := by
  cases hd : addD T i with
  | true =>
    obtain ⟨k, rfl, hk, hn⟩ := addD_yes hd
    have e : addT T (k : Int) = T.set k true := by unfold addT; rw [if_pos hd, Int.toNat_natCast]
    rw [e]
    exact add_yes h k hk hn
  | false =>
    have e : addT T i = T := by unfold addT; rw [if_neg (by rw [hd]; decide)]
    rw [e]
    exact (add_no h i (addD_no hd)).mono fun _ _ ⟨h1, h2⟩ => ⟨h1, ⟨W, h.gr h2⟩, Chg.of_gr h2⟩
theorem radd_w (h : RBits w r q T) (i : Int) : Calls Tryd.prog 54 #[pT r, .int .i64 i] w fun e w' => e = .returned (.bool (addD T i)) ∧ RBits w' r q (addT T i) ∧ Chg (fun j => j = q) w w' := by
  cases hd : addD T i with
  | true =>
    obtain ⟨k, rfl, hk, hn⟩ := addD_yes hd
    have e : addT T (k : Int) = T.set k true := by unfold addT; rw [if_pos hd, Int.toNat_natCast]
    rw [e]
    exact radd_yes h k hk hn
  | false =>
    have e : addT T i = T := by unfold addT; rw [if_neg (by rw [hd]; decide)]
    rw [e]
    exact (radd_no h i (addD_no hd)).mono fun _ _ ⟨h1, h2⟩ => ⟨h1, by rw [h2]; exact h, by rw [h2]; exact Chg.refl _ _⟩
theorem del_wb (h : BitsIs w b g T W) (i : Int) : Calls Tryd.prog 55 #[pT b, .int .i64 i] w fun e w' => e = .returned (.bool (hasB T i)) ∧ (∃ W', BitsIs w' b g (delT T i) W') ∧ Chg (fun j => j = g) w w' := by
  cases hd : hasB T i with
  | true =>
    obtain ⟨k, rfl, hk, hn⟩ := hasB_in hd
    have e : delT T (k : Int) = T.set k false := by unfold delT; rw [if_pos hd, Int.toNat_natCast]
    rw [e]
    exact del_yes h k hk hn
  | false =>
    have e : delT T i = T := by unfold delT; rw [if_neg (by rw [hd]; decide)]
    rw [e]
    exact (del_no h i hd).mono fun _ _ ⟨h1, h2⟩ => ⟨h1, ⟨W, h.gr h2⟩, Chg.of_gr h2⟩
theorem rdel_w (h : RBits w r q T) (i : Int) : Calls Tryd.prog 56 #[pT r, .int .i64 i] w fun e w' => e = .returned (.bool (hasB T i)) ∧ RBits w' r q (delT T i) ∧ Chg (fun j => j = q) w w' := by
  cases hd : hasB T i with
  | true =>
    obtain ⟨k, rfl, hk, hn⟩ := hasB_in hd
    have e : delT T (k : Int) = T.set k false := by unfold delT; rw [if_pos hd, Int.toNat_natCast]
    rw [e]
    exact rdel_yes h k hk hn
  | false =>
    have e : delT T i = T := by unfold delT; rw [if_neg (by rw [hd]; decide)]
    rw [e]
    exact (rdel_no h i hd).mono fun _ _ ⟨h1, h2⟩ => ⟨h1, by rw [h2]; exact h, by rw [h2]; exact Chg.refl _ _⟩
theorem change_w (o : Nat) (h : BitsIs w b g T W) (k : BitsIs w c gc U V) : Calls Tryd.prog 61 #[pT b, pT c, .func (.func (fnO o)) #[] #[]] w fun e w' => e = .returned (.int .i64 (errZ T U)) ∧ (∃ W', BitsIs w' b g (zipZ o T U) W') ∧ Chg (fun j => j = g) w w' := by
  unfold errZ zipZ
  by_cases hl : T.length = U.length
  · simp only [if_pos hl]
    exact change_ok o h k hl
  · simp only [if_neg hl]
    exact (change_arg _ h k hl).mono fun _ _ ⟨h1, h2⟩ => ⟨h1, ⟨W, h.gr h2⟩, Chg.of_gr h2⟩
theorem bjoin_w (h : BitsIs w b g T W) (k : BitsIs w c gc U V) : Calls Tryd.prog 26 #[pT b, pT c] w fun e w' => e = .returned (.int .i64 (errZ T U)) ∧ (∃ W', BitsIs w' b g (zipZ 0 T U) W') ∧ Chg (fun j => j = g) w w' := by
  have C : Hid (Calls Tryd.prog 61 #[pT b, pT c, .func (.func 62) #[] #[]] w fun e w' => e = .returned (.int .i64 (errZ T U)) ∧ (∃ W', BitsIs w' b g (zipZ 0 T U) W') ∧ Chg (fun j => j = g) w w') := change_w 0 h k
  clear h k
  generalize errZ T U = z at *
  generalize zipZ 0 T U = Z at *
  go_enter Tryd.func26, Tryd.ntmps26
  go_wp2_with (go_at_call 61; refine C.out.mono ?_; rintro e w1 ⟨rfl, h1, h2⟩)
  go_ret
  exact ⟨rfl, h1, h2⟩
theorem bjoin_nil (v1 v2 : Value) (h : NoBits w v1 ∨ (∃ b, v1 = pT b ∧ w.cell? ⟨b, 0, none⟩ = some (.bool true)) ∧ NoBits w v2) : Calls Tryd.prog 26 #[v1, v2] w fun e w' => e = .returned (.int .i64 1) ∧ w' = w := by
  have C := hid0 (change_nil v1 v2 (.func (.func 62) #[] #[]) w h)
  clear h
  go_enter Tryd.func26, Tryd.ntmps26
  go_wp2_with (go_at_call 61; refine C.out.mono ?_; rintro e w1 ⟨rfl, hw⟩; cases hw)
  go_ret
  exact ⟨rfl, rfl⟩
theorem with_w0 (h : RBits w r q T) (k : RBits w s t U) (hl : T.length ≤ 65536) : Calls Tryd.prog 60 #[pT r, pT s, .int .i64 0] w fun e w' => e = .returned (.int .i64 (errZ T U)) ∧ RBits w' r q (zipZ 0 T U) ∧ Chg (fun j => j = q) w w' := by
  unfold errZ zipZ
  by_cases he : T.length = U.length
  · simp only [if_pos he]
    exact with_ok0 h k he hl
  · simp only [if_neg he]
    exact (with_arg h k 0 he).mono fun _ _ ⟨h1, h2⟩ => ⟨h1, h.gr h2, Chg.of_gr h2⟩
theorem bcut_w (h : BitsIs w b g T W) (k : BitsIs w c gc U V) : Calls Tryd.prog 28 #[pT b, pT c] w fun e w' => e = .returned (.int .i64 (errZ T U)) ∧ (∃ W', BitsIs w' b g (zipZ 1 T U) W') ∧ Chg (fun j => j = g) w w' := by
  have C : Hid (Calls Tryd.prog 61 #[pT b, pT c, .func (.func 64) #[] #[]] w fun e w' => e = .returned (.int .i64 (errZ T U)) ∧ (∃ W', BitsIs w' b g (zipZ 1 T U) W') ∧ Chg (fun j => j = g) w w') := change_w 1 h k
  clear h k
  generalize errZ T U = z at *
  generalize zipZ 1 T U = Z at *
  go_enter Tryd.func28, Tryd.ntmps28
  go_wp2_with (go_at_call 61; refine C.out.mono ?_; rintro e w1 ⟨rfl, h1, h2⟩)
  go_ret
  exact ⟨rfl, h1, h2⟩
theorem bcut_nil (v1 v2 : Value) (h : NoBits w v1 ∨ (∃ b, v1 = pT b ∧ w.cell? ⟨b, 0, none⟩ = some (.bool true)) ∧ NoBits w v2) : Calls Tryd.prog 28 #[v1, v2] w fun e w' => e = .returned (.int .i64 1) ∧ w' = w := by
  have C := hid0 (change_nil v1 v2 (.func (.func 64) #[] #[]) w h)
  clear h
  go_enter Tryd.func28, Tryd.ntmps28
  go_wp2_with (go_at_call 61; refine C.out.mono ?_; rintro e w1 ⟨rfl, hw⟩; cases hw)
  go_ret
  exact ⟨rfl, rfl⟩
theorem with_w1 (h : RBits w r q T) (k : RBits w s t U) (hl : T.length ≤ 65536) : Calls Tryd.prog 60 #[pT r, pT s, .int .i64 1] w fun e w' => e = .returned (.int .i64 (errZ T U)) ∧ RBits w' r q (zipZ 1 T U) ∧ Chg (fun j => j = q) w w' := by
  unfold errZ zipZ
  by_cases he : T.length = U.length
  · simp only [if_pos he]
    exact with_ok1 h k he hl
  · simp only [if_neg he]
    exact (with_arg h k 1 he).mono fun _ _ ⟨h1, h2⟩ => ⟨h1, h.gr h2, Chg.of_gr h2⟩
theorem bmeet_w (h : BitsIs w b g T W) (k : BitsIs w c gc U V) : Calls Tryd.prog 27 #[pT b, pT c] w fun e w' => e = .returned (.int .i64 (errZ T U)) ∧ (∃ W', BitsIs w' b g (zipZ 2 T U) W') ∧ Chg (fun j => j = g) w w' := by
  have C : Hid (Calls Tryd.prog 61 #[pT b, pT c, .func (.func 63) #[] #[]] w fun e w' => e = .returned (.int .i64 (errZ T U)) ∧ (∃ W', BitsIs w' b g (zipZ 2 T U) W') ∧ Chg (fun j => j = g) w w') := change_w 2 h k
  clear h k
  generalize errZ T U = z at *
  generalize zipZ 2 T U = Z at *
  go_enter Tryd.func27, Tryd.ntmps27
  go_wp2_with (go_at_call 61; refine C.out.mono ?_; rintro e w1 ⟨rfl, h1, h2⟩)
  go_ret
  exact ⟨rfl, h1, h2⟩
theorem bmeet_nil (v1 v2 : Value) (h : NoBits w v1 ∨ (∃ b, v1 = pT b ∧ w.cell? ⟨b, 0, none⟩ = some (.bool true)) ∧ NoBits w v2) : Calls Tryd.prog 27 #[v1, v2] w fun e w' => e = .returned (.int .i64 1) ∧ w' = w := by
  have C := hid0 (change_nil v1 v2 (.func (.func 63) #[] #[]) w h)
  clear h
  go_enter Tryd.func27, Tryd.ntmps27
  go_wp2_with (go_at_call 61; refine C.out.mono ?_; rintro e w1 ⟨rfl, hw⟩; cases hw)
  go_ret
  exact ⟨rfl, rfl⟩
theorem with_w2 (h : RBits w r q T) (k : RBits w s t U) (hl : T.length ≤ 65536) : Calls Tryd.prog 60 #[pT r, pT s, .int .i64 2] w fun e w' => e = .returned (.int .i64 (errZ T U)) ∧ RBits w' r q (zipZ 2 T U) ∧ Chg (fun j => j = q) w w' := by
  unfold errZ zipZ
  by_cases he : T.length = U.length
  · simp only [if_pos he]
    exact with_ok2 h k he hl
  · simp only [if_neg he]
    exact (with_arg h k 2 he).mono fun _ _ ⟨h1, h2⟩ => ⟨h1, h.gr h2, Chg.of_gr h2⟩
theorem add_nil (v : Value) (i : Int) (h : NoBits w v) : Calls Tryd.prog 29 #[v, .int .i64 i] w fun e w' => e = .returned (.bool false) ∧ w' = w := by
  have M := hid0 (may_nil v i w h)
  clear h
  go_enter Tryd.func29, Tryd.ntmps29
  go_wp2_with (go_at_call 65; refine M.out.mono ?_; rintro e w1 ⟨rfl, hw⟩; cases hw)
  go_ret
  exact ⟨rfl, rfl⟩
theorem least_nil (v : Value) (i : Int) (h : NoBits w v) : Calls Tryd.prog 31 #[v, .int .i64 i] w fun e w' => e = .returned (.int .i64 0) ∧ w' = w := by
  have M := hid0 (babsent_nil v w h)
  clear h
  go_enter Tryd.func31, Tryd.ntmps31
  go_wp2_with (go_at_call 50; refine M.out.mono ?_; rintro e w1 ⟨rfl, hw⟩; cases hw)
  go_ret
  exact ⟨rfl, rfl⟩
theorem free_nil (v : Value) (i : Int) (h : NoBits w v) : Calls Tryd.prog 32 #[v, .int .i64 i] w fun e w' => e = .returned (.int .i64 0) ∧ w' = w := by
  have M := hid0 (babsent_nil v w h)
  clear h
  go_enter Tryd.func32, Tryd.ntmps32
  go_wp2_with (go_at_call 50; refine M.out.mono ?_; rintro e w1 ⟨rfl, hw⟩; cases hw)
  go_ret
  exact ⟨rfl, rfl⟩
end
end Go.Proofs.YtjnjpjpgokdciaaDoor
