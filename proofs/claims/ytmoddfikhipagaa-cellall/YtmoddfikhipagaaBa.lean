/- Ground: what a call leaves as it was; sizes, places, right boxes; division towards below. -/
import Derived.Test.YtmoddfikhipagaaRows
import Derived.WalkKit
import Derived.WalkSpells
import Derived.WalkLawsBesides
import Derived.Handy
import Derived.Lib.Hide
import Derived.Shelf.SlSortCmp.QuietGrown
import Derived.BigQuiet
import Derived.Deep.RegionWith
import Derived.Deep.RegionHeld3
import Derived.Deep.DeepCutAuto
import Derived.Deep.DeepMust
namespace Go.Proofs.Ytmoddfikhipagaa
open Go.RowKit Go.Sort

/-- w' is w after some draws, with some blocks laid behind it. -/
def Gr (w w' : World) : Prop := ∃ q os, w' = grow (w.drewN q) os
theorem Gr.refl (w : World) : Gr w w := ⟨0, #[], by simp [World.drewN_zero]⟩
theorem Gr.alloc {w w' : World} (h : Gr w w') (o : Obj) : Gr w (w'.alloc o) := by
  obtain ⟨q, os, rfl⟩ := h
  exact ⟨q, os ++ #[o], by rw [alloc_eq_grow, grow_grow]⟩
theorem Gr.drew {w w' : World} (h : Gr w w') : Gr w w'.drew := by
  obtain ⟨q, os, rfl⟩ := h
  exact ⟨q + 1, os, rfl⟩
theorem Gr.drewN {w w' : World} (h : Gr w w') (n : Nat) : Gr w (w'.drewN n) := by
  obtain ⟨q, os, rfl⟩ := h
  exact ⟨q + n, os, by show grow ((w.drewN q).drewN n) os = _; rw [World.drewN_drewN]⟩
theorem Gr.trans {a b c : World} (h : Gr a b) (k : Gr b c) : Gr a c := by
  obtain ⟨q, os, rfl⟩ := h
  obtain ⟨q', os', rfl⟩ := k
  exact ⟨q + q', os ++ os', by show grow (grow ((a.drewN q).drewN q') os) os' = _; rw [grow_grow, World.drewN_drewN]⟩
theorem Gr.setCell {w w' : World} (h : Gr w w') {p : Addr} (hp : w.heap.size ≤ p.block) (v : Value) : Gr w (w'.setCell p v) := by
  obtain ⟨q, os, rfl⟩ := h
  have e : ∀ f : Obj → Obj, ({ grow (w.drewN q) os with heap := (grow (w.drewN q) os).heap.modify p.block f } : World) = grow (w.drewN q) (os.modify (p.block - w.heap.size) f) := fun f => by
    show ({ w.drewN q with heap := (w.heap ++ os).modify p.block f } : World) = { w.drewN q with heap := w.heap ++ os.modify (p.block - w.heap.size) f }
    rw [modify_append_right _ _ _ _ hp]
  exact ⟨q, _, e _⟩
theorem Gr.below {w w' : World} (h : Gr w w') : Below w.heap.size w w' := by
  obtain ⟨q, os, rfl⟩ := h
  exact ⟨rfl, rfl, rfl, by simp, fun k hk => by simpa using heap_grow_old (w.drewN q) os hk⟩
theorem Gr.size {w w' : World} (h : Gr w w') : w.heap.size ≤ w'.heap.size := h.below.size
theorem Gr.grownBy {w w' : World} (h : Gr w w') : w.grownBy w' none :=
  ⟨h.below.os, h.below.tape, h.below.output, h.below.size, fun k hk _ => h.below.block k hk⟩
theorem below_cell {w w' : World} {a : Addr} {v : Value} (h : w.cell? a = some v) (g : Below w.heap.size w w') : w'.cell? a = some v :=
  (g.cell (World.block_lt_of_cell? w a h)).trans h
theorem cell_gr {W : World} {a : Addr} {x : Value} (h : W.cell? a = some x) : ∀ n os, (grow (W.drewN n) os).cell? a = some x :=
  fun n os => cell_grown (World.block_lt_of_cell? _ _ h) h n os

def in32 (x : Int) : Prop := -2147483648 ≤ x ∧ x ≤ 2147483647
def in64 (x : Int) : Prop := -9223372036854775808 ≤ x ∧ x ≤ 9223372036854775807
/-- A point, a cell: two numbers of 32 bits. -/
abbrev pt (x y : Int) : Value := .agg #[.int .i32 x, .int .i32 y]
abbrev bx (a b c d : Int) : Value := .agg #[.int .i32 a, .int .i32 b, .int .i32 c, .int .i32 d]
theorem w64_in {x : Int} (h : in64 x) : wrap64 x = x := by unfold in64 at h; unfold wrap64; omega
theorem w64_32 {x : Int} (h : in32 x) : wrap64 x = x := by unfold in32 at h; unfold wrap64; omega
theorem w32_in {x : Int} (h : in32 x) : IntKind.i32.wrap x = x := by unfold in32 at h; rw [IntKind.wrap_i32]; omega

/-! ### Blocks -/
def Bk (W : World) (b : Nat) (t : TypeId) (l : List Value) : Prop := W.heap[b]? = some (.cells l.toArray t (0, 0))
theorem Bk.lt {W : World} {b : Nat} {t : TypeId} {l : List Value} (h : Bk W b t l) : b < W.heap.size := (Array.getElem?_eq_some_iff.1 h).1
theorem Bk.at {W : World} {b : Nat} {t : TypeId} {l : List Value} (h : Bk W b t l) (i : Nat) : W.cell? ⟨b, i, none⟩ = l[i]? := by unfold Bk at h; simp [World.cell?, h]
theorem Bk.frozen {W : World} {b : Nat} {t : TypeId} {l : List Value} (h : Bk W b t l) (i : Nat) : W.frozen? ⟨b, i, none⟩ = false := by unfold Bk at h; simp [World.frozen?, h]
theorem Bk.new (W : World) (t : TypeId) (l : List Value) : Bk (W.alloc (.cells l.toArray t)) W.heap.size t l := heap_alloc_new W _
theorem Bk.mono {W W' : World} {b B : Nat} {t : TypeId} {l : List Value} (h : Bk W b t l) (g : Below B W W') (hb : b < B) : Bk W' b t l := by unfold Bk; rw [g.block b hb]; exact h
theorem Bk.gr {W W' : World} {b : Nat} {t : TypeId} {l : List Value} (h : Bk W b t l) (g : Gr W W') : Bk W' b t l := h.mono g.below h.lt
theorem Bk.alloc {W : World} {b : Nat} {t : TypeId} {l : List Value} (h : Bk W b t l) (o : Obj) : Bk (W.alloc o) b t l := h.gr ((Gr.refl _).alloc _)
theorem Bk.other {W : World} {b : Nat} {t : TypeId} {l : List Value} (h : Bk W b t l) {a : Addr} (ha : b ≠ a.block) (z : Value) : Bk (W.setCell a z) b t l := by unfold Bk; rw [Below.heap_setCell _ _ _ _ ha]; exact h
theorem Bk.same {W W' : World} {b : Nat} {t : TypeId} {l : List Value} (h : Bk W b t l) (e : W'.heap[b]? = W.heap[b]?) : Bk W' b t l := e.trans h
theorem Bk.set {W : World} {b : Nat} {t : TypeId} {l : List Value} (h : Bk W b t l) (i : Nat) (z : Value) : Bk (W.setCell ⟨b, i, none⟩ z) b t (l.set i z) := by
  unfold Bk at *
  have hlt : b < W.heap.size := (Array.getElem?_eq_some_iff.1 h).1
  have h' : W.heap[b] = .cells l.toArray t (0, 0) := (Array.getElem?_eq_some_iff.1 h).2
  show (W.heap.modify b _)[b]? = _
  rw [Array.getElem?_modify]
  simp [h]
theorem Bk.two {W : World} {b : Nat} {t : TypeId} {x y : Value} (h : Bk W b t [x, y]) : W.cell? ⟨b, 0, none⟩ = some x ∧ W.cell? ⟨b, 1, none⟩ = some y := ⟨h.at 0, h.at 1⟩
theorem Bk.four {W : World} {b : Nat} {t : TypeId} {x y z u : Value} (h : Bk W b t [x, y, z, u]) : W.cell? ⟨b, 0, none⟩ = some x ∧ W.cell? ⟨b, 1, none⟩ = some y ∧ W.cell? ⟨b, 2, none⟩ = some z ∧ W.cell? ⟨b, 3, none⟩ = some u := ⟨h.at 0, h.at 1, h.at 2, h.at 3⟩
theorem Bk.one {W : World} {b : Nat} {t : TypeId} {x : Value} (h : Bk W b t [x]) : W.cell? ⟨b, 0, none⟩ = some x := h.at 0

/-! ### Division towards below -/
theorem tdiv_tmod {a b : Int} (hb : 1 ≤ b) : (a.tmod b < 0 ∧ a.tdiv b - 1 = a / b ∧ a.tdiv b * b > a) ∨ (¬ a.tmod b < 0 ∧ a.tdiv b = a / b ∧ ¬ a.tdiv b * b > a) := by
  have h1 := Int.tdiv_eq_ediv (a := a) (b := b)
  have h2 := Int.tmod_eq_emod (a := a) (b := b)
  have h3 := Int.emod_nonneg a (show b ≠ 0 by omega)
  have h4 := Int.emod_lt_of_pos a (show 0 < b by omega)
  have h5 := Int.mul_ediv_add_emod a b
  have h6 : b.sign = 1 := Int.sign_eq_one_of_pos (by omega)
  have e2 : a.tdiv b * b + a.tmod b = a := Int.tdiv_mul_add_tmod a b
  by_cases hc : 0 ≤ a ∨ b ∣ a
  · rw [if_pos hc] at h1 h2
    right
    refine ⟨by omega, by omega, by omega⟩
  · rw [if_neg hc] at h1 h2
    have h7 : a % b ≠ 0 := fun h => hc (.inr (Int.dvd_of_emod_eq_zero h))
    left
    refine ⟨by omega, by omega, by omega⟩
theorem ediv_bd {a b : Int} (hb : 1 ≤ b) (h : in64 a) : in64 (a / b) ∧ (0 ≤ a → 0 ≤ a / b ∧ a / b ≤ a) ∧ (a < 0 → a ≤ a / b ∧ a / b < 0) := by
  have h1 : 0 ≤ a → 0 ≤ a / b ∧ a / b ≤ a := fun ha => ⟨Int.ediv_nonneg ha (by omega), Int.ediv_le_self _ ha⟩
  have h2 : a < 0 → a ≤ a / b ∧ a / b < 0 := fun ha => by
    refine ⟨?_, Int.ediv_neg_of_neg_of_pos ha (by omega)⟩
    rw [Int.le_ediv_iff_mul_le (by omega)]
    have := Int.mul_le_mul_of_nonpos_left (a := a) (b := b) (c := 1) (by omega) hb
    omega
  refine ⟨?_, h1, h2⟩
  unfold in64 at *
  by_cases ha : 0 ≤ a
  · have := h1 ha; omega
  · have := h2 (by omega); omega
theorem ediv_32 {a b : Int} (hb : 1 ≤ b) (h : in32 a) : in32 (a / b) := by
  have h' := ediv_bd hb (a := a) (by unfold in32 at h; unfold in64; omega)
  unfold in32 at *
  by_cases ha : 0 ≤ a
  · have := h'.2.1 ha; omega
  · have := h'.2.2 (by omega); omega

set_option maxHeartbeats 1000000 in
theorem floor_any (a b : Int) (hb : 1 ≤ b) (ha : in64 a) (w : World) :
    Calls Try.prog 46 #[.int .i64 a, .int .i64 b] w fun e w' => e = .returned (.int .i64 (a / b)) ∧ w' = w := by
  have hd := (ediv_bd hb ha).1
  have hne : ¬ b = 0 := by omega
  rcases tdiv_tmod (a := a) hb with ⟨h1, h2, _⟩ | ⟨h1, h2, _⟩
  · have e2 : wrap64 (a.tdiv b - 1) = a / b := by rw [h2]; exact w64_in hd
    clear ha hb
    go_enter Try.func46, Try.ntmps46
    go_wp2
    go_ret
    refine ⟨congrArg (fun z => Ending.returned (.int .i64 z)) (?_ : _ = a / b), rfl⟩
    unfold in64 at hd
    simp only [wrap64]
    omega
  · have e1 : wrap64 (a.tdiv b) = a / b := by rw [h2]; exact w64_in hd
    clear h2 hd ha hb
    go_enter Try.func46, Try.ntmps46
    go_wp2
    go_ret
    exact ⟨rfl, rfl⟩

set_option maxHeartbeats 1000000 in
theorem down_any (a b : Int) (hb : 1 ≤ b) (ha : in64 a) (w : World) :
    Calls Try.prog 32 #[.int .i64 a, .int .i64 b] w fun e w' => e = .returned (.int .i64 (a / b)) ∧ w' = w := by
  have hd := (ediv_bd hb ha).1
  have hne : ¬ b = 0 := by omega
  rcases tdiv_tmod (a := a) hb with ⟨h1, h2, h3⟩ | ⟨h1, h2, h3⟩
  · have hq := (ediv_bd hb ha).2.2
    have h4 := Int.mul_ediv_add_emod a b
    have h5 := Int.emod_nonneg a (show b ≠ 0 by omega)
    have h6 := Int.emod_lt_of_pos a (show 0 < b by omega)
    have hneg : a < 0 := by
      by_cases h : a < 0
      · exact h
      · have := Int.tmod_nonneg b (show 0 ≤ a by omega); omega
    have e0 : a.tdiv b * b = a - a % b + b := by
      have : a.tdiv b = a / b + 1 := by omega
      rw [this, Int.add_mul, Int.one_mul, Int.mul_comm]; omega
    have h7 : a.tdiv b * b ≤ 0 := by
      have := hq hneg
      have h8 : a.tdiv b ≤ 0 := by omega
      exact Int.mul_nonpos_of_nonpos_of_nonneg h8 (by omega)
    have e1 : wrap64 (a.tdiv b) = a.tdiv b := w64_in (by have := hq hneg; unfold in64 at *; omega)
    have e2 : wrap64 (a.tdiv b - 1) = a / b := by rw [h2]; exact w64_in hd
    have e3 : wrap64 (a.tdiv b * b) = a.tdiv b * b := w64_in (by unfold in64 at *; omega)
    have h3' : a < wrap64 (a.tdiv b * b) := by rw [e3]; omega
    clear ha hb e0 h7 e3 h3 h4 h5 h6 hq
    go_enter Try.func32, Try.ntmps32
    go_wp2
    go_ret
    refine ⟨congrArg (fun z => Ending.returned (.int .i64 z)) (?_ : _ = a / b), rfl⟩
    exact w64_in hd
  · have e1 : wrap64 (a.tdiv b) = a / b := by rw [h2]; exact w64_in hd
    have h3' : ¬ a < wrap64 (a / b * b) := by
      have h4 := Int.mul_ediv_add_emod a b
      have h5 := Int.emod_nonneg a (show b ≠ 0 by omega)
      have h6 := Int.emod_lt_of_pos a (show 0 < b by omega)
      have h7 : -9223372036854775808 ≤ a / b * b := by
        rw [Int.mul_comm] at h4
        unfold in64 at *
        by_cases hz : 0 ≤ a
        · have := Int.mul_nonneg (Int.ediv_nonneg hz (show 0 ≤ b by omega)) (show 0 ≤ b by omega); omega
        · by_cases hr : a % b = 0
          · omega
          · exfalso
            have e := Int.tmod_eq_emod (a := a) (b := b)
            have hdv : ¬ (0 ≤ a ∨ b ∣ a) := fun h => h.elim hz (fun h => hr (Int.emod_eq_zero_of_dvd h))
            rw [if_neg hdv] at e
            omega
      rw [Int.mul_comm] at h4
      unfold in64 at ha
      unfold wrap64
      omega
    clear h2 hd ha hb h3
    go_enter Try.func32, Try.ntmps32
    go_wp2
    go_ret
    exact ⟨rfl, rfl⟩
theorem up_any (a b : Int) (hb : 1 ≤ b) (ha : in64 a) (ha' : in64 (-a)) (w : World) :
    Calls Try.prog 51 #[.int .i64 a, .int .i64 b] w fun e w' => e = .returned (.int .i64 (-((-a) / b))) ∧ w' = w := by
  have C : Hid (∀ w, Calls Try.prog 32 #[.int .i64 (-a), .int .i64 b] w fun e w' => e = .returned (.int .i64 ((-a) / b)) ∧ w' = w) := down_any (-a) b hb ha'
  have e1 : wrap64 (-a) = -a := w64_in ha'
  have e2 : wrap64 (-((-a) / b)) = -((-a) / b) := w64_in (by
    have := ediv_bd hb ha'
    unfold in64 at *
    by_cases h : 0 ≤ -a
    · have := this.2.1 h; omega
    · have := this.2.2 (by omega); omega)
  clear hb ha ha'
  generalize (-a) / b = q at *
  go_enter Try.func51, Try.ntmps51
  go_wp2_with (go_at_call 32; refine (C.out _).mono ?_; rintro e w1 ⟨rfl, rfl⟩)
  go_ret
  exact ⟨congrArg (fun z => Ending.returned (.int .i64 z)) e2, rfl⟩

/-! ### Sizes, places, right boxes -/
def szB (s : Int) : Bool := decide (1 ≤ s) && decide (s ≤ 2147483648)
def plB (x y : Int) : Bool := decide (-1073741823 ≤ x) && decide (x ≤ 1073741823) && decide (-1073741823 ≤ y) && decide (y ≤ 1073741823)
def rtB (a b c d : Int) : Bool := plB a b && plB c d && decide (a ≤ c) && decide (b ≤ d)
theorem szB_iff {s : Int} : szB s = true ↔ 1 ≤ s ∧ s ≤ 2147483648 := by simp [szB]
theorem plB_iff {x y : Int} : plB x y = true ↔ (-1073741823 ≤ x ∧ x ≤ 1073741823) ∧ -1073741823 ≤ y ∧ y ≤ 1073741823 := by simp [plB]; omega
theorem rtB_iff {a b c d : Int} : rtB a b c d = true ↔ plB a b = true ∧ plB c d = true ∧ a ≤ c ∧ b ≤ d := by simp [rtB, and_assoc]

set_option maxHeartbeats 1000000 in
theorem isSize_any (s : Int) (w : World) : Calls Try.prog 30 #[.int .i64 s] w fun e w' => e = .returned (.bool (szB s)) ∧ w' = w := by
  go_enter Try.func30, Try.ntmps30
  go_wp2
  all_goals (go_ret; refine ⟨congrArg (fun z => Ending.returned (.bool z)) ?_, rfl⟩; simp [szB]; omega)
set_option maxHeartbeats 1000000 in
theorem fits_any (s : Int) (w : World) : Calls Try.prog 24 #[.int .i64 s] w fun e w' => e = .returned (.bool (szB s)) ∧ w' = w := by
  go_enter Try.func24, Try.ntmps24
  go_wp2
  all_goals (go_ret; refine ⟨congrArg (fun z => Ending.returned (.bool z)) ?_, rfl⟩; simp [szB]; omega)

set_option maxHeartbeats 1000000 in
theorem isPlace_any (x y : Int) (w : World) : Calls Try.prog 39 #[pt x y] w fun e w' => e = .returned (.bool (plB x y)) ∧ Gr w w' := by
  go_enter Try.func39, Try.ntmps39
  go_wp2
  all_goals (go_ret; refine ⟨congrArg (fun z => Ending.returned (.bool z)) ?_, (Gr.refl _).alloc _⟩; simp [plB]; omega)
set_option maxHeartbeats 1000000 in
theorem in_any (x y : Int) (w : World) : Calls Try.prog 25 #[pt x y] w fun e w' => e = .returned (.bool (plB x y)) ∧ Gr w w' := by
  go_enter Try.func25, Try.ntmps25
  go_wp2
  all_goals (go_ret; refine ⟨congrArg (fun z => Ending.returned (.bool z)) ?_, (Gr.refl _).alloc _⟩; simp [plB]; omega)

set_option maxHeartbeats 4000000 in
theorem isRight_any (a b c d : Int) (w : World) : Calls Try.prog 34 #[bx a b c d] w fun e w' => e = .returned (.bool (rtB a b c d)) ∧ Gr w w' := by
  have P1 : Hid (∀ w, Calls Try.prog 39 #[pt a b] w fun e w' => e = .returned (.bool (plB a b)) ∧ Gr w w') := isPlace_any a b
  have P2 : Hid (∀ w, Calls Try.prog 39 #[pt c d] w fun e w' => e = .returned (.bool (plB c d)) ∧ Gr w w') := isPlace_any c d
  have hB : rtB a b c d = (plB a b && plB c d && decide (a ≤ c) && decide (b ≤ d)) := rfl
  rw [hB]
  clear hB
  generalize plB a b = b1 at *
  generalize plB c d = b2 at *
  have g0 : Gr w (w.alloc (.cells #[.int .i32 a, .int .i32 b, .int .i32 c, .int .i32 d] 25)) := (Gr.refl _).alloc _
  have k0 : Bk (w.alloc (.cells #[.int .i32 a, .int .i32 b, .int .i32 c, .int .i32 d] 25)) w.heap.size 25 [.int .i32 a, .int .i32 b, .int .i32 c, .int .i32 d] := Bk.new w 25 _
  cases b1
  · clear P2
    go_enter Try.func34, Try.ntmps34
    go_wp2_with (go_at_call 39; refine (P1.out _).mono ?_; rintro e w1 ⟨rfl, h1⟩)
    go_ret
    exact ⟨rfl, g0.trans h1⟩
  · cases b2
    · go_enter Try.func34, Try.ntmps34
      go_wp2_with (go_at_call 39; refine (P1.out _).mono ?_; rintro e w1 ⟨rfl, h1⟩; clear P1; obtain ⟨c0, c1, c2, c3⟩ := (k0.gr h1).four)
      go_wp2_with (go_at_call 39; refine (P2.out _).mono ?_; rintro e w2 ⟨rfl, h2⟩)
      go_ret
      exact ⟨rfl, (g0.trans h1).trans h2⟩
    · go_enter Try.func34, Try.ntmps34
      go_wp2_with (go_at_call 39; refine (P1.out _).mono ?_; rintro e w1 ⟨rfl, h1⟩; clear P1; obtain ⟨c0, c1, c2, c3⟩ := (k0.gr h1).four)
      go_wp2_with (go_at_call 39; refine (P2.out _).mono ?_; rintro e w2 ⟨rfl, h2⟩; clear P2; obtain ⟨d0, d1, d2, d3⟩ := (k0.gr (h1.trans h2)).four)
      all_goals (go_ret; refine ⟨congrArg (fun z => Ending.returned (.bool z)) ?_, (g0.trans h1).trans h2⟩; simp; omega)

set_option maxHeartbeats 4000000 in
theorem right_any (a b c d : Int) (w : World) : Calls Try.prog 35 #[bx a b c d] w fun e w' => e = .returned (.bool (rtB a b c d)) ∧ Gr w w' := by
  have P1 : Hid (∀ w, Calls Try.prog 25 #[pt a b] w fun e w' => e = .returned (.bool (plB a b)) ∧ Gr w w') := in_any a b
  have P2 : Hid (∀ w, Calls Try.prog 25 #[pt c d] w fun e w' => e = .returned (.bool (plB c d)) ∧ Gr w w') := in_any c d
  have hB : rtB a b c d = (plB a b && plB c d && decide (a ≤ c) && decide (b ≤ d)) := rfl
  rw [hB]
  clear hB
  generalize plB a b = b1 at *
  generalize plB c d = b2 at *
  have g0 : Gr w (w.alloc (.cells #[.int .i32 a, .int .i32 b, .int .i32 c, .int .i32 d] 25)) := (Gr.refl _).alloc _
  have k0 : Bk (w.alloc (.cells #[.int .i32 a, .int .i32 b, .int .i32 c, .int .i32 d] 25)) w.heap.size 25 [.int .i32 a, .int .i32 b, .int .i32 c, .int .i32 d] := Bk.new w 25 _
  cases b1
  · clear P2
    go_enter Try.func35, Try.ntmps35
    go_wp2_with (go_at_call 25; refine (P1.out _).mono ?_; rintro e w1 ⟨rfl, h1⟩)
    go_ret
    exact ⟨rfl, g0.trans h1⟩
  · cases b2
    · go_enter Try.func35, Try.ntmps35
      go_wp2_with (go_at_call 25; refine (P1.out _).mono ?_; rintro e w1 ⟨rfl, h1⟩; clear P1; obtain ⟨c0, c1, c2, c3⟩ := (k0.gr h1).four)
      go_wp2_with (go_at_call 25; refine (P2.out _).mono ?_; rintro e w2 ⟨rfl, h2⟩)
      go_ret
      exact ⟨rfl, (g0.trans h1).trans h2⟩
    · go_enter Try.func35, Try.ntmps35
      go_wp2_with (go_at_call 25; refine (P1.out _).mono ?_; rintro e w1 ⟨rfl, h1⟩; clear P1; obtain ⟨c0, c1, c2, c3⟩ := (k0.gr h1).four)
      go_wp2_with (go_at_call 25; refine (P2.out _).mono ?_; rintro e w2 ⟨rfl, h2⟩; clear P2; obtain ⟨d0, d1, d2, d3⟩ := (k0.gr (h1.trans h2)).four)
      all_goals (go_ret; refine ⟨congrArg (fun z => Ending.returned (.bool z)) ?_, (g0.trans h1).trans h2⟩; simp; omega)
end Go.Proofs.Ytmoddfikhipagaa
