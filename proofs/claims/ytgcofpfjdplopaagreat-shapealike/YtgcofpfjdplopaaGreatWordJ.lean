/- Plain facts on numbers of 128 bits, as a pair of a signed upper and an unsigned lower word; nothing of the program is in here. Contracts of the program's functions on numbers of 128 bits: what each answers, for every input; the memory that was there is as it was. Contracts of the program's numbers of 64 bits as numbers of 128, and whether 64 bits hold one. -/
import Derived.WalkKit
import Derived.Test.YtgcofpfjdplopaaGreatRows
import Derived.WalkSpells
import Derived.WalkLawsBesides
import Derived.Handy
import Derived.Shelf.Spec.BitsCarry
import Derived.Shelf.SlSortCmp.QuietGrown
import Derived.BigQuiet
namespace Go.Proofs.YtgcofpfjdplopaaGreat
section
open Go.RowKit

/-- The lower and the upper word of a whole number, modulo 2^128. -/
def loI (n : Int) : Int := n % 18446744073709551616
def hiI (n : Int) : Int := (n / 18446744073709551616 + 9223372036854775808) % 18446744073709551616 - 9223372036854775808

/-- What Add64 and Sub64 answer. -/
def sumLo (x y c : Int) : Int := (x + y + c) % 18446744073709551616
def sumCar (x y c : Int) : Int := (x + y + c) / 18446744073709551616
def difLo (x y c : Int) : Int := (x - y - c) % 18446744073709551616
def difCar (x y c : Int) : Int := if x < y + c then 1 else 0

theorem loI_bd (n : Int) : 0 ≤ loI n ∧ loI n ≤ 18446744073709551615 := by unfold loI; omega
theorem hiI_bd (n : Int) : -9223372036854775808 ≤ hiI n ∧ hiI n ≤ 9223372036854775807 := by unfold hiI; omega

theorem pair_lo (h l : Int) (hl : 0 ≤ l) (hl' : l ≤ 18446744073709551615) : loI (h * 18446744073709551616 + l) = l := by unfold loI; omega
theorem pair_hi (h l : Int) (hl : 0 ≤ l) (hl' : l ≤ 18446744073709551615) (hh : -9223372036854775808 ≤ h) (hh' : h ≤ 9223372036854775807) :
    hiI (h * 18446744073709551616 + l) = h := by unfold hiI; omega

theorem add_lo (m n : Int) : sumLo (loI m) (loI n) 0 = loI (m + n) := by unfold sumLo loI; omega
theorem add_car (m n : Int) : 0 ≤ sumCar (loI m) (loI n) 0 ∧ sumCar (loI m) (loI n) 0 ≤ 1 := by unfold sumCar loI; omega
theorem add_hi (m n : Int) : IntKind.i64.wrap (sumLo (IntKind.u64.wrap (hiI m)) (IntKind.u64.wrap (hiI n)) (sumCar (loI m) (loI n) 0)) = hiI (m + n) := by
  unfold sumLo sumCar loI hiI; simp only [IntKind.wrap_i64, IntKind.wrap_u64]; omega

theorem sub_lo (m n : Int) : difLo (loI m) (loI n) 0 = loI (m - n) := by unfold difLo loI; omega
theorem sub_car (m n : Int) : 0 ≤ difCar (loI m) (loI n) 0 ∧ difCar (loI m) (loI n) 0 ≤ 1 := by unfold difCar; split <;> omega
theorem sub_hi (m n : Int) : IntKind.i64.wrap (difLo (IntKind.u64.wrap (hiI m)) (IntKind.u64.wrap (hiI n)) (difCar (loI m) (loI n) 0)) = hiI (m - n) := by
  unfold difLo difCar loI hiI; simp only [IntKind.wrap_i64, IntKind.wrap_u64]; split <;> omega
theorem wrap_u64_bd (n : Int) : 0 ≤ IntKind.u64.wrap n ∧ IntKind.u64.wrap n < 18446744073709551616 := by rw [IntKind.wrap_u64]; omega

theorem word_eq {m n : Int} (h : hiI m = hiI n) (l : loI m = loI n) : m % 340282366920938463463374607431768211456 = n % 340282366920938463463374607431768211456 := by
  unfold hiI loI at *; omega

theorem add_hi64 (m n : Int) : wrap64 (sumLo (IntKind.u64.wrap (hiI m)) (IntKind.u64.wrap (hiI n)) (sumCar (loI m) (loI n) 0)) = hiI (m + n) := by
  unfold sumLo sumCar loI hiI wrap64; simp only [IntKind.wrap_u64]; omega
theorem sub_hi64 (m n : Int) : wrap64 (difLo (IntKind.u64.wrap (hiI m)) (IntKind.u64.wrap (hiI n)) (difCar (loI m) (loI n) 0)) = hiI (m - n) := by
  unfold difLo difCar loI hiI wrap64; simp only [IntKind.wrap_u64]; split <;> omega

/-- Which of two numbers is the smaller. -/
def cmpI (m n : Int) : Int := if m < n then -1 else if n < m then 1 else 0
/-- A number of 128 bits. -/
def inI (m : Int) : Prop := -170141183460469231731687303715884105728 ≤ m ∧ m < 170141183460469231731687303715884105728
theorem inI_pair (h l : Int) (hl : 0 ≤ l) (hl' : l ≤ 18446744073709551615) (hh : -9223372036854775808 ≤ h) (hh' : h ≤ 9223372036854775807) : inI (h * 18446744073709551616 + l) := by
  unfold inI; omega
theorem cmp_eq {m n : Int} (hm : inI m) (hn : inI n) (h : hiI m = hiI n) (l : loI m = loI n) : m = n := by
  unfold inI hiI loI at *; omega
theorem cmp_same {m n : Int} (hm : inI m) (hn : inI n) (h : hiI m = hiI n) (l : loI m = loI n) : cmpI m n = 0 := by
  rw [cmp_eq hm hn h l]; unfold cmpI; simp
theorem cmp_hi {m n : Int} (hm : inI m) (hn : inI n) (h : hiI m ≠ hiI n) : cmpI (hiI m) (hiI n) = cmpI m n := by
  have e : hiI m < hiI n ↔ m < n := by unfold inI hiI at *; omega
  have e' : hiI n < hiI m ↔ n < m := by unfold inI hiI at *; omega
  unfold cmpI; simp only [e, e']
theorem cmp_lo {m n : Int} (hm : inI m) (hn : inI n) (h : hiI m = hiI n) : cmpI (loI m) (loI n) = cmpI m n := by
  have e : loI m < loI n ↔ m < n := by unfold inI hiI loI at *; omega
  have e' : loI n < loI m ↔ n < m := by unfold inI hiI loI at *; omega
  unfold cmpI; simp only [e, e']
theorem cmpI_bd (m n : Int) : -1 ≤ cmpI m n ∧ cmpI m n ≤ 1 := by unfold cmpI; split <;> (try split) <;> omega
theorem cmpI_neg (m n : Int) : cmpI m n = -cmpI n m := by unfold cmpI; split <;> split <;> (try split) <;> omega
theorem cmpI_zero (m n : Int) : cmpI m n = 0 ↔ m = n := by unfold cmpI; split <;> (try split) <;> omega
theorem cmpI_tri (m n k : Int) : 0 < cmpI m n ∨ 0 < cmpI n k ∨ cmpI m k ≤ 0 := by
  unfold cmpI; split <;> split <;> split <;> (try split) <;> (try split) <;> (try split) <;> omega
theorem inI_zero : inI 0 := by unfold inI; omega
theorem hiI_zero : hiI 0 = 0 := by unfold hiI; omega
theorem loI_zero : loI 0 = 0 := by unfold loI; omega
end
section
open Go.RowKit Go.Sort

/-- w' is w after some draws, with some blocks laid behind it. -/
def Gr (w w' : World) : Prop := ∃ q os, w' = grow (w.drewN q) os
theorem Gr.refl (w : World) : Gr w w := ⟨0, #[], by simp [World.drewN_zero]⟩
theorem Gr.alloc {w w' : World} (h : Gr w w') (o : Obj) : Gr w (w'.alloc o) := by
  obtain ⟨q, os, rfl⟩ := h
  exact ⟨q, os ++ #[o], by rw [alloc_eq_grow, grow_grow]⟩
theorem Gr.drew {w w' : World} (h : Gr w w') : Gr w w'.drew := by
  obtain ⟨q, os, rfl⟩ := h
  exact ⟨q + 1, os, rfl⟩
theorem Gr.drewN {w w' : World} (h : Gr w w') (n : Nat) : Gr w (w'.drewN n) := by
  obtain ⟨q, os, rfl⟩ := h
  exact ⟨q + n, os, by show grow ((w.drewN q).drewN n) os = _; rw [World.drewN_drewN]⟩
theorem Gr.trans {a b c : World} (h : Gr a b) (k : Gr b c) : Gr a c := by
  obtain ⟨q, os, rfl⟩ := h
  obtain ⟨q', os', rfl⟩ := k
  exact ⟨q + q', os ++ os', by show grow (grow ((a.drewN q).drewN q') os) os' = _; rw [grow_grow, World.drewN_drewN]⟩
theorem Gr.setCell {w w' : World} (h : Gr w w') {p : Addr} (hp : w.heap.size ≤ p.block) (v : Value) : Gr w (w'.setCell p v) := by
  obtain ⟨q, os, rfl⟩ := h
  have e : ∀ f : Obj → Obj, ({ grow (w.drewN q) os with heap := (grow (w.drewN q) os).heap.modify p.block f } : World) = grow (w.drewN q) (os.modify (p.block - w.heap.size) f) := fun f => by
    show ({ w.drewN q with heap := (w.heap ++ os).modify p.block f } : World) = { w.drewN q with heap := w.heap ++ os.modify (p.block - w.heap.size) f }
    rw [modify_append_right _ _ _ _ hp]
  exact ⟨q, _, e _⟩
theorem Gr.below {w w' : World} (h : Gr w w') : Below w.heap.size w w' := by
  obtain ⟨q, os, rfl⟩ := h
  exact ⟨rfl, rfl, rfl, by simp, fun k hk => by simpa using heap_grow_old (w.drewN q) os hk⟩
theorem Gr.size {w w' : World} (h : Gr w w') : w.heap.size ≤ w'.heap.size := h.below.size
theorem Gr.cells {w w' : World} (h : Gr w w') : (∀ b o, b < w.heap.size → w'.cell? ⟨b, o, none⟩ = w.cell? ⟨b, o, none⟩) ∧ (∀ b o, b < w.heap.size → w'.frozen? ⟨b, o, none⟩ = w.frozen? ⟨b, o, none⟩) :=
  ⟨fun b o h' => h.below.cell (p := ⟨b, o, none⟩) h', fun b o h' => h.below.frozen (p := ⟨b, o, none⟩) h'⟩

theorem run52 (x y c : Int) (hx : 0 ≤ x) (hx' : x < 18446744073709551616) (hy : 0 ≤ y) (hy' : y < 18446744073709551616) (hc0 : 0 ≤ c) (hc : c ≤ 1) (w : World) :
    (callFunc 166 #[.int .u64 x, .int .u64 y, .int .u64 c]).run Tryz.prog w =
      .ok (.value (.tuple #[.int .u64 (difLo x y c), .int .u64 (difCar x y c)])) w := by
  obtain ⟨X, rfl⟩ := Int.eq_ofNat_of_zero_le hx
  obtain ⟨Y, rfl⟩ := Int.eq_ofNat_of_zero_le hy
  obtain ⟨C, rfl⟩ := Int.eq_ofNat_of_zero_le hc0
  rw [run_callFunc_extern Tryz.func166 (by kernel_rfl) (by kernel_rfl) (by kernel_rfl) (e := sub64Entry) (by kernel_rfl), run_sub64 X Y C (by omega)]
  have e1 : (((X + 18446744073709551616 - Y - C) % 18446744073709551616 : Nat) : Int) = difLo X Y C := by unfold difLo; omega
  have e2 : ((if X < Y + C then 1 else 0 : Nat) : Int) = difCar X Y C := by unfold difCar; split <;> split <;> omega
  rw [e1, e2]
  rfl

set_option maxHeartbeats 400000 in
theorem sub_any (m n : Int) (w : World) :
    Calls Tryz.prog 165 #[.agg #[.int .i64 (hiI m), .int .u64 (loI m)], .agg #[.int .i64 (hiI n), .int .u64 (loI n)]] w fun e w' => e = .returned (.agg #[.int .i64 (hiI (m - n)), .int .u64 (loI (m - n))]) ∧ Gr w w' := by
  obtain ⟨h1, h1'⟩ := loI_bd m
  obtain ⟨h2, h2'⟩ := loI_bd n
  obtain ⟨h3, h3'⟩ := wrap_u64_bd (hiI m)
  obtain ⟨h4, h4'⟩ := wrap_u64_bd (hiI n)
  obtain ⟨h5, h6⟩ := sub_car m n
  go_enter Tryz.func165, Tryz.ntmps165
  go_wp2_with (simp only [run52 (loI m) (loI n) 0 h1 (by omega) h2 (by omega) (by omega) (by omega), run52 _ _ _ h3 h3' h4 h4' h5 h6])
  refine bodyPost_ret (v := .agg #[.int .i64 (hiI (m - n)), .int .u64 (loI (m - n))]) (by simp [results, Tryz.results165, go_sem, sub_lo, sub_hi64]) rfl ⟨rfl, ?_⟩
  exact (((Gr.refl _).alloc _).alloc _).alloc _

set_option maxHeartbeats 400000 in
theorem cmp64_any (a b : Int) (w : World) :
    Calls Tryz.prog 160 #[.int .i64 a, .int .i64 b] w fun e w' => e = .returned (.int .i64 (cmpI a b)) ∧ w' = w := by
  by_cases h : a < b
  · have e : cmpI a b = -1 := by unfold cmpI; rw [if_pos h]
    rw [e]
    clear e
    go_enter Tryz.func160, Tryz.ntmps160
    go_wp2
    go_ret
    exact ⟨rfl, rfl⟩
  · by_cases h' : b < a
    · have e : cmpI a b = 1 := by unfold cmpI; rw [if_neg h, if_pos h']
      rw [e]
      clear e
      go_enter Tryz.func160, Tryz.ntmps160
      go_wp2
      go_ret
      exact ⟨rfl, rfl⟩
    · have e : cmpI a b = 0 := by unfold cmpI; rw [if_neg h, if_neg h']
      rw [e]
      clear e
      go_enter Tryz.func160, Tryz.ntmps160
      go_wp2
      go_ret
      exact ⟨rfl, rfl⟩

set_option maxHeartbeats 400000 in
theorem cmpu64_any (a b : Int) (w : World) :
    Calls Tryz.prog 161 #[.int .u64 a, .int .u64 b] w fun e w' => e = .returned (.int .i64 (cmpI a b)) ∧ w' = w := by
  by_cases h : a < b
  · have e : cmpI a b = -1 := by unfold cmpI; rw [if_pos h]
    rw [e]
    clear e
    go_enter Tryz.func161, Tryz.ntmps161
    go_wp2
    go_ret
    exact ⟨rfl, rfl⟩
  · by_cases h' : b < a
    · have e : cmpI a b = 1 := by unfold cmpI; rw [if_neg h, if_pos h']
      rw [e]
      clear e
      go_enter Tryz.func161, Tryz.ntmps161
      go_wp2
      go_ret
      exact ⟨rfl, rfl⟩
    · have e : cmpI a b = 0 := by unfold cmpI; rw [if_neg h, if_neg h']
      rw [e]
      clear e
      go_enter Tryz.func161, Tryz.ntmps161
      go_wp2
      go_ret
      exact ⟨rfl, rfl⟩

set_option maxHeartbeats 400000 in
theorem cmp_any (m n : Int) (hm : inI m) (hn : inI n) (w : World) :
    Calls Tryz.prog 156 #[.agg #[.int .i64 (hiI m), .int .u64 (loI m)], .agg #[.int .i64 (hiI n), .int .u64 (loI n)]] w fun e w' => e = .returned (.int .i64 (cmpI m n)) ∧ Gr w w' := by
  by_cases h : hiI m = hiI n
  · by_cases l : loI m = loI n
    · have H := cmp_same hm hn h l
      rw [H]
      have h1 : (hiI m == hiI n) = true := by simp [h]
      have h2 : (loI m == loI n) = true := by simp [l]
      clear H h l hm hn
      go_enter Tryz.func156, Tryz.ntmps156
      go_wp2
      go_ret
      exact ⟨rfl, ((Gr.refl _).alloc _).alloc _⟩
    · have H : Hid (cmpI (loI m) (loI n) = cmpI m n) := cmp_lo hm hn h
      have h1 : (hiI m == hiI n) = true := by simp [h]
      have h2 : (loI m == loI n) = false := by simp [l]
      clear h l hm hn
      go_enter Tryz.func156, Tryz.ntmps156
      go_wp2_with (go_at_call 161; refine (cmpu64_any _ _ _).mono ?_; rintro e w' ⟨rfl, rfl⟩)
      go_ret
      exact ⟨by rw [H.out]; rfl, ((Gr.refl _).alloc _).alloc _⟩
  · have H : Hid (cmpI (hiI m) (hiI n) = cmpI m n) := cmp_hi hm hn h
    have h1 : (hiI m == hiI n) = false := by simp [h]
    clear h hm hn
    go_enter Tryz.func156, Tryz.ntmps156
    go_wp2_with (go_at_call 160; refine (cmp64_any _ _ _).mono ?_; rintro e w' ⟨rfl, rfl⟩)
    go_ret
    exact ⟨by rw [H.out]; rfl, ((Gr.refl _).alloc _).alloc _⟩

set_option maxHeartbeats 400000 in
theorem neg_any (m : Int) (w : World) :
    Calls Tryz.prog 162 #[.agg #[.int .i64 (hiI m), .int .u64 (loI m)]] w fun e w' => e = .returned (.agg #[.int .i64 (hiI (-m)), .int .u64 (loI (-m))]) ∧ Gr w w' := by
  go_enter Tryz.func162, Tryz.ntmps162
  go_wp2_with fail
  have h := sub_any 0 m ((w.alloc (Obj.cells #[Value.int IntKind.i64 (hiI m), Value.int IntKind.u64 (loI m)] 193)).alloc (Obj.cells #[Value.int IntKind.i64 0, Value.int IntKind.u64 0] 193))
  rw [hiI_zero, loI_zero, Int.zero_sub] at h
  refine h.mono ?_
  rintro e w' ⟨rfl, hg⟩
  clear h
  obtain ⟨hc, hf⟩ := hg.cells
  have hz : w.heap.size + 1 < w'.heap.size := by have := hg.size; simp at this; omega
  go_wp2
  refine bodyPost_ret (v := .agg #[.int .i64 (hiI (-m)), .int .u64 (loI (-m))]) (by simp [results, Tryz.results162, go_sem, hc]) rfl ⟨rfl, ?_⟩
  exact (((((Gr.refl _).alloc _).alloc _).trans hg).setCell (by simp) _).setCell (by simp) _

theorem cmp0_any (m : Int) (hm : inI m) (w : World) :
    Calls Tryz.prog 156 #[.agg #[.int .i64 (hiI m), .int .u64 (loI m)], .agg #[.int .i64 0, .int .u64 0]] w fun e w' => e = .returned (.int .i64 (cmpI m 0)) ∧ Gr w w' := by
  have h := cmp_any m 0 hm inI_zero w
  rw [hiI_zero, loI_zero] at h
  exact h
end
section
open Go.RowKit Go.Sort

theorem of_lo (v : Int) : IntKind.u64.wrap v = loI v := by rw [IntKind.wrap_u64]; rfl
theorem of_hi {v : Int} (h0 : -9223372036854775808 ≤ v) (h1 : v ≤ 9223372036854775807) : v / 9223372036854775808 = hiI v := by unfold hiI; omega

theorem low_in (m : Int) : -9223372036854775808 ≤ wrap64 (loI m) ∧ wrap64 (loI m) ≤ 9223372036854775807 := by unfold wrap64; omega
theorem low_lo (m : Int) : loI (wrap64 (loI m)) = loI m := by unfold loI wrap64; omega
theorem low_hi {m : Int} (hm : inI m) : hiI (wrap64 (loI m)) = hiI m ↔ (-9223372036854775808 ≤ m ∧ m ≤ 9223372036854775807) := by unfold inI hiI loI wrap64 at *; omega
theorem low_same {m : Int} (h : -9223372036854775808 ≤ m ∧ m ≤ 9223372036854775807) : wrap64 (loI m) = m := by unfold loI wrap64; omega
end
end Go.Proofs.YtgcofpfjdplopaaGreat
