/- Contracts of the program's quotient: a number's size, a size divided, a size and a word added, a quotient with its sign. -/
import Derived.Test.YtgpkigofbncamaaDoorQuoW
import Derived.BigQuiet
namespace Go.Proofs.YtgpkigofbncamaaDoor
open Go.RowKit Go.Sort

/-- A block of two cells of a type. -/
def Bx (w : World) (t b : Nat) (x y : Value) : Prop := w.heap[b]? = some (.cells #[x, y] t (0, 0))
theorem Bx.lt {w : World} {t b : Nat} {x y : Value} (h : Bx w t b x y) : b < w.heap.size := lt_of_block h
theorem Bx.c0 {w : World} {t b : Nat} {x y : Value} (h : Bx w t b x y) : w.cell? ⟨b, 0, none⟩ = some x := by unfold Bx at h; simp [World.cell?, h]
theorem Bx.c1 {w : World} {t b : Nat} {x y : Value} (h : Bx w t b x y) : w.cell? ⟨b, 1, none⟩ = some y := by unfold Bx at h; simp [World.cell?, h]
theorem Bx.f0 {w : World} {t b : Nat} {x y : Value} (h : Bx w t b x y) : w.frozen? ⟨b, 0, none⟩ = false := by unfold Bx at h; simp [World.frozen?, h]
theorem Bx.f1 {w : World} {t b : Nat} {x y : Value} (h : Bx w t b x y) : w.frozen? ⟨b, 1, none⟩ = false := by unfold Bx at h; simp [World.frozen?, h]
theorem Bx.set1 {w : World} {t b : Nat} {x y : Value} (h : Bx w t b x y) (z : Value) : Bx (w.setCell ⟨b, 1, none⟩ z) t b x z := by
  have hlt := h.lt
  have h' : w.heap[b] = .cells #[x, y] t (0, 0) := by unfold Bx at h; simpa [Array.getElem?_eq_getElem hlt] using h
  show (w.heap.modify b _)[b]? = _
  rw [Array.getElem?_eq_getElem (by simpa using hlt), Array.getElem_modify_self, h']
  rfl
theorem Bx.set0 {w : World} {t b : Nat} {x y : Value} (h : Bx w t b x y) (z : Value) : Bx (w.setCell ⟨b, 0, none⟩ z) t b z y := by
  have hlt := h.lt
  have h' : w.heap[b] = .cells #[x, y] t (0, 0) := by unfold Bx at h; simpa [Array.getElem?_eq_getElem hlt] using h
  show (w.heap.modify b _)[b]? = _
  rw [Array.getElem?_eq_getElem (by simpa using hlt), Array.getElem_modify_self, h']
  rfl
theorem Bx.other {w : World} {t b : Nat} {x y : Value} (h : Bx w t b x y) {p : Addr} (hp : b ≠ p.block) (z : Value) : Bx (w.setCell p z) t b x y := by
  unfold Bx; rw [Below.heap_setCell _ _ _ _ hp]; exact h
theorem Bx.mono {w w' : World} {t b B : Nat} {x y : Value} (h : Bx w t b x y) (g : Below B w w') (hb : b < B) : Bx w' t b x y := by
  unfold Bx; rw [g.block b hb]; exact h
theorem Bx.new (w : World) (t : Nat) (x y : Value) : Bx (w.alloc (.cells #[x, y] t)) t w.heap.size x y := heap_alloc_new w _
theorem Bx.alloc {w : World} {t b : Nat} {x y : Value} (h : Bx w t b x y) (o : Obj) : Bx (w.alloc o) t b x y := by
  unfold Bx; rw [Below.heap_alloc w o b h.lt]; exact h
theorem Bx.new' (w : World) (t : Nat) (x y : Value) (o : Obj) : Bx ((w.alloc o).alloc (.cells #[x, y] t)) t (w.heap.size + 1) x y := by simpa using Bx.new (w.alloc o) t x y
theorem Bx.gr {w w' : World} {t b : Nat} {x y : Value} (h : Bx w t b x y) (g : Gr w w') : Bx w' t b x y := h.mono g.below h.lt

theorem size_pos {m : Int} (hm : inI m) (h : 0 ≤ m) : IntKind.u64.wrap (hiI m) = absI m / 18446744073709551616 ∧ loI m = absI m % 18446744073709551616 ∧ 0 ≤ hiI m := by
  have e : absI m = m := by unfold absI; rw [if_neg (by omega)]
  rw [e, IntKind.wrap_u64]; unfold inI hiI loI at *; omega
theorem size_neg {m : Int} (hm : inI m) (h : m < 0) : IntKind.u64.wrap (hiI (-m)) = absI m / 18446744073709551616 ∧ loI (-m) = absI m % 18446744073709551616 ∧ hiI m < 0 := by
  have e : absI m = -m := by unfold absI; rw [if_pos h]
  rw [e, IntKind.wrap_u64]; unfold inI hiI loI at *; omega

set_option maxHeartbeats 1000000 in
theorem wsize_any (m : Int) (hm : inI m) (w : World) :
    Calls Tryd.prog 11 #[.agg #[.int .i64 (hiI m), .int .u64 (loI m)]] w fun e w' => e = .returned (.agg #[.int .u64 (absI m / 18446744073709551616), .int .u64 (absI m % 18446744073709551616)]) ∧ Gr w w' := by
  by_cases h : m < 0
  · obtain ⟨e1, e2, e3⟩ := size_neg hm h
    have E1 : Hid (IntKind.u64.wrap (hiI (-m)) = absI m / 18446744073709551616) := e1
    have E2 : Hid (loI (-m) = absI m % 18446744073709551616) := e2
    clear e1 e2 hm h
    go_enter Tryd.func11, Tryd.ntmps11
    go_wp2_with fail
    refine (neg_any m _).mono ?_
    rintro e w1 ⟨rfl, hg⟩
    have k1 := ((Bx.new w 25 (.int .i64 (hiI m)) (.int .u64 (loI m))).alloc (Obj.cells #[Value.int IntKind.u64 0, Value.int IntKind.u64 0] 41)).gr hg
    have k2 := (Bx.new' w 41 (.int .u64 0) (.int .u64 0) (Obj.cells #[Value.int IntKind.i64 (hiI m), Value.int IntKind.u64 (loI m)] 25)).gr hg
    have q0 := k1.c0
    have q1 := k1.c1
    have q2 := k1.f0
    have q3 := k1.f1
    have r0 := k2.c0
    have r1 := k2.c1
    have r2 := k2.f0
    have r3 := k2.f1
    go_wp2
    refine bodyPost_ret (v := .agg #[.int .u64 (IntKind.u64.wrap (hiI (-m))), .int .u64 (loI (-m))]) (by simp [results, Tryd.results11, go_sem, r0, r1]) rfl ⟨by rw [E1.out, E2.out], ?_⟩
    exact ((((((((Gr.refl _).alloc _).alloc _).trans hg).setCell (by simp) _).setCell (by simp) _).setCell (by simp) _).setCell (by simp) _)
  · obtain ⟨e1, e2, e3⟩ := size_pos hm (by omega)
    have E1 : Hid (IntKind.u64.wrap (hiI m) = absI m / 18446744073709551616) := e1
    have E2 : Hid (loI m = absI m % 18446744073709551616) := e2
    clear e1 e2 hm h
    go_enter Tryd.func11, Tryd.ntmps11
    go_wp2
    refine bodyPost_ret (v := .agg #[.int .u64 (IntKind.u64.wrap (hiI m)), .int .u64 (loI m)]) (by simp [results, Tryd.results11, go_sem]) rfl ⟨by rw [E1.out, E2.out], ?_⟩
    exact (((Gr.refl _).alloc _).alloc _)

theorem quo_words {h l d : Int} (hd : 0 < d) (l0 : 0 ≤ l) (l1 : l ≤ 18446744073709551615) :
    h / d = (h * 18446744073709551616 + l) / d / 18446744073709551616 ∧ (h % d * 18446744073709551616 + l) / d = (h * 18446744073709551616 + l) / d % 18446744073709551616 ∧ (h % d * 18446744073709551616 + l) % d = (h * 18446744073709551616 + l) % d := by
  have h1 := Int.mul_ediv_add_emod h d
  have h2 := Int.emod_nonneg h (show d ≠ 0 by omega)
  have h3 := Int.emod_lt_of_pos h hd
  have h4 := Int.mul_ediv_add_emod (h % d * 18446744073709551616 + l) d
  have h5 := Int.emod_nonneg (h % d * 18446744073709551616 + l) (show d ≠ 0 by omega)
  have h6 := Int.emod_lt_of_pos (h % d * 18446744073709551616 + l) hd
  have h7 : (h % d * 18446744073709551616 + l) / d < 18446744073709551616 := Int.ediv_lt_of_lt_mul hd (by rw [Int.mul_comm]; omega)
  have h8 : 0 ≤ (h % d * 18446744073709551616 + l) / d := Int.ediv_nonneg (by omega) (by omega)
  obtain ⟨e1, e2⟩ := (Int.ediv_emod_unique hd (a := h * 18446744073709551616 + l) (r := (h % d * 18446744073709551616 + l) % d) (q := h / d * 18446744073709551616 + (h % d * 18446744073709551616 + l) / d)).2 ⟨by rw [Int.mul_add, ← Int.mul_assoc]; omega, h5, h6⟩
  rw [e1, e2]
  generalize (h % d * 18446744073709551616 + l) / d = q at *
  omega

theorem dgr {w : World} {a : Addr} {v : Value} (h : w.cell? a = some v) : ∀ n os, (grow (w.drewN n) os).cell? a = some v := cell_grown (World.block_lt_of_cell? _ _ h) h

set_option maxHeartbeats 1000000 in
theorem squo_any (h l d : Int) (w : World) (h0 : 0 ≤ h) (h1 : h ≤ 18446744073709551615) (l0 : 0 ≤ l) (l1 : l ≤ 18446744073709551615) (d0 : 0 < d) (d1 : d ≤ 18446744073709551615) :
    Calls Tryd.prog 12 #[.agg #[.int .u64 h, .int .u64 l], .int .u64 d] w fun e w' => e = .returned (.tuple #[.agg #[.int .u64 ((h * 18446744073709551616 + l) / d / 18446744073709551616), .int .u64 ((h * 18446744073709551616 + l) / d % 18446744073709551616)], .int .u64 ((h * 18446744073709551616 + l) % d)]) ∧ Gr w w' := by
  obtain ⟨e1, e2, e3⟩ := quo_words (h := h) d0 l0 l1
  rw [← e1, ← e2, ← e3]
  clear e1 e2 e3
  have dn : (d == 0) = false := by simp; omega
  have m0 := Int.emod_nonneg h (show d ≠ 0 by omega)
  have m1 := Int.emod_lt_of_pos h d0
  have hG : Gr w ((w.alloc (.cells #[.int .u64 h, .int .u64 l] 41)).alloc (.cells #[.int .u64 0, .int .u64 0] 41)) := ((Gr.refl _).alloc _).alloc _
  have k1 : Bx ((w.alloc (.cells #[.int .u64 h, .int .u64 l] 41)).alloc (.cells #[.int .u64 0, .int .u64 0] 41)) 41 w.heap.size (.int .u64 h) (.int .u64 l) := (Bx.new w 41 _ _).alloc _
  have k2 : Bx ((w.alloc (.cells #[.int .u64 h, .int .u64 l] 41)).alloc (.cells #[.int .u64 0, .int .u64 0] 41)) 41 (w.heap.size + 1) (.int .u64 0) (.int .u64 0) := Bx.new' w 41 _ _ _
  go_enter Tryd.func12, Tryd.ntmps12
  go_upto_region 1 with fail
  generalize (w.alloc (.cells #[.int .u64 h, .int .u64 l] 41)).alloc (.cells #[.int .u64 0, .int .u64 0] 41) = W at *
  have g0 := dgr k1.c0
  have g1 := dgr k1.c1
  refine wp_region_quiet_grown (by kernel_rfl) (by kernel_rfl) ?_
  repeat (go_big_quiet_step ((go_at_call 30; refine Calls.grown_of (div64_any (h % d) l d _ m0 m1 d1 l0 l1))))
  refine wpQuiet_nil ?_
  intro _ hw'
  obtain ⟨⟨nq, osq⟩, hw''⟩ := hw'
  subst hw''
  clear g0 g1
  have hg : Gr W (grow (W.drewN nq) osq) := ⟨nq, osq, rfl⟩
  replace hG := hG.trans hg
  replace k1 := k1.gr hg
  replace k2 := k2.gr hg
  have q0 := k1.c0
  have r0 := k2.c0
  have r1 := k2.c1
  have r2 := k2.f0
  have r3 := k2.f1
  generalize grow (W.drewN nq) osq = W2 at *
  go_wp2
  refine bodyPost_ret (v := .tuple #[.agg #[.int .u64 (h / d), .int .u64 ((h % d * 18446744073709551616 + l) / d)], .int .u64 ((h % d * 18446744073709551616 + l) % d)]) (by simp [results, Tryd.results12, go_sem, r0, r1]) rfl ⟨rfl, ?_⟩
  exact (hG.setCell (by simp) _).setCell (by simp) _

set_option maxHeartbeats 1000000 in
theorem splus_any (h l v : Int) (w : World) (h0 : 0 ≤ h) (h1 : h < 18446744073709551615) (l0 : 0 ≤ l) (l1 : l ≤ 18446744073709551615) (v0 : 0 ≤ v) (v1 : v ≤ 18446744073709551615) :
    Calls Tryd.prog 48 #[.agg #[.int .u64 h, .int .u64 l], .int .u64 v] w fun e w' => e = .returned (.agg #[.int .u64 ((h * 18446744073709551616 + l + v) / 18446744073709551616), .int .u64 ((h * 18446744073709551616 + l + v) % 18446744073709551616)]) ∧ Gr w w' := by
  have e1 : sumLo l v 0 = (h * 18446744073709551616 + l + v) % 18446744073709551616 := by unfold sumLo; omega
  have e2 : h + sumCar l v 0 = (h * 18446744073709551616 + l + v) / 18446744073709551616 := by unfold sumCar; omega
  have c0 : 0 ≤ sumCar l v 0 := by unfold sumCar; omega
  have c1 : sumCar l v 0 ≤ 1 := by unfold sumCar; omega
  rw [← e1, ← e2]
  clear e1 e2
  go_enter Tryd.func48, Tryd.ntmps48
  go_wp2_with (simp only [run47 l v 0 l0 v0 (by omega) (by omega)])
  refine bodyPost_ret (v := .agg #[.int .u64 (h + sumCar l v 0), .int .u64 (sumLo l v 0)]) (by simp [results, Tryd.results48, go_sem]) rfl ⟨rfl, ?_⟩
  exact ((Gr.refl _).alloc _).alloc _

/-- The size of a quotient that is rounded so that what is left is not below 0; what is left; the quotient. -/
def qS (m d : Int) : Int := if m < 0 ∧ absI m % absI d ≠ 0 then absI m / absI d + 1 else absI m / absI d
def qR (m d : Int) : Int := if m < 0 ∧ absI m % absI d ≠ 0 then absI d - absI m % absI d else absI m % absI d
def qI (m d : Int) : Int := if (!(decide (m < 0) == decide (d < 0))) = true then -(qS m d) else qS m d
theorem abs_in {m : Int} (hm : inI m) : 0 ≤ absI m ∧ absI m ≤ 170141183460469231731687303715884105728 := by unfold inI at hm; unfold absI; split <;> omega
theorem abs_word {d : Int} (hd : -9223372036854775808 ≤ d) (hd' : d ≤ 9223372036854775807) (h0 : d ≠ 0) : 0 < absI d ∧ absI d ≤ 9223372036854775808 := by unfold absI; split <;> omega
theorem div_bd {A D : Int} (h0 : 0 ≤ A) (hd : 0 < D) : 0 ≤ A / D ∧ A / D ≤ A ∧ 0 ≤ A % D ∧ A % D < D :=
  ⟨Int.ediv_nonneg h0 (by omega), Int.ediv_le_self _ h0, Int.emod_nonneg _ (by omega), Int.emod_lt_of_pos _ hd⟩
theorem join (A : Int) : A / 18446744073709551616 * 18446744073709551616 + A % 18446744073709551616 = A := by omega
theorem wsquo_any (A d : Int) (w : World) (h0 : 0 ≤ A) (h1 : A ≤ 340282366920938463463374607431768211455) (d0 : 0 < d) (d1 : d ≤ 18446744073709551615) :
    Calls Tryd.prog 12 #[.agg #[.int .u64 (A / 18446744073709551616), .int .u64 (A % 18446744073709551616)], .int .u64 d] w fun e w' => e = .returned (.tuple #[.agg #[.int .u64 (A / d / 18446744073709551616), .int .u64 (A / d % 18446744073709551616)], .int .u64 (A % d)]) ∧ Gr w w' := by
  have h := squo_any (A / 18446744073709551616) (A % 18446744073709551616) d w (by omega) (by omega) (by omega) (by omega) d0 d1
  rw [join] at h
  exact h
theorem wsplus_any (A v : Int) (w : World) (h0 : 0 ≤ A) (h1 : A ≤ 170141183460469231731687303715884105728) (v0 : 0 ≤ v) (v1 : v ≤ 18446744073709551615) :
    Calls Tryd.prog 48 #[.agg #[.int .u64 (A / 18446744073709551616), .int .u64 (A % 18446744073709551616)], .int .u64 v] w fun e w' => e = .returned (.agg #[.int .u64 ((A + v) / 18446744073709551616), .int .u64 ((A + v) % 18446744073709551616)]) ∧ Gr w w' := by
  have h := splus_any (A / 18446744073709551616) (A % 18446744073709551616) v w (by omega) (by omega) (by omega) (by omega) v0 v1
  rw [join] at h
  exact h
theorem wsigned_any (A : Int) (b : Bool) (w : World) :
    Calls Tryd.prog 23 #[.agg #[.int .u64 (A / 18446744073709551616), .int .u64 (A % 18446744073709551616)], .bool b] w fun e w' => e = .returned (.agg #[.int .i64 (hiI (if b then -A else A)), .int .u64 (loI (if b then -A else A))]) ∧ Gr w w' := by
  have h := signed_any (A / 18446744073709551616) (A % 18446744073709551616) b w (by omega) (by omega)
  rw [join] at h
  exact h




end Go.Proofs.YtgpkigofbncamaaDoor
