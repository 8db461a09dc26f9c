/- Contracts of the reference's powers of 2 and of numbers of 64 bits. -/
import Derived.Test.YtljdnahomhbenaaOrd
namespace Go.Proofs.Ytljdnahomhbenaa
section
open Go.RowKit Go.Sort

/-- 2 to the k. -/
def p2 : Nat → Int
  | 0 => 1
  | k + 1 => p2 k + p2 k
theorem p2_succ (k : Nat) : p2 (k + 1) = p2 k + p2 k := rfl
theorem p2_pos (k : Nat) : 0 < p2 k := by
  induction k with
  | zero => decide
  | succ k ih => rw [p2_succ]; omega
theorem p2_mono {j k : Nat} (h : j ≤ k) : p2 j ≤ p2 k := by
  obtain ⟨i, rfl⟩ := Nat.exists_eq_add_of_le h
  induction i with
  | zero => exact Int.le_refl _
  | succ i ih => rw [← Nat.add_assoc, p2_succ]; have := ih (by omega); have := p2_pos (j + i); omega
theorem p2_add (j k : Nat) : p2 (j + k) = p2 j * p2 k := by
  induction k with
  | zero => show p2 j = p2 j * 1; omega
  | succ k ih => rw [← Nat.add_assoc, p2_succ, p2_succ, ih, Int.mul_add]
theorem p2_16 : p2 16 = 65536 := by decide
theorem pw_p2 (k : Nat) : pw k = p2 (16 * k) := by
  induction k with
  | zero => rfl
  | succ k ih => rw [pw_succ, ih, Nat.mul_add, Nat.mul_one, p2_add, p2_16]
theorem small_p2 {k : Nat} (h : k < 6400) : small (p2 k) := by
  unfold small
  rw [pw_p2]
  have h1 := p2_mono (j := k + 1) (k := 16 * 400) (by omega)
  have h2 := p2_pos k
  rw [p2_succ] at h1
  omega
theorem small_of {n : Int} (h : -p2 6399 < n) (h' : n < p2 6399) : small n := by
  unfold small
  rw [pw_p2]
  have h1 := p2_mono (j := 6399) (k := 16 * 400) (by omega)
  omega

theorem uns_num (v : Int) (w : World) (h0 : 0 ≤ v) (h1 : v ≤ 18446744073709551615) :
    Calls Try.prog 69 #[.int .u64 v] w fun e w' => ∃ z, e = .returned z ∧ Nm w' z v ∧ Below w.heap.size w w' := by
  refine (uns_any v w h0 h1).mono ?_
  rintro e w' ⟨ao, cap, l, rfl, hR, hn, hv, hb⟩
  refine ⟨_, rfl, ⟨ao, cap, l, ?_, hR, hn, by omega⟩, hb⟩
  rw [decide_eq_false (by omega)]
theorem size_num (x y : Value) (m n : Int) (w : World) (hx : Nm w x m) (hy : Nm w y n) (hm : 0 ≤ m) (hn : 0 ≤ n) (sm : small m) (sn : small n) :
    Calls Try.prog 70 #[x, y] w fun e w' => ∃ z, e = .returned z ∧ Nm w' z (m + n) ∧ Below w.heap.size w w' := by
  obtain ⟨ao, ca, a, rfl, ha, hna, hva⟩ := hx
  obtain ⟨bo, cb, b, rfl, hb, hnb, hvb⟩ := hy
  have la := small_len ha.dig hna hva sm
  have lb := small_len hb.dig hnb hvb sn
  refine (size_any _ _ ao bo ca cb a b w ha hb (by omega) (by omega)).mono ?_
  rintro e w' ⟨o, c, l, rfl, hR, hn', hv, hbl⟩
  refine ⟨_, rfl, ⟨o, c, l, ?_, hR, hn', by omega⟩, hbl⟩
  rw [decide_eq_false (by omega)]
theorem less_num (x y : Value) (m n : Int) (w : World) (hx : Nm w x m) (hy : Nm w y n) (hn : 0 ≤ n) (hmn : n ≤ m) :
    Calls Try.prog 118 #[x, y] w fun e w' => ∃ z, e = .returned z ∧ Nm w' z (m - n) ∧ Below w.heap.size w w' := by
  obtain ⟨ao, ca, a, rfl, ha, hna, hva⟩ := hx
  obtain ⟨bo, cb, b, rfl, hb, hnb, hvb⟩ := hy
  refine (less_any _ _ ao bo ca cb a b w ha hb hnb (by omega)).mono ?_
  rintro e w' ⟨o, c, l, rfl, hR, hn', hv, hbl⟩
  refine ⟨_, rfl, ⟨o, c, l, ?_, hR, hn', by omega⟩, hbl⟩
  rw [decide_eq_false (by omega)]
theorem cmps_num (x y : Value) (m n : Int) (w : World) (hx : Nm w x m) (hy : Nm w y n) (hm : 0 ≤ m) (hn : 0 ≤ n) :
    Calls Try.prog 72 #[x, y] w fun e w' => e = .returned (.int .i64 (cmpI m n)) ∧ Gr w w' := by
  obtain ⟨ao, ca, a, rfl, ha, hna, hva⟩ := hx
  obtain ⟨bo, cb, b, rfl, hb, hnb, hvb⟩ := hy
  refine (cmps_any _ _ ao bo ca cb a b w ha hb).mono ?_
  rintro e w' ⟨rfl, hg⟩
  rw [hva, hvb, Int.natAbs_of_nonneg hm, Int.natAbs_of_nonneg hn]
  exact ⟨rfl, hg⟩

set_option maxHeartbeats 1000000 in
theorem power_num (n : Nat) (w : World) (hn : n < 6400) :
    Calls Try.prog 120 #[.int .i64 (n : Int)] w fun e w' => ∃ z, e = .returned z ∧ Nm w' z (p2 n) ∧ Below w.heap.size w w' := by
  go_enter Try.func120, Try.ntmps120
  go_wp2_with fail
  have k0 := Bk.new w (.bool false) (.slice none 0 0)
  have hb0 : Below w.heap.size w (w.alloc (.cells #[.bool false, .slice none 0 0] 53)) := ((Gr.refl _).alloc _).below
  refine (uns_num 1 _ (by omega) (by omega)).mono ?_
  rintro e w1 ⟨z, rfl, hz, hb1⟩
  obtain ⟨r, ao, la, ca, rfl, hz'⟩ := hz.shape
  replace k0 := k0.mono hb1 k0.lt
  replace hb0 := hb0.trans (hb1.mono hb0.size)
  clear hz hb1
  have hl0 := k0.lt
  go_wp2
  go_loopw [4] (fun i wr => ∃ (k : Nat) (r : Bool) (ao : Option Addr) (la ca : Nat), k ≤ n ∧ i = .int .i64 k ∧ Bk wr w1.heap.size (.bool r) (.slice ao la ca) ∧ Hid (Nm wr (.agg #[.bool r, .slice ao la ca]) (p2 k)) ∧ Below w1.heap.size w1 wr) (fun i _ => n - (intOf i).toNat)
  case atStart => exact ⟨0, r, ao, la, ca, by omega, rfl, Bk.new w1 _ _, hz'.out.mono ((Gr.refl _).alloc _).below, ((Gr.refl _).alloc _).below⟩
  case round =>
    clear hz'
    obtain ⟨k, r, ao, la, ca, hk, rfl, kx, hz', hbl⟩ := hrel
    have c0 := kx.c0
    have c1 := kx.c1
    by_cases hlt : k < n
    · go_wp2_with fail
      refine (size_num _ _ (p2 k) (p2 k) _ hz'.out hz'.out (Int.le_of_lt (p2_pos k)) (Int.le_of_lt (p2_pos k)) (small_p2 (by omega)) (small_p2 (by omega))).mono ?_
      rintro e w2 ⟨z, rfl, hz2, hb2⟩
      obtain ⟨r2, ao2, la2, ca2, rfl, hz2'⟩ := hz2.shape
      have ky := kx.mono hb2 kx.lt
      have d0 := ky.c0
      have d1 := ky.c1
      have d2 := ky.f0
      have d3 := ky.f1
      have hbl2 := hbl.trans (hb2.mono (Nat.le_of_lt kx.lt))
      clear kx c0 c1 hz' hz2 hb2
      go_wp2
      go_roundw
      case rel => exact ⟨k + 1, r2, ao2, la2, ca2, by omega, by go_num, (ky.set0 _).set1 _, (hz2'.out.setBk ky _).setBk (ky.set0 _) _, (hbl2.setCell (Nat.le_refl _) _).setCell (Nat.le_refl _) _⟩
      case measure => simp [intOf]; omega
    · have hkn : k = n := by omega
      have ky := k0.mono hbl hl0
      have d0 := ky.c0
      have d1 := ky.c1
      have d2 := ky.f0
      have d3 := ky.f1
      have HE : Hid (k = n) := hkn
      clear hkn
      go_wp2
      refine bodyPost_ret (v := .agg #[.bool r, .slice ao la ca]) (by simp [results, Try.results120, go_sem, d0, d1]) rfl ⟨_, rfl, ?_, ?_⟩
      · rw [← HE.out]; exact (hz'.out.setBk ky _).setBk (ky.set0 _) _
      · have hbf : Below w.heap.size w wr := hb0.trans (hbl.mono hb0.size)
        exact (hbf.setCell (by simp only []; omega) _).setCell (by simp only []; omega) _
end
end Go.Proofs.Ytljdnahomhbenaa
