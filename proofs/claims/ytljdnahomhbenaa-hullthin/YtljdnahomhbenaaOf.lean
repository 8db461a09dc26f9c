/- Contracts of the reference's number of 64 bits with a sign, and of a number's lowest 64 bits. -/
import Derived.Test.YtljdnahomhbenaaPow
namespace Go.Proofs.Ytljdnahomhbenaa
section
open Go.RowKit Go.Sort

theorem small_word {n : Int} (h : -36893488147419103232 < n) (h' : n < 36893488147419103232) : small n := by
  have h1 := p2_mono (j := 65) (k := 6399) (by omega)
  have h2 : p2 65 = 36893488147419103232 := by decide
  exact small_of (by omega) (by omega)

theorem drewB {W w2 : World} (h : Below W.drew.heap.size W.drew w2) : Below W.heap.size W w2 := (Below.refl _ _).drew.trans h
/-- A size above 0 with the other sign. -/
theorem Nm.below0 {w : World} {r : Bool} {sl : Value} {n : Int} (h : Nm w (.agg #[.bool r, sl]) n) (hn : 0 < n) : Nm w (.agg #[.bool true, sl]) (-n) := by
  obtain ⟨ao, cap, l, e, hR, hnn, hv⟩ := h
  simp only [Value.agg.injEq, Array.mk.injEq, List.cons.injEq, and_true] at e
  refine ⟨ao, cap, l, ?_, hR, hnn, by omega⟩
  rw [e.2, decide_eq_true (by omega)]

theorem Nm.below1 {w : World} {r : Bool} {sl : Value} {v : Int} (h : Nm w (.agg #[.bool r, sl]) (-(v + 1) + 1)) (hn : v < 0) : Hid (Nm w (.agg #[.bool true, sl]) v) := by
  have := h.below0 (by omega)
  have e : -(-(v + 1) + 1) = v := by omega
  rw [e] at this
  exact this

set_option maxHeartbeats 1000000 in
theorem of_num (v : Int) (w : World) (h0 : -9223372036854775808 ≤ v) (h1 : v ≤ 9223372036854775807) :
    Calls Try.prog 43 #[.int .i64 v] w fun e w' => ∃ z, e = .returned z ∧ Nm w' z v ∧ Below w.heap.size w w' := by
  have k0 := Bk.new w (.bool false) (.slice none 0 0)
  have hb0 : Below w.heap.size w (w.alloc (.cells #[.bool false, .slice none 0 0] 53)) := ((Gr.refl _).alloc _).below
  by_cases hv : 0 ≤ v
  · go_enter Try.func43, Try.ntmps43
    go_wp2_with fail
    refine (uns_num v _ (by omega) (by omega)).mono ?_
    rintro e w1 ⟨z, rfl, hz, hb1⟩
    obtain ⟨r, ao, la, ca, rfl, hz'⟩ := hz.shape
    replace k0 := k0.mono hb1 k0.lt
    replace hb0 := hb0.trans (hb1.mono hb0.size)
    clear hz hb1
    have d0 := k0.c0
    have d1 := k0.c1
    have d2 := k0.f0
    have d3 := k0.f1
    go_wp2
    refine bodyPost_ret (v := .agg #[.bool r, .slice ao la ca]) (by simp [results, Try.results43, go_sem, d0, d1]) rfl ⟨_, rfl, ?_, ?_⟩
    · exact (hz'.out.setBk k0 _).setBk (k0.set0 _) _
    · exact (hb0.setCell (by simp only []; omega) _).setCell (by simp only []; omega) _
  · go_enter Try.func43, Try.ntmps43
    go_wp2_with fail
    refine (uns_num (-(v + 1)) _ (by omega) (by omega)).mono ?_
    rintro e w1 ⟨z, rfl, hz, hb1⟩
    obtain ⟨r, ao, la, ca, rfl, hz'⟩ := hz.shape
    replace k0 := k0.mono hb1 k0.lt
    replace hb0 := hb0.trans (hb1.mono hb0.size)
    clear hz hb1
    have k1 := k0.alloc (.cells #[.bool r, .slice ao la ca] 53)
    have k2 := Bk.new w1 (.bool r) (.slice ao la ca)
    have hb1 : Below w.heap.size w (w1.alloc (.cells #[.bool r, .slice ao la ca] 53)) := hb0.trans (((Gr.refl _).alloc _).below.mono hb0.size)
    have hZ : Hid (Nm (w1.alloc (.cells #[.bool r, .slice ao la ca] 53)) (.agg #[.bool r, .slice ao la ca]) (-(v + 1))) := hz'.out.mono ((Gr.refl _).alloc _).below
    have hX : w.heap.size < w1.heap.size := k0.lt
    clear k0 hb0 hz'
    go_wp2
    generalize w1.alloc (.cells #[.bool r, .slice ao la ca] 53) = W at *
    generalize w1.heap.size = X at *
    have c0 := k2.c0
    have c1 := k2.c1
    have s1 : Hid (small (-(v + 1))) := small_word (by omega) (by omega)
    have s2 : Hid (small 1) := small_word (by omega) (by omega)
    go_region_with (first
      | (go_at_call 69; refine (uns_num 1 _ (by omega) (by omega)).mono ?_; rintro e w2 ⟨z, rfl, hz, hb2⟩; replace hb2 := drewB hb2; obtain ⟨r2, ao2, la2, ca2, rfl, hz'⟩ := hz.shape; clear hz; have k3 := k2.mono hb2 k2.lt; have d0 := k3.c0; have d1 := k3.c1)
      | (go_at_call 70; refine (size_num _ _ (-(v + 1)) 1 _ (hZ.out.mono hb2) hz'.out (by omega) (by omega) s1.out s2.out).mono ?_; rintro e w3 ⟨z, rfl, hz, hb3⟩; obtain ⟨r3, ao3, la3, ca3, rfl, hz3'⟩ := hz.shape; clear hz; have k4 := k3.mono hb3 k3.lt; have e0 := k4.c0; have e1 := k4.c1; have e2 := k4.f0; have e3 := k4.f1; have k5 := (k1.mono hb2 k1.lt).mono hb3 (Nat.lt_of_lt_of_le k1.lt hb2.size); have f0 := k5.c0; have f1 := k5.c1; have f2 := k5.f0; have f3 := k5.f1; have hb4 : Below w.heap.size w w3 := (hb1.trans (hb2.mono hb1.size)).trans (hb3.mono (Nat.le_trans hb1.size hb2.size)); have HN := hz3'.out.below1 hv))
    all_goals
      go_wp2
      have j1 := k4.set0 (.bool r3)
      have j2 := j1.set1 (.slice ao3 la3 ca3)
      have m1 := ((k5.other (p := ⟨X, 0, none⟩) (Nat.ne_of_lt hX) (.bool r3)).other (p := ⟨X, 1, none⟩) (Nat.ne_of_lt hX) (.slice ao3 la3 ca3)).other (p := ⟨X, 0, none⟩) (Nat.ne_of_lt hX) (.bool true)
      have m2 := m1.c0
      have m3 := m1.c1
      refine bodyPost_ret (v := .agg #[.bool true, .slice ao3 la3 ca3]) (by simp [results, Try.results43, go_sem, m2, m3]) rfl ⟨_, rfl, ?_, ?_⟩
      · exact ((((HN.out.setBk k4 _).setBk j1 _).setBk j2 _).setBk m1 _).setBk (m1.set0 _) _
      · exact ((((hb4.setCell (Nat.le_of_lt hX) _).setCell (Nat.le_of_lt hX) _).setCell (Nat.le_of_lt hX) _).setCell (Nat.le_refl _) _).setCell (Nat.le_refl _) _

/-! ### The lowest 64 bits of a size -/
theorem word_end (q a p d v : Int) (h : q * (p * 65536) + (a + d * p) = v) : (q * 65536 + d) * p + a = v := by grind
theorem word_le {q p a v : Int} (hq : 0 ≤ q) (hp : 0 < p) (ha : 0 ≤ a) (h : q * p + a = v) : q ≤ v := by
  have : q * 1 ≤ q * p := Int.mul_le_mul_of_nonneg_left (by omega) hq
  omega

set_option maxHeartbeats 1000000 in
theorem word_any (s : Bool) (ao : Option Addr) (cap : Nat) (l : List Int) (w : World) (h : Rd w ao cap l) (hl : l.length ≤ 4) (hv : vals l ≤ 18446744073709551615) :
    Calls Try.prog 121 #[.agg #[.bool s, .slice ao l.length cap]] w fun e w' => e = .returned (.int .u64 (vals l)) ∧ Gr w w' := by
  have hd := allD_of h.dig
  have h4 := vals_more l 4 hl
  go_enter Try.func121, Try.ntmps121
  go_wp2
  go_loopw [3, 4] (fun v i wr => ∃ (k : Nat) (q : Int), k ≤ 4 ∧ v = .int .u64 q ∧ i = .int .i64 ((k : Int) - 1) ∧ 0 ≤ q ∧ Hid (q * pw k + vl (dg l) k = vals l) ∧ Gr (w.alloc (.cells #[.bool s, .slice ao l.length cap] 53)) wr) (fun _ i _ => (intOf i + 1).toNat)
  case atStart => exact ⟨4, 0, by omega, rfl, rfl, by omega, by unfold Hid; rw [h4]; omega, Gr.refl _⟩
  case round =>
    obtain ⟨k, q, hk, rfl, rfl, hq, hE, hg⟩ := hrel
    clear h4
    by_cases h0 : k = 0
    · subst h0
      have E : Hid (q = vals l) := by
        have := hE.out
        unfold Hid
        rw [pw_zero, vl_zero] at this
        omega
      go_wp2
      go_ret
      exact ⟨by rw [← E.out]; rfl, ((Gr.refl _).alloc _).trans hg⟩
    · obtain ⟨m, rfl⟩ := Nat.exists_eq_succ_of_ne_zero h0
      rw [show ((m.succ : Nat) : Int) - 1 = (m : Int) from by omega]
      obtain ⟨n1, n2⟩ := hd m
      have hE' : (q * 65536 + dg l m) * pw m + vl (dg l) m = vals l := by
        have := hE.out
        rw [Nat.succ_eq_add_one, pw_succ, vl_succ] at this
        exact word_end _ _ _ _ _ this
      have hle := word_le (by omega) (pw_pos m) (vl_bd hd m).1 hE'
      have HE : Hid ((q * 65536 + dg l m) * pw m + vl (dg l) m = vals l) := hE'
      have hbd : q * 65536 + dg l m ≤ 18446744073709551615 := Int.le_trans hle hv
      have hR : Hid (Rd wr ao cap l) := h.mono (((Gr.refl _).alloc _).trans hg).below
      have kx := (Bk.new w (.bool s) (.slice ao l.length cap)).mono hg.below (by simp)
      have c0 := kx.c0
      have c1 := kx.c1
      clear hE hE' hle hv kx
      go_wp2_with fail
      refine (digit_any s ao cap l m _ hR.out).mono ?_
      rintro e w1 ⟨rfl, hg1⟩
      go_wp2
      go_roundw
      case rel => exact ⟨m, _, by omega, rfl, rfl, by omega, HE, hg.trans hg1⟩
      case measure => simp [intOf]

theorem word_num (x : Value) (n : Int) (w : World) (hx : Nm w x n) (h0 : 0 ≤ n) (h1 : n ≤ 18446744073709551615) :
    Calls Try.prog 121 #[x] w fun e w' => e = .returned (.int .u64 n) ∧ Gr w w' := by
  obtain ⟨ao, cap, l, rfl, hR, hn, hv⟩ := hx
  have hv' : vals l = n := by omega
  have h4 : pw 4 = 18446744073709551616 := rfl
  refine (word_any _ ao cap l w hR (nrm_short (allD_of hR.dig) hn 4 (by omega)) (by omega)).mono ?_
  rw [hv']
  exact fun e w' h => h

set_option maxHeartbeats 1000000 in
theorem pow_any (n : Nat) (w : World) (hn : n ≤ 63) :
    Calls Try.prog 135 #[.int .i64 (n : Int)] w fun e w' => e = .returned (.int .u64 (p2 n)) ∧ w' = w := by
  go_enter Try.func135, Try.ntmps135
  go_wp2
  go_loop [3, 4] (fun p i => ∃ k : Nat, k ≤ n ∧ i = .int .i64 k ∧ p = .int .u64 (p2 k)) (fun _ i => n - (intOf i).toNat)
  case atStart => exact ⟨0, by omega, rfl, rfl⟩
  case round =>
    obtain ⟨k, hk, rfl, rfl⟩ := hrel
    have hp := p2_pos k
    by_cases hlt : k < n
    · have hm := p2_mono (j := k + 1) (k := 63) (by omega)
      have h63 : p2 63 = 9223372036854775808 := by decide
      rw [p2_succ, h63] at hm
      clear h63
      go_wp2
      go_round
      case rel => exact ⟨k + 1, by omega, by go_num, by rw [p2_succ]; congr 1; omega⟩
      case measure => simp [intOf]; omega
    · have HE : Hid (k = n) := by unfold Hid; omega
      go_wp2
      go_ret
      exact ⟨by rw [← HE.out]; rfl, rfl⟩
end
end Go.Proofs.Ytljdnahomhbenaa
