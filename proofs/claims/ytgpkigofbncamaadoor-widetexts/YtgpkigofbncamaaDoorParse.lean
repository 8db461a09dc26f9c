/- Contract of the program's reading of a text. -/
import Derived.Test.YtgpkigofbncamaaDoorSizeOf
import Derived.Test.YtgpkigofbncamaaDoorFits
namespace Go.Proofs.YtgpkigofbncamaaDoor
open Go.RowKit Go.Sort Go.Lib Go.Proofs

theorem wfits_any (A : Int) (b : Bool) (w : World) (h0 : 0 ≤ A) :
    Calls Tryd.prog 22 #[.agg #[.int .u64 (A / 18446744073709551616), .int .u64 (A % 18446744073709551616)], .bool b] w fun e w' => e = .returned (.bool (inB (if b then -A else A))) ∧ Below w.heap.size w w' := by
  by_cases h1 : A < 170141183460469231731687303715884105728
  · have HE : inB (if b then -A else A) = true := by unfold inB; apply decide_eq_true; split <;> omega
    have h2 : A / 18446744073709551616 < 9223372036854775808 := by omega
    generalize A / 18446744073709551616 = hh at *
    generalize A % 18446744073709551616 = ll at *
    clear h0 h1
    rw [HE]
    clear HE
    go_enter Tryd.func22, Tryd.ntmps22
    go_wp2
    go_ret
    exact ⟨rfl, ((Gr.refl _).alloc _).below⟩
  · have h2 : ¬ A / 18446744073709551616 < 9223372036854775808 := by omega
    cases b with
    | false =>
      have HE : inB (if false = true then -A else A) = false := by unfold inB; apply decide_eq_false; rw [if_neg (by decide)]; omega
      generalize A / 18446744073709551616 = hh at *
      generalize A % 18446744073709551616 = ll at *
      clear h0 h1
      rw [HE]
      clear HE
      go_enter Tryd.func22, Tryd.ntmps22
      go_wp2
      go_ret
      exact ⟨rfl, ((Gr.refl _).alloc _).below⟩
    | true =>
      by_cases h3 : A = 170141183460469231731687303715884105728
      · have HE : inB (if true = true then -A else A) = true := by unfold inB; apply decide_eq_true; rw [if_pos rfl]; omega
        have e1 : A / 18446744073709551616 = 9223372036854775808 := by omega
        have e2 : A % 18446744073709551616 = 0 := by omega
        rw [e1, e2]
        clear h0 h1 h2 h3 e1 e2
        rw [HE]
        clear HE
        go_enter Tryd.func22, Tryd.ntmps22
        go_wp2
        go_ret
        exact ⟨rfl, ((Gr.refl _).alloc _).below⟩
      · have HE : inB (if true = true then -A else A) = false := by unfold inB; apply decide_eq_false; rw [if_pos rfl]; omega
        by_cases e1 : A / 18446744073709551616 = 9223372036854775808
        · have e2 : ¬ A % 18446744073709551616 = 0 := by omega
          rw [e1]
          clear h0 h1 h2 h3 e1
          generalize A % 18446744073709551616 = ll at *
          rw [HE]
          clear HE
          go_enter Tryd.func22, Tryd.ntmps22
          go_wp2
          go_ret
          exact ⟨rfl, ((Gr.refl _).alloc _).below⟩
        · generalize A / 18446744073709551616 = hh at *
          generalize A % 18446744073709551616 = ll at *
          clear h0 h1 h3
          rw [HE]
          clear HE
          go_enter Tryd.func22, Tryd.ntmps22
          go_wp2
          go_ret
          exact ⟨rfl, ((Gr.refl _).alloc _).below⟩
/-! ### Reading -/
/-- Whether a text is that of a number below 0, and its signs without that one. -/
def pneg (l : List UInt8) : Bool := hasPrefix l [45]
def pdig (l : List UInt8) : List UInt8 := trimPrefix l [45]
/-- The number of a text; whether it is one's. -/
def pval (l : List UInt8) : Int := if pneg l then -((dval 0 (pdig l) : Nat) : Int) else ((dval 0 (pdig l) : Nat) : Int)
def pgood (l : List UInt8) : Bool := canB (pdig l) && !(pneg l && (pdig l == [48]))
/-- What reading a text answers: the error, and the number. -/
def pcode (l : List UInt8) : Int := if pgood l then (if inB (pval l) then 0 else 12) else 11
def pnum (l : List UInt8) : Int := if pgood l && inB (pval l) then pval l else 0
theorem pcode_bad {l : List UInt8} (h : pgood l = false) : pcode l = 11 ∧ pnum l = 0 := by unfold pcode pnum; rw [h]; exact ⟨rfl, rfl⟩
theorem pcode_far {l : List UInt8} (h : pgood l = true) (h' : inB (pval l) = false) : pcode l = 12 ∧ pnum l = 0 := by unfold pcode pnum; rw [h, h']; exact ⟨rfl, rfl⟩
theorem pcode_ok {l : List UInt8} (h : pgood l = true) (h' : inB (pval l) = true) : pcode l = 0 ∧ pnum l = pval l := by unfold pcode pnum; rw [h, h']; exact ⟨rfl, rfl⟩
theorem hi0 : hiI 0 = 0 := by decide
theorem lo0 : loI 0 = 0 := by decide
theorem pow19 : (10 : Nat) ^ 19 = 10000000000000000000 := by decide
theorem pow39 : (10 : Nat) ^ 39 = 1000000000000000000000000000000000000000 := by decide
theorem canon_low {d : List UInt8} (hc : canon d) (h : 1 < d.length) : 10 ^ (d.length - 1) ≤ dval 0 d := by
  obtain ⟨h0, h1, h2⟩ := hc
  cases d with
  | nil => exact absurd rfl h0
  | cons c r =>
    have hne : c ≠ 48 := by
      rcases h2 with h2 | h2
      · exact absurd h2 (by omega)
      · exact h2 c r rfl
    have hd := h1 c (by simp)
    have hn : c.toNat ≠ 48 := fun hh => hne (UInt8.toNat_inj.1 (by rw [hh]; rfl))
    rw [dval_cons, dval_acc, List.length_cons, Nat.add_sub_cancel]
    unfold isDg at hd
    have h3 : 1 * 10 ^ r.length ≤ (0 * 10 + (c.toNat - 48)) * 10 ^ r.length := Nat.mul_le_mul_right _ (by omega)
    omega
/-- What sizeOf answers of a numeral. -/
theorem sizeof_cases (d : List UInt8) (hc : canon d) :
    (∀ w : World, Calls Tryd.prog 21 #[.string ⟨d.toArray⟩] w fun e w' => e = .returned (.tuple #[.agg #[.int .u64 ((dval 0 d : Nat) / 18446744073709551616 : Int), .int .u64 ((dval 0 d : Nat) % 18446744073709551616 : Int)], .bool true]) ∧ Below w.heap.size w w') ∨
    (170141183460469231731687303715884105728 < dval 0 d ∧ ∀ (w : World) (ev : Value), w.cell? ⟨7, 0, none⟩ = some ev → (ev = .nilIface ∨ ∃ te pe, ev = .iface te pe) → Calls Tryd.prog 21 #[.string ⟨d.toArray⟩] w fun e w' => e = .returned (.tuple #[.agg #[.int .u64 0, .int .u64 0], .bool false]) ∧ Below w.heap.size w w') := by
  have hs : (⟨d.toArray⟩ : ByteArray).size = d.length := by simp [ByteArray.size]
  have hpos : 0 < d.length := List.length_pos_iff.2 hc.1
  by_cases h39 : 39 < d.length
  · right
    refine ⟨?_, fun w ev _ _ => sizeof_far _ (by omega) w⟩
    have h1 := canon_low hc (by omega)
    have h2 : 10 ^ 39 ≤ 10 ^ (d.length - 1) := Nat.pow_le_pow_right (by omega) (by omega)
    rw [pow39] at h2
    omega
  · obtain ⟨h, t, e, ht⟩ : ∃ h t, d = h ++ t ∧ t.length = d.length - (d.length - 19) := ⟨d.take (d.length - 19), d.drop (d.length - 19), (List.take_append_drop _ _).symm, List.length_drop⟩
    have hl : d.length = h.length + t.length := by rw [e, List.length_append]
    have dh : ∀ c ∈ h, isDg c := fun c hc' => hc.2.1 c (by rw [e]; simp [hc'])
    have dt : ∀ c ∈ t, isDg c := fun c hc' => hc.2.1 c (by rw [e]; simp [hc'])
    by_cases hv : dval 0 h ≤ 18446744073709551615
    · left
      intro w
      have := sizeof_ok ⟨d.toArray⟩ h t (by rw [e]) (by omega) (by omega) (fun h0 => by have := List.length_pos_iff.2 h0; omega) (by omega) dh dt hv w
      rw [← e] at this
      exact this
    · right
      have hh : 0 < h.length := by
        rcases Nat.eq_zero_or_pos h.length with h0 | h0
        · have := List.eq_nil_of_length_eq_zero h0
          subst this
          rw [dval_nil] at hv
          omega
        · exact h0
      have ht' : t.length = 19 := by omega
      refine ⟨?_, fun w ev h1 h2 => sizeof_over ⟨d.toArray⟩ h t (by rw [e]) ht' hh (by omega) dh (by omega) w ev h1 h2⟩
      rw [e, dval_app, dval_acc, ht', pow19]
      omega
theorem cut_any (l : List UInt8) (w : World) : Calls Tryd.prog 19 #[.string ⟨l.toArray⟩, .string ⟨#[45]⟩] w fun e w' => e = .returned (.tuple #[.string ⟨(pdig l).toArray⟩, .bool (pneg l)]) ∧ w' = w := Tryd.strings_CutPrefix ⟨l.toArray⟩ ⟨#[45]⟩ w

set_option maxHeartbeats 4000000 in
theorem wparse_any (l : List UInt8) (hl : l.length ≤ 281474976710656) (w : World) (ev : Value) (hev : w.cell? ⟨7, 0, none⟩ = some ev) (hev' : ev = .nilIface ∨ ∃ te pe, ev = .iface te pe) :
    Calls Tryd.prog 8 #[.string ⟨l.toArray⟩] w fun e w' => e = .returned (.tuple #[.agg #[.int .i64 (hiI (pnum l)), .int .u64 (loI (pnum l))], .int .i64 (pcode l)]) ∧ Below w.heap.size w w' := by
  have HC := hid' (cut_any l)
  have hdl : (pdig l).length ≤ 281474976710656 := by unfold pdig trimPrefix; split <;> (try rw [List.length_drop]) <;> omega
  have HN := hid' (fun w => isnum_any (pdig l) w hdl)
  have hG := (Below.refl w.heap.size w).alloc (Nat.le_refl _) (.cells #[.int .i64 0, .int .u64 0] 25)
  have k0 := Bx.new w 25 (.int .i64 0) (.int .u64 0)
  by_cases hg : pgood l = true
  · have hn : canB (pdig l) = true := by unfold pgood at hg; rw [Bool.and_eq_true] at hg; exact hg.1
    have hq : (pneg l && (pdig l == [48])) = false := by unfold pgood at hg; rw [Bool.and_eq_true] at hg; have h2 := hg.2; rw [Bool.not_eq_true'] at h2; exact h2
    have HS := sizeof_cases (pdig l) ((canB_iff _).1 hn)
    have HP : Hid (pval l = if pneg l then -((dval 0 (pdig l) : Nat) : Int) else ((dval 0 (pdig l) : Nat) : Int)) := rfl
    have hq' : pneg l = true → ¬ pdig l = [48] := fun h e => by rw [h, e] at hq; exact absurd hq (by decide)
    rw [hn] at HN
    clear hq hdl hn
    rcases HS with HS | ⟨hbig, HS⟩
    · have HA : Hid (0 ≤ ((dval 0 (pdig l) : Nat) : Int)) := by unfold Hid; omega
      have HF := hid' (fun w => wfits_any ((dval 0 (pdig l) : Nat) : Int) (pneg l) w HA.out)
      have HZ := hid' (fun w => wsigned_any ((dval 0 (pdig l) : Nat) : Int) (pneg l) w)
      rw [← HP.out] at HF HZ
      clear hev hev' HP HA
      replace HS := hid' HS
      generalize dval 0 (pdig l) = A at *
      by_cases hi : inB (pval l) = true
      · obtain ⟨E1, E2⟩ := pcode_ok hg hi
        rw [E1, E2]
        rw [hi] at HF
        clear E1 E2 hg hi
        generalize pval l = m at *
        generalize pdig l = d at *
        generalize pneg l = b at *
        cases b with
        | true =>
          have hq : (d == [48]) = false := beq_false_of_ne (hq' rfl)
          clear hq'
          go_enter Tryd.func8, Tryd.ntmps8
          go_upto_region 5 with (first
            | (go_at_call 19; refine (HC.out _).mono ?_; rintro e w1 ⟨rfl, rfl⟩)
            | (go_at_call 20; refine (HN.out _).mono ?_; rintro e w2 ⟨rfl, rfl⟩)
            | (go_at_call 21; refine (HS.out _).mono ?_; rintro e w3 ⟨rfl, hb3⟩))
          have k3 := (k0.mono hb3 k0.lt).alloc (.cells #[.int .u64 ((A : Int) / 18446744073709551616), .int .u64 ((A : Int) % 18446744073709551616)] 41)
          have k4 := Bx.new w3 41 (.int .u64 ((A : Int) / 18446744073709551616)) (.int .u64 ((A : Int) % 18446744073709551616))
          replace hG := (hG.trans (hb3.mono hG.size)).alloc (by have := hb3.size; have := hG.size; omega) (.cells #[.int .u64 ((A : Int) / 18446744073709551616), .int .u64 ((A : Int) % 18446744073709551616)] 41)
          clear hb3 k0 HC HN HS
          generalize w3.alloc (.cells #[.int .u64 ((A : Int) / 18446744073709551616), .int .u64 ((A : Int) % 18446744073709551616)] 41) = W at *
          generalize w3.heap.size = X at *
          have c0 := k4.c0
          have c1 := k4.c1
          go_upto_region 7 with (go_at_call 22; refine (HF.out _).mono ?_; rintro e w5 ⟨rfl, hb5⟩)
          replace k3 := k3.mono hb5 k3.lt
          replace k4 := k4.mono hb5 k4.lt
          replace hG := hG.trans (hb5.mono hG.size)
          clear hb5 HF c0 c1
          have c0 := k4.c0
          have c1 := k4.c1
          go_wp2_with (go_at_call 23; refine (HZ.out _).mono ?_; rintro e w6 ⟨rfl, g6⟩; have k6 := k3.gr g6; have q0 := k6.c0; have q1 := k6.c1; have q2 := k6.f0; have q3 := k6.f1)
          refine bodyPost_ret (v := .tuple #[.agg #[.int .i64 (hiI m), .int .u64 (loI m)], .int .i64 0]) (by simp [results, Tryd.results8, go_sem, q0, q1]) rfl ⟨rfl, ?_⟩
          exact ((hG.trans (g6.below.mono hG.size)).setCell (Nat.le_refl _) _).setCell (Nat.le_refl _) _
        | false =>
          clear hq'
          go_enter Tryd.func8, Tryd.ntmps8
          go_upto_region 5 with (first
            | (go_at_call 19; refine (HC.out _).mono ?_; rintro e w1 ⟨rfl, rfl⟩)
            | (go_at_call 20; refine (HN.out _).mono ?_; rintro e w2 ⟨rfl, rfl⟩)
            | (go_at_call 21; refine (HS.out _).mono ?_; rintro e w3 ⟨rfl, hb3⟩))
          have k3 := (k0.mono hb3 k0.lt).alloc (.cells #[.int .u64 ((A : Int) / 18446744073709551616), .int .u64 ((A : Int) % 18446744073709551616)] 41)
          have k4 := Bx.new w3 41 (.int .u64 ((A : Int) / 18446744073709551616)) (.int .u64 ((A : Int) % 18446744073709551616))
          replace hG := (hG.trans (hb3.mono hG.size)).alloc (by have := hb3.size; have := hG.size; omega) (.cells #[.int .u64 ((A : Int) / 18446744073709551616), .int .u64 ((A : Int) % 18446744073709551616)] 41)
          clear hb3 k0 HC HN HS
          generalize w3.alloc (.cells #[.int .u64 ((A : Int) / 18446744073709551616), .int .u64 ((A : Int) % 18446744073709551616)] 41) = W at *
          generalize w3.heap.size = X at *
          have c0 := k4.c0
          have c1 := k4.c1
          go_upto_region 7 with (go_at_call 22; refine (HF.out _).mono ?_; rintro e w5 ⟨rfl, hb5⟩)
          replace k3 := k3.mono hb5 k3.lt
          replace k4 := k4.mono hb5 k4.lt
          replace hG := hG.trans (hb5.mono hG.size)
          clear hb5 HF c0 c1
          have c0 := k4.c0
          have c1 := k4.c1
          go_wp2_with (go_at_call 23; refine (HZ.out _).mono ?_; rintro e w6 ⟨rfl, g6⟩; have k6 := k3.gr g6; have q0 := k6.c0; have q1 := k6.c1; have q2 := k6.f0; have q3 := k6.f1)
          refine bodyPost_ret (v := .tuple #[.agg #[.int .i64 (hiI m), .int .u64 (loI m)], .int .i64 0]) (by simp [results, Tryd.results8, go_sem, q0, q1]) rfl ⟨rfl, ?_⟩
          exact ((hG.trans (g6.below.mono hG.size)).setCell (Nat.le_refl _) _).setCell (Nat.le_refl _) _
      · rw [Bool.eq_false_iff.2 hi] at HF
        obtain ⟨E1, E2⟩ := pcode_far hg (Bool.eq_false_iff.2 hi)
        rw [E1, E2, hi0, lo0]
        clear E1 E2 hg hi
        generalize pval l = m at *
        generalize pdig l = d at *
        generalize pneg l = b at *
        cases b with
        | true =>
          have hq : (d == [48]) = false := beq_false_of_ne (hq' rfl)
          clear hq'
          go_enter Tryd.func8, Tryd.ntmps8
          go_upto_region 5 with (first
            | (go_at_call 19; refine (HC.out _).mono ?_; rintro e w1 ⟨rfl, rfl⟩)
            | (go_at_call 20; refine (HN.out _).mono ?_; rintro e w2 ⟨rfl, rfl⟩)
            | (go_at_call 21; refine (HS.out _).mono ?_; rintro e w3 ⟨rfl, hb3⟩))
          have k3 := (k0.mono hb3 k0.lt).alloc (.cells #[.int .u64 ((A : Int) / 18446744073709551616), .int .u64 ((A : Int) % 18446744073709551616)] 41)
          have k4 := Bx.new w3 41 (.int .u64 ((A : Int) / 18446744073709551616)) (.int .u64 ((A : Int) % 18446744073709551616))
          replace hG := (hG.trans (hb3.mono hG.size)).alloc (by have := hb3.size; have := hG.size; omega) (.cells #[.int .u64 ((A : Int) / 18446744073709551616), .int .u64 ((A : Int) % 18446744073709551616)] 41)
          clear hb3 k0 HC HN HS
          generalize w3.alloc (.cells #[.int .u64 ((A : Int) / 18446744073709551616), .int .u64 ((A : Int) % 18446744073709551616)] 41) = W at *
          generalize w3.heap.size = X at *
          have c0 := k4.c0
          have c1 := k4.c1
          go_upto_region 6 with (go_at_call 22; refine (HF.out _).mono ?_; rintro e w5 ⟨rfl, hb5⟩)
          replace k3 := k3.mono hb5 k3.lt
          replace k4 := k4.mono hb5 k4.lt
          replace hG := hG.trans (hb5.mono hG.size)
          clear hb5 HF c0 c1
          have c0 := k4.c0
          have c1 := k4.c1
          have q0 := k3.c0
          have q1 := k3.c1
          have q2 := k3.f0
          have q3 := k3.f1
          go_wp2
          refine bodyPost_ret (v := .tuple #[.agg #[.int .i64 0, .int .u64 0], .int .i64 12]) (by simp [results, Tryd.results8, go_sem, q0, q1]) rfl ⟨rfl, ?_⟩
          exact (hG.setCell (Nat.le_refl _) _).setCell (Nat.le_refl _) _
        | false =>
          clear hq'
          go_enter Tryd.func8, Tryd.ntmps8
          go_upto_region 5 with (first
            | (go_at_call 19; refine (HC.out _).mono ?_; rintro e w1 ⟨rfl, rfl⟩)
            | (go_at_call 20; refine (HN.out _).mono ?_; rintro e w2 ⟨rfl, rfl⟩)
            | (go_at_call 21; refine (HS.out _).mono ?_; rintro e w3 ⟨rfl, hb3⟩))
          have k3 := (k0.mono hb3 k0.lt).alloc (.cells #[.int .u64 ((A : Int) / 18446744073709551616), .int .u64 ((A : Int) % 18446744073709551616)] 41)
          have k4 := Bx.new w3 41 (.int .u64 ((A : Int) / 18446744073709551616)) (.int .u64 ((A : Int) % 18446744073709551616))
          replace hG := (hG.trans (hb3.mono hG.size)).alloc (by have := hb3.size; have := hG.size; omega) (.cells #[.int .u64 ((A : Int) / 18446744073709551616), .int .u64 ((A : Int) % 18446744073709551616)] 41)
          clear hb3 k0 HC HN HS
          generalize w3.alloc (.cells #[.int .u64 ((A : Int) / 18446744073709551616), .int .u64 ((A : Int) % 18446744073709551616)] 41) = W at *
          generalize w3.heap.size = X at *
          have c0 := k4.c0
          have c1 := k4.c1
          go_upto_region 6 with (go_at_call 22; refine (HF.out _).mono ?_; rintro e w5 ⟨rfl, hb5⟩)
          replace k3 := k3.mono hb5 k3.lt
          replace k4 := k4.mono hb5 k4.lt
          replace hG := hG.trans (hb5.mono hG.size)
          clear hb5 HF c0 c1
          have c0 := k4.c0
          have c1 := k4.c1
          have q0 := k3.c0
          have q1 := k3.c1
          have q2 := k3.f0
          have q3 := k3.f1
          go_wp2
          refine bodyPost_ret (v := .tuple #[.agg #[.int .i64 0, .int .u64 0], .int .i64 12]) (by simp [results, Tryd.results8, go_sem, q0, q1]) rfl ⟨rfl, ?_⟩
          exact (hG.setCell (Nat.le_refl _) _).setCell (Nat.le_refl _) _
    · have hi : inB (pval l) = false := by
        rw [HP.out]; unfold inB; apply decide_eq_false; split <;> omega
      obtain ⟨E1, E2⟩ := pcode_far hg hi
      rw [E1, E2, hi0, lo0]
      clear E1 E2 hg hi HP hbig
      replace HS := hid' (HS (w.alloc (.cells #[.int .i64 0, .int .u64 0] 25)) ev (below_cell hev ((Gr.refl _).alloc _).below) hev')
      clear hev hev'
      generalize pdig l = d at *
      generalize pneg l = b at *
      cases b with
      | true =>
        have hq : (d == [48]) = false := beq_false_of_ne (hq' rfl)
        clear hq'
        go_enter Tryd.func8, Tryd.ntmps8
        go_upto_region 5 with (first
          | (go_at_call 19; refine (HC.out _).mono ?_; rintro e w1 ⟨rfl, rfl⟩)
          | (go_at_call 20; refine (HN.out _).mono ?_; rintro e w2 ⟨rfl, rfl⟩)
          | (go_at_call 21; refine HS.out.mono ?_; rintro e w3 ⟨rfl, hb3⟩))
        have k3 := (k0.mono hb3 k0.lt).alloc (.cells #[.int .u64 0, .int .u64 0] 41)
        replace hG := (hG.trans (hb3.mono hG.size)).alloc (by have := hb3.size; have := hG.size; omega) (.cells #[.int .u64 0, .int .u64 0] 41)
        clear hb3 k0 HC HN HS
        generalize w3.alloc (.cells #[.int .u64 0, .int .u64 0] 41) = W at *
        have q0 := k3.c0
        have q1 := k3.c1
        have q2 := k3.f0
        have q3 := k3.f1
        go_wp2
        refine bodyPost_ret (v := .tuple #[.agg #[.int .i64 0, .int .u64 0], .int .i64 12]) (by simp [results, Tryd.results8, go_sem, q0, q1]) rfl ⟨rfl, ?_⟩
        exact (hG.setCell (Nat.le_refl _) _).setCell (Nat.le_refl _) _
      | false =>
        clear hq'
        go_enter Tryd.func8, Tryd.ntmps8
        go_upto_region 5 with (first
          | (go_at_call 19; refine (HC.out _).mono ?_; rintro e w1 ⟨rfl, rfl⟩)
          | (go_at_call 20; refine (HN.out _).mono ?_; rintro e w2 ⟨rfl, rfl⟩)
          | (go_at_call 21; refine HS.out.mono ?_; rintro e w3 ⟨rfl, hb3⟩))
        have k3 := (k0.mono hb3 k0.lt).alloc (.cells #[.int .u64 0, .int .u64 0] 41)
        replace hG := (hG.trans (hb3.mono hG.size)).alloc (by have := hb3.size; have := hG.size; omega) (.cells #[.int .u64 0, .int .u64 0] 41)
        clear hb3 k0 HC HN HS
        generalize w3.alloc (.cells #[.int .u64 0, .int .u64 0] 41) = W at *
        have q0 := k3.c0
        have q1 := k3.c1
        have q2 := k3.f0
        have q3 := k3.f1
        go_wp2
        refine bodyPost_ret (v := .tuple #[.agg #[.int .i64 0, .int .u64 0], .int .i64 12]) (by simp [results, Tryd.results8, go_sem, q0, q1]) rfl ⟨rfl, ?_⟩
        exact (hG.setCell (Nat.le_refl _) _).setCell (Nat.le_refl _) _
  · have hg' : pgood l = false := by simpa using hg
    obtain ⟨E1, E2⟩ := pcode_bad hg'
    rw [E1, E2, hi0, lo0]
    clear E1 E2 hg
    unfold pgood at hg'
    by_cases hn : canB (pdig l) = true
    · rw [hn] at hg' HN
      have hb : pneg l = true ∧ pdig l = [48] := by simpa using hg'
      rw [hb.1, hb.2] at HC
      rw [hb.2] at HN
      clear hg' hn hb hdl
      go_enter Tryd.func8, Tryd.ntmps8
      go_wp2_with (first
        | (go_at_call 19; refine (HC.out _).mono ?_; rintro e w1 ⟨rfl, rfl⟩)
        | (go_at_call 20; refine (HN.out _).mono ?_; rintro e w2 ⟨rfl, rfl⟩))
      refine bodyPost_ret (v := .tuple #[.agg #[.int .i64 0, .int .u64 0], .int .i64 11]) (by simp [results, Tryd.results8, go_sem]) rfl ⟨rfl, hG⟩
    · rw [Bool.eq_false_iff.2 hn] at hg' HN
      clear hg' hn hdl
      go_enter Tryd.func8, Tryd.ntmps8
      go_wp2_with (first
        | (go_at_call 19; refine (HC.out _).mono ?_; rintro e w1 ⟨rfl, rfl⟩)
        | (go_at_call 20; refine (HN.out _).mono ?_; rintro e w2 ⟨rfl, rfl⟩))
      refine bodyPost_ret (v := .tuple #[.agg #[.int .i64 0, .int .u64 0], .int .i64 11]) (by simp [results, Tryd.results8, go_sem]) rfl ⟨rfl, hG⟩
end Go.Proofs.YtgpkigofbncamaaDoor
