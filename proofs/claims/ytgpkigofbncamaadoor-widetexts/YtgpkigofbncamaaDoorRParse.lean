/- Contract of the reference's reading of a text. -/
import Derived.Test.YtgpkigofbncamaaDoorParse
namespace Go.Proofs.YtgpkigofbncamaaDoor
open Go.RowKit Go.Sort Go.Lib Go.Proofs

/-- Noughts struck off a size, with a sign set beside it. -/
theorem trim_sign (b : Bool) (sl : Value) (n : Int) (w : World) (h : Nm w (.agg #[.bool false, sl]) n) (hn : 0 ≤ n) :
    Calls Tryd.prog 26 #[.agg #[.bool b, sl]] w fun e w' => ∃ z, e = .returned z ∧ Nm w' z (if b then -n else n) ∧ Gr w w' := by
  obtain ⟨ao, cap, l, e, hR, hnn, hv⟩ := h
  simp only [Value.agg.injEq, Array.mk.injEq, List.cons.injEq, and_true] at e
  rw [e.2]
  refine (trim_num b ao cap l w hR).mono ?_
  rintro e' w' ⟨rfl, hg⟩
  have hR' := hR.trim
  have hv' : vals (trim l) = ((if b then -n else n).natAbs : Int) := by
    rw [trim_vals, hv]
    cases b <;> simp
  refine ⟨_, rfl, ⟨ao, cap, trim l, ?_, hR'.mono hg.below, trim_nrm l, hv'⟩, hg⟩
  rw [flag (n := if b then -n else n) (r := b) hR'.dig (trim_nrm l) hv']
  · intro hb; subst hb; simp; omega
  · intro hb; subst hb; simp; omega

theorem dval_take (d : List UInt8) (k : Nat) (h : k < d.length) : dval 0 (d.take (k + 1)) = dval 0 (d.take k) * 10 + (d[k].toNat - 48) := by
  rw [List.take_succ_eq_append_getElem h, dval_app, dval_cons, dval_nil]
theorem dval_big (d : List UInt8) (h : ∀ c ∈ d, isDg c) (hl : d.length ≤ 60) (k : Nat) : dval 0 (d.take k) < 1000000000000000000000000000000000000000000000000000000000000 := by
  have h1 := dval_lt (d.take k) (fun c hc => h c (List.mem_of_mem_take hc))
  have h2 : 10 ^ (d.take k).length ≤ 10 ^ 60 := Nat.pow_le_pow_right (by omega) (by rw [List.length_take]; omega)
  have h3 : (10 : Nat) ^ 60 = 1000000000000000000000000000000000000000000000000000000000000 := by decide
  omega
theorem far60 {l d : List UInt8} {b : Bool} (hv : pval l = if b then -((dval 0 d : Nat) : Int) else ((dval 0 d : Nat) : Int)) (hc : canon d) (h : 60 < d.length) : inB (pval l) = false := by
  have h1 := canon_low hc (by omega)
  have h2 : 10 ^ 60 ≤ 10 ^ (d.length - 1) := Nat.pow_le_pow_right (by omega) (by omega)
  have h3 : (10 : Nat) ^ 60 = 1000000000000000000000000000000000000000000000000000000000000 := by decide
  rw [hv]
  unfold inB
  apply decide_eq_false
  split <;> omega
theorem neg_some {l d : List UInt8} (hn : pneg l = true) (hd : pdig l = d) : l = 45 :: d := by
  cases l with
  | nil => exact absurd hn (by decide)
  | cons c r =>
    have hc : c = 45 := by
      unfold pneg hasPrefix at hn
      have hn' : 45 = c := by simpa using hn
      exact hn'.symm
    subst hc
    unfold pdig trimPrefix at hd
    rw [← hd]
    have : hasPrefix (45 :: r) [45] = true := hn
    rw [this]
    rfl
theorem neg_none {l d : List UInt8} (hn : pneg l = false) (hd : pdig l = d) : l = d := by
  unfold pneg at hn
  unfold pdig trimPrefix at hd
  rw [hn] at hd
  exact hd
theorem bt_neg {l : List UInt8} (hp : 0 < l.length) : (bt l 0 == 45) = pneg l := by
  cases l with
  | nil => exact absurd hp (by decide)
  | cons c r =>
    unfold pneg hasPrefix bt
    rw [Bool.eq_iff_iff]
    constructor
    · intro h
      have h' : (c.toNat : Int) = 45 := by simpa using h
      have : c = 45 := UInt8.toNat_inj.1 (by show c.toNat = 45; omega)
      subst this
      simp
    · intro h
      have : 45 = c := by simpa using h
      subst this
      rfl
theorem u8_sub {x : Int} (h0 : 48 ≤ x) (h1 : x ≤ 57) : IntKind.u8.wrap (x - 48) = x - 48 := by
  simp [IntKind.wrap, IntKind.bits, IntKind.signed]; omega

set_option maxRecDepth 20000 in
set_option maxHeartbeats 4000000 in
theorem rparse_some (l d : List UInt8) (b : Bool) (w : World) (hp : 0 < l.length) (hl : l.length ≤ 281474976710656) (hn : pneg l = b) (hd : pdig l = d) :
    Calls Tryd.prog 9 #[.string ⟨l.toArray⟩] w fun e w' => ∃ z, e = .returned (.tuple #[z, .int .i64 (pcode l)]) ∧ Nm w' z (pnum l) ∧ Below w.heap.size w w' := by
  have hsz : (⟨l.toArray⟩ : ByteArray).size = l.length := by simp [ByteArray.size]
  have hsd : (⟨d.toArray⟩ : ByteArray).size = d.length := by simp [ByteArray.size]
  have R0 := run_bt0 l hp
  have hbe : (bt l 0 == 45) = b := by rw [bt_neg hp, hn]
  have HD : Hid (b = true → ∀ w, (Instr.slice 9 (.string ⟨l.toArray⟩) (some (.int .i64 1)) none none).run Tryd.prog w = .ok (.string ⟨d.toArray⟩) w) := fun h w => by
    rw [h] at hn
    rw [neg_some hn hd]
    exact run_drop [45] d 1 rfl w
  have HD0 : Hid (b = false → l = d) := fun h => neg_none (by rw [hn, h]) hd
  have hdl : d.length ≤ 281474976710656 := by rw [← hd]; unfold pdig trimPrefix; split <;> (try rw [List.length_drop]) <;> omega
  have HG : Hid (pgood l = (canB d && !(b && (d == [48])))) := by unfold Hid pgood; rw [hn, hd]
  have HV : Hid (pval l = if b then -((dval 0 d : Nat) : Int) else ((dval 0 d : Nat) : Int)) := by unfold Hid pval; rw [hn, hd]
  have k0 := Bk.new w (.bool false) (.slice none 0 0)
  have hb0 : Below w.heap.size w (w.alloc (.cells #[.bool false, .slice none 0 0] 31)) := ((Gr.refl _).alloc _).below
  clear hn hd
  go_enter Tryd.func9, Tryd.ntmps9
  go_upto_if 18 with fail
  generalize w.alloc (.cells #[.bool false, .slice none 0 0] 31) = W at *
  clear R0 hbe
  go_cut [4, 5] (fun s4 s5 w' => s4 = .bool b ∧ s5 = .string ⟨d.toArray⟩ ∧ w' = W)
  case first =>
    cases b with
    | true =>
      have RD := HD.out rfl
      go_wp2
      go_meet
      exact ⟨rfl, rfl, rfl⟩
    | false =>
      have e : Hid (l = d) := HD0.out rfl
      go_wp2
      go_meet
      exact ⟨rfl, by rw [e.out], rfl⟩
  case rest =>
    obtain ⟨rfl, rfl, rfl⟩ := hcut
    clear HD HD0 hsz hp hl
    have c0 := k0.c0
    have c1 := k0.c1
    have c2 := k0.f0
    have c3 := k0.f1
    have hBf : Hid (Below w.heap.size w ((wc.setCell ⟨w.heap.size, 0, none⟩ (.bool false)).setCell ⟨w.heap.size, 1, none⟩ (.slice none 0 0))) := (hb0.setCell (Nat.le_refl _) _).setCell (Nat.le_refl _) _
    by_cases hd0 : d = []
    · have HX : Hid (pcode l = 11 ∧ pnum l = 0) := pcode_bad (by rw [HG.out, hd0]; rfl)
      have hdz : d.length = 0 := by rw [hd0]; rfl
      clear hd0 HG HV hdl
      go_wp2
      refine bodyPost_ret (v := .tuple #[.agg #[.bool false, .slice none 0 0], .int .i64 11]) (by simp [results, Tryd.results9, go_sem, c0, c1]) rfl ⟨_, by rw [HX.out.1], by rw [HX.out.2]; exact nm_zero _, hBf.out⟩
    · have hp : 0 < d.length := List.length_pos_iff.2 hd0
      have R0 := run_bt0 d hp
      have he : d.isEmpty = false := by cases d with
        | nil => exact absurd rfl hd0
        | cons c r => rfl
      have hz : ¬ ((d.length : Int) = 0) := by omega
      have hz' : ((d.length : Int) == 0) = false := by simp; omega
      clear hz
      by_cases h1 : bt d 0 = 48 ∧ (1 < d.length ∨ b = true)
      · have HX : Hid (pcode l = 11 ∧ pnum l = 0) := pcode_bad (by
          rw [HG.out]
          rcases h1.2 with h2 | h2
          · have : canB d = false := by
              unfold canB; rw [decide_eq_false (p := d.length = 1 ∨ bt d 0 ≠ 48) (by omega)]; simp
            rw [this]; rfl
          · by_cases h3 : 1 < d.length
            · have : canB d = false := by
                unfold canB; rw [decide_eq_false (p := d.length = 1 ∨ bt d 0 ≠ 48) (by omega)]; simp
              rw [this]; rfl
            · have : d = [48] := by
                cases d with
                | nil => exact absurd rfl hd0
                | cons c r =>
                  have hr : r = [] := List.eq_nil_of_length_eq_zero (by rw [List.length_cons] at h3; omega)
                  subst hr
                  have hc := h1.1
                  rw [bt_zero] at hc
                  have : c = 48 := UInt8.toNat_inj.1 (by show c.toNat = 48; omega)
                  rw [this]
              rw [h2, this]; simp)
        obtain ⟨h2, h3⟩ := h1
        clear HG HV hdl hd0
        by_cases h4 : 1 < d.length
        · clear h3
          go_wp2
          refine bodyPost_ret (v := .tuple #[.agg #[.bool false, .slice none 0 0], .int .i64 11]) (by simp [results, Tryd.results9, go_sem, c0, c1]) rfl ⟨_, by rw [HX.out.1], by rw [HX.out.2]; exact nm_zero _, hBf.out⟩
        · have h5 : b = true := h3.resolve_left h4
          subst h5
          clear h3
          go_wp2
          refine bodyPost_ret (v := .tuple #[.agg #[.bool false, .slice none 0 0], .int .i64 11]) (by simp [results, Tryd.results9, go_sem, c0, c1]) rfl ⟨_, by rw [HX.out.1], by rw [HX.out.2]; exact nm_zero _, hBf.out⟩
      · have HB : Hid (canB d = decide (∀ c ∈ d, isDg c)) := by
          unfold Hid canB
          rw [decide_eq_true (p := d ≠ []) hd0, decide_eq_true (p := d.length = 1 ∨ bt d 0 ≠ 48) (by omega)]; simp
        have HQ : Hid ((b && (d == [48])) = false) := by
          unfold Hid
          cases b with
          | false => rfl
          | true =>
            rw [Bool.true_and]
            apply beq_false_of_ne
            intro e
            exact h1 ⟨by rw [e]; rfl, .inr rfl⟩
        go_upto_region 5 with fail
        go_cut [4, 5, 36] (fun s4 s5 s36 w' => s4 = .bool b ∧ s5 = .string ⟨d.toArray⟩ ∧ s36 = .bool false ∧ w' = wc)
        case first =>
          by_cases h2 : bt d 0 = 48
          · have h3 : ¬ 1 < d.length := fun h => h1 ⟨h2, .inl h⟩
            have h4 : b = false := by cases b with
              | false => rfl
              | true => exact absurd ⟨h2, .inr rfl⟩ h1
            subst h4
            clear h1
            go_wp2
            go_meet
            exact ⟨rfl, rfl, by rw [decide_eq_false (by omega)], rfl⟩
          · clear h1
            go_wp2
            go_meet
            exact ⟨rfl, rfl, rfl, rfl⟩
        case rest =>
          obtain ⟨rfl, rfl, rfl, rfl⟩ := hcut
          clear R0 h1 he hz'
          go_wp2
          go_loopw [6] (fun i wr => ∃ k : Nat, k ≤ d.length ∧ i = .int .i64 k ∧ digs d k ∧ wr = wc) (fun i _ => d.length - (RowKit.intOf i).toNat)
          case atStart => exact ⟨0, by omega, rfl, fun j hj => absurd hj (by omega), rfl⟩
          case round =>
            obtain ⟨k, hk, rfl, hdg, rfl⟩ := hrel
            by_cases hlt : k < d.length
            · have RK := run_bt d k hlt
              by_cases c4 : bt d k < 48
              · have HX : Hid (pcode l = 11 ∧ pnum l = 0) := pcode_bad (by rw [HG.out, HB.out, decide_eq_false (fun h => by have := digs_all.2 h k hlt; omega)]; rfl)
                clear HG HV HB HQ
                go_wp2
                refine bodyPost_ret (v := .tuple #[.agg #[.bool false, .slice none 0 0], .int .i64 11]) (by simp [results, Tryd.results9, go_sem, c0, c1]) rfl ⟨_, by rw [HX.out.1], by rw [HX.out.2]; exact nm_zero _, hBf.out⟩
              · by_cases c5 : 57 < bt d k
                · have HX : Hid (pcode l = 11 ∧ pnum l = 0) := pcode_bad (by rw [HG.out, HB.out, decide_eq_false (fun h => by have := digs_all.2 h k hlt; omega)]; rfl)
                  clear HG HV HB HQ
                  go_wp2
                  refine bodyPost_ret (v := .tuple #[.agg #[.bool false, .slice none 0 0], .int .i64 11]) (by simp [results, Tryd.results9, go_sem, c0, c1]) rfl ⟨_, by rw [HX.out.1], by rw [HX.out.2]; exact nm_zero _, hBf.out⟩
                · go_wp2
                  go_roundw
                  case rel =>
                    refine ⟨k + 1, by omega, by go_num, fun j hj => ?_, trivial⟩
                    rcases Nat.lt_succ_iff_lt_or_eq.1 hj with h | h
                    · exact hdg j h
                    · subst h; omega
                  case measure => simp [RowKit.intOf]; omega
            · have e : k = d.length := by omega
              subst e
              have hall : Hid (∀ c ∈ d, isDg c) := digs_all.1 hdg
              have hcan : Hid (canon d) := (canB_iff d).1 (by rw [HB.out, decide_eq_true hall.out])
              have hgood : Hid (pgood l = true) := by unfold Hid; rw [HG.out, HB.out, decide_eq_true hall.out, HQ.out]; rfl
              clear HG HB HQ
              by_cases h60 : 60 < d.length
              · have HX : Hid (pcode l = 12 ∧ pnum l = 0) := pcode_far hgood.out (far60 HV.out hcan.out h60)
                go_wp2
                refine bodyPost_ret (v := .tuple #[.agg #[.bool false, .slice none 0 0], .int .i64 12]) (by simp [results, Tryd.results9, go_sem, c0, c1]) rfl ⟨_, by rw [HX.out.1], by rw [HX.out.2]; exact nm_zero _, hBf.out⟩
              · have hl6 : d.length ≤ 60 := by omega
                have hlt0 := k0.lt
                have k1 := k0.alloc (.cells #[.bool false, .slice none 0 0] 31)
                have v7 := Vr.new wr
                have hb2 : Below w.heap.size w (wr.alloc (.cells #[.bool false, .slice none 0 0] 31)) := hb0.trans (((Gr.refl wr).alloc _).below.mono hb0.size)
                clear h60 hBf c0 c1 c2 c3 hk hlt k0
                go_upto_region 15 with fail
                generalize wr.alloc (.cells #[.bool false, .slice none 0 0] 31) = W2 at *
                generalize wr.heap.size = X7 at *
                have hB2 : Below X7 W2 W2 := Below.refl _ _
                go_wp2
                go_loopg [8] d.length (fun gk i wr => ∃ k : Nat, gk = d.length - k ∧ k ≤ d.length ∧ i = .int .i64 k ∧ Vr wr X7 ((dval 0 (d.take k) : Nat) : Int) ∧ Below X7 W2 wr)
                case atStart => exact ⟨0, rfl, Nat.zero_le _, rfl, v7, hB2⟩
                case round =>
                  clear v7 hB2
                  obtain ⟨k, hgk, hk, rfl, v7, hB⟩ := hrel
                  have hX7 := v7.lt
                  by_cases hlt : k < d.length
                  · have RK := run_bt d k hlt
                    have hdk := hdg k hlt
                    have hw8 := u8_sub hdk.1 hdk.2
                    have hw64 : IntKind.u64.wrap (bt d k - 48) = bt d k - 48 := by simp [IntKind.wrap, IntKind.bits, IntKind.signed]; omega
                    have HN : Hid (((dval 0 (d.take (k + 1)) : Nat) : Int) = ((dval 0 (d.take k) : Nat) : Int) * 10 + (bt d k - 48)) := by
                      unfold Hid; rw [dval_take d k hlt, bt_get hlt]; have := hall.out d[k] (List.getElem_mem hlt); unfold isDg at this; omega
                    have hbig := dval_big d hall.out hl6 k
                    have hV0 : 0 ≤ ((dval 0 (d.take k) : Nat) : Int) := Int.natCast_nonneg _
                    have hV1 : ((dval 0 (d.take k) : Nat) : Int) < 1000000000000000000000000000000000000000000000000000000000000 := by omega
                    clear hbig hdg
                    generalize ((dval 0 (d.take k) : Nat) : Int) = V at *
                    obtain ⟨hd1, hd2⟩ := hdk
                    generalize bt d k = D at *
                    have sV : Hid (small V) := small_256 (by omega) (by omega)
                    have s10 : Hid (small 10) := small_256 (by omega) (by omega)
                    have sP : Hid (small (V * 10)) := small_256 (by omega) (by omega)
                    have sD : Hid (small (D - 48)) := small_256 (by omega) (by omega)
                    obtain ⟨r1, o1, l1, c1, kx, nx⟩ := v7
                    have HXN : Hid (Nm wr (.agg #[.bool r1, .slice o1 l1 c1]) V) := nx
                    have x0 := kx.c0
                    have x1 := kx.c1
                    have hbX : Below wr.heap.size wr wr.drew := (Below.refl _ _).drew
                    clear nx
                    go_upto_region 18 with fail
                    subst hgk
                    go_region_with (first
                      | (go_at_call_of 16 (Value.int .u64 10); refine (uns_num 10 _ (by omega) (by omega)).mono ?_; rintro e y2 ⟨z, rfl, hz, hb2'⟩; obtain ⟨r2, o2, l2, c2, rfl, hz2⟩ := hz.shape; clear hz; replace hbX := hbX.trans (hb2'.mono hbX.size); have k2 := kx.mono hbX kx.lt; have p0 := k2.c0; have p1 := k2.c1; (try replace hz4 := hmono hz4 hb2'); clear hb2')
                      | (go_at_call 16; refine (uns_num (D - 48) _ (by omega) (by omega)).mono ?_; rintro e y4 ⟨z, rfl, hz, hb4'⟩; obtain ⟨r4, o4, l4, c4, rfl, hz4⟩ := hz.shape; clear hz; replace hbX := hbX.trans (hb4'.mono hbX.size); have k4 := kx.mono hbX kx.lt; have q0 := k4.c0; have q1 := k4.c1; (try replace hz2 := hmono hz2 hb4'); (try replace hz3 := hmono hz3 hb4'); clear hb4')
                      | (go_at_call 25; refine (mul_num _ _ V 10 _ (HXN.out.mono hbX) hz2.out sV.out s10.out).mono ?_; rintro e y3 ⟨z, rfl, hz, hb3'⟩; obtain ⟨r3, o3, l3, c3, rfl, hz3⟩ := hz.shape; clear hz; replace hbX := hbX.trans (hb3'.mono hbX.size); (try replace hz4 := hmono hz4 hb3'); clear hb3')
                      | (go_at_call 24; refine (size_num _ _ (V * 10) (D - 48) _ hz3.out hz4.out (by omega) (by omega) sP.out sD.out).mono ?_; rintro e y5 ⟨z, rfl, hz, hb5'⟩; obtain ⟨r5, o5, l5, c5, rfl, hz5⟩ := hz.shape; clear hz; replace hbX := hbX.trans (hb5'.mono hbX.size); have k5 := kx.mono hbX kx.lt; have e0 := k5.c0; have e1 := k5.c1; have e2 := k5.f0; have e3 := k5.f1; clear hb5'))
                    all_goals
                      have v7' := Vr.put k5 hz5.out
                      rw [← HN.out] at v7'
                      have hB' := keep2 (hB.trans (hbX.mono (Nat.le_of_lt hX7))) (Nat.le_refl _) (.bool r5) (.slice o5 l5 c5)
                      go_wp2
                      go_roundg (d.length - (k + 1))
                      case measure => omega
                      case rel => exact ⟨k + 1, rfl, hlt, by go_num, v7', hB'⟩
                  · have e : d.take k = d := List.take_of_length_le (by omega)
                    rw [e] at v7
                    clear e hgk
                    have E1 : Hid (pnum l = if inB (pval l) = true then pval l else 0) := by
                      unfold Hid
                      by_cases c : inB (pval l) = true
                      · rw [if_pos c, (pcode_ok hgood.out c).2]
                      · rw [if_neg c, (pcode_far hgood.out (Bool.eq_false_iff.2 c)).2]
                    have E2 : Hid (pcode l = if inB (pval l) = true then 0 else 12) := by
                      unfold Hid
                      by_cases c : inB (pval l) = true
                      · rw [if_pos c, (pcode_ok hgood.out c).1]
                      · rw [if_neg c, (pcode_far hgood.out (Bool.eq_false_iff.2 c)).1]
                    have hF0 : 0 ≤ ((dval 0 d : Nat) : Int) := Int.natCast_nonneg _
                    generalize ((dval 0 d : Nat) : Int) = FL at *
                    obtain ⟨r4, o4, l4, c4, k6, N6⟩ := v7
                    obtain rfl : r4 = false := by rw [N6.sign]; simp; omega
                    have k0 := k1.mono hB hlt0
                    have hb1 := hb2.trans (hB.mono (Nat.le_of_lt hlt0))
                    clear hall hcan hgood hdg k1 hb2 hB
                    have c0 := k6.c0
                    have c1 := k6.f0
                    go_upto_region 20 with fail
                    have N7 : Hid (Nm (wr.setCell ⟨X7, 0, none⟩ (.bool b)) (.agg #[.bool false, .slice o4 l4 c4]) FL) := N6.setBk k6 _
                    replace k0 := k0.other (p := ⟨X7, 0, none⟩) (by simp only []; omega) (.bool b)
                    replace hb1 := hb1.setCell (p := ⟨X7, 0, none⟩) (by simp only []; omega) (.bool b)
                    replace k6 := k6.set0 (.bool b)
                    clear c0 c1 N6
                    generalize wr.setCell ⟨X7, 0, none⟩ (.bool b) = W6 at *
                    have c0 := k6.c0
                    have c1 := k6.c1
                    go_upto_region 21 with (go_at_call 26; refine (trim_sign b _ FL _ N7.out hF0).mono ?_; rintro e w7 ⟨z, rfl, hz, hg7⟩; obtain ⟨r7, o7, l7, c7, rfl, hz7⟩ := hz.shape; clear hz; have j6 := k6.mono hg7.below k6.lt; have d0 := j6.c0; have d1 := j6.c1; have d2 := j6.f0; have d3 := j6.f1)
                    have N8 : Nm ((w7.setCell ⟨X7, 0, none⟩ (.bool r7)).setCell ⟨X7, 1, none⟩ (.slice o7 l7 c7)) (.agg #[.bool r7, .slice o7 l7 c7]) (pval l) := by rw [HV.out]; exact (hz7.out.setBk j6 _).setBk (j6.set0 _) _
                    replace k0 := ((k0.mono hg7.below k0.lt).other (p := ⟨X7, 0, none⟩) (by simp only []; omega) (.bool r7)).other (p := ⟨X7, 1, none⟩) (by simp only []; omega) (.slice o7 l7 c7)
                    replace hb1 := ((hb1.trans (hg7.below.mono hb1.size)).setCell (p := ⟨X7, 0, none⟩) (by simp only []; omega) (.bool r7)).setCell (p := ⟨X7, 1, none⟩) (by simp only []; omega) (.slice o7 l7 c7)
                    replace k6 := (j6.set0 (.bool r7)).set1 (.slice o7 l7 c7)
                    clear c0 c1 d0 d1 d2 d3 j6 hz7 hg7 N7 HV
                    generalize (w7.setCell ⟨X7, 0, none⟩ (.bool r7)).setCell ⟨X7, 1, none⟩ (.slice o7 l7 c7) = W8 at *
                    have c0 := k6.c0
                    have c1 := k6.c1
                    have HN8 : Hid (Nm W8 (.agg #[.bool r7, .slice o7 l7 c7]) (pval l)) := N8
                    clear N8
                    generalize hI : inB (pval l) = I at *
                    have HI : Hid (inB (pval l) = I) := hI
                    clear hI
                    cases I with
                    | true =>
                      have T1 : Hid (pnum l = pval l) := by unfold Hid; rw [E1.out]; simp
                      have T2 : Hid (pcode l = 0) := by unfold Hid; rw [E2.out]; simp
                      go_wp2_with (go_at_call 27; refine (fits_num _ (pval l) _ HN8.out).mono ?_; rw [HI.out]; rintro e w9 ⟨rfl, hb9⟩; have j0 := k0.mono hb9 k0.lt; have d0 := j0.c0; have d1 := j0.c1; have d2 := j0.f0; have d3 := j0.f1; have j6 := k6.mono hb9 k6.lt; have g0 := j6.c0; have g1 := j6.c1)
                      refine bodyPost_ret (v := .tuple #[.agg #[.bool r7, .slice o7 l7 c7], .int .i64 0]) (by simp [results, Tryd.results9, go_sem, d0, d1]) rfl ⟨_, by rw [T2.out], ?_, ?_⟩
                      · rw [T1.out]; exact ((HN8.out.mono hb9).setBk j0 _).setBk (j0.set0 _) _
                      · have hbl := hb1.trans (hb9.mono hb1.size)
                        exact (hbl.setCell (by simp) _).setCell (by simp) _
                    | false =>
                      have T1 : Hid (pnum l = 0) := by unfold Hid; rw [E1.out]; simp
                      have T2 : Hid (pcode l = 12) := by unfold Hid; rw [E2.out]; simp
                      go_wp2_with (go_at_call 27; refine (fits_num _ (pval l) _ HN8.out).mono ?_; rw [HI.out]; rintro e w9 ⟨rfl, hb9⟩; have j0 := k0.mono hb9 k0.lt; have d0 := j0.c0; have d1 := j0.c1; have d2 := j0.f0; have d3 := j0.f1)
                      refine bodyPost_ret (v := .tuple #[.agg #[.bool false, .slice none 0 0], .int .i64 12]) (by simp [results, Tryd.results9, go_sem, d0, d1]) rfl ⟨_, by rw [T2.out], ?_, ?_⟩
                      · rw [T1.out]; exact nm_zero _
                      · have hbl := hb1.trans (hb9.mono hb1.size)
                        exact (hbl.setCell (by simp) _).setCell (by simp) _

set_option maxHeartbeats 1000000 in
theorem rparse_none (w : World) : Calls Tryd.prog 9 #[.string ⟨([] : List UInt8).toArray⟩] w fun e w' => ∃ z, e = .returned (.tuple #[z, .int .i64 11]) ∧ Nm w' z 0 ∧ Below w.heap.size w w' := by
  go_enter Tryd.func9, Tryd.ntmps9
  go_wp2
  refine bodyPost_ret (v := .tuple #[.agg #[.bool false, .slice none 0 0], .int .i64 11]) (by simp [results, Tryd.results9, go_sem]) rfl ⟨_, rfl, nm_zero _, ?_⟩
  exact ((Gr.refl _).alloc _).below
theorem rparse_any (l : List UInt8) (hl : l.length ≤ 281474976710656) (w : World) :
    Calls Tryd.prog 9 #[.string ⟨l.toArray⟩] w fun e w' => ∃ z, e = .returned (.tuple #[z, .int .i64 (pcode l)]) ∧ Nm w' z (pnum l) ∧ Below w.heap.size w w' := by
  by_cases h : l = []
  · subst h
    exact rparse_none w
  · exact rparse_some l (pdig l) (pneg l) w (List.length_pos_iff.2 h) hl rfl rfl
end Go.Proofs.YtgpkigofbncamaaDoor
