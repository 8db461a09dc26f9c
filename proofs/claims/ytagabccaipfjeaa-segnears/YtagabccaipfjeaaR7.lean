/- Contract of the reference's product of two whole numbers. -/
import Derived.Test.YtagabccaipfjeaaR6
namespace Go.Proofs.Ytagabccaipfjeaa
open Go.RowKit Go.Sort

theorem hid' {p : Prop} (h : p) : Hid p := h
theorem sign_mul {m n : Int} : ((decide (m < 0) != decide (n < 0)) = true → m * n ≤ 0) ∧ ((decide (m < 0) != decide (n < 0)) = false → 0 ≤ m * n) := by
  by_cases h1 : m < 0 <;> by_cases h2 : n < 0 <;> simp [h1, h2]
  · exact Int.mul_nonneg_of_nonpos_of_nonpos (by omega) (by omega)
  · exact Int.mul_nonpos_of_nonpos_of_nonneg (by omega) (by omega)
  · exact Int.mul_nonpos_of_nonneg_of_nonpos (by omega) (by omega)
  · exact Int.mul_nonneg (by omega) (by omega)
theorem row_end {X : List Int} {p : Nat} {c x0 y : Int} (hp : p < X.length) (hz : dg X p = 0) (h : vals X + c * pw p = x0 + y) : vals (X.set p c) = x0 + y := by
  rw [vals_set X p c hp, hz, Int.sub_zero]; omega
theorem noughts_dg (n p : Nat) : dg (List.replicate n 0) p = 0 := by unfold dg; simp [List.getD, List.getElem?_replicate]; split <;> rfl
theorem Wh.mono2 {w w' : World} {b B : Nat} {x0 x1 : Value} (h : Wh w b x0 x1) (g : Below B w w') (hb : b < B) : Wh w' b x0 x1 := h.mono g hb
theorem Row.gr {w w' : World} {g : Nat} {X : List Int} (h : Row w g X) (b : Gr w w') : Row w' g X := h.mono b.below h.lt

set_option maxRecDepth 20000 in
set_option maxHeartbeats 4000000 in
theorem times_core (s t : Bool) (ao bo : Option Addr) (ca cb : Nat) (a b : List Int) (N : Int) (w : World) (ha : Rd w ao ca a) (hb : Rd w bo cb b) (h1 : a.length ≤ 400) (h2 : b.length ≤ 400)
    (hN : vals a * vals b = N.natAbs) (hs1 : (s != t) = true → N ≤ 0) (hs2 : (s != t) = false → 0 ≤ N) :
    Calls Try.prog 43 #[.agg #[.bool s, .slice ao a.length ca], .agg #[.bool t, .slice bo b.length cb]] w fun e w' => ∃ z, e = .returned z ∧ Nm w' z N (a.length + b.length) ∧ Below w.heap.size w w' := by
  obtain ⟨i0, hi, hz0, hz1, hz2⟩ := info_parts Try.info80
  have hda := allD_of ha.dig
  have hdb := allD_of hb.dig
  have k0 : Wh (((w.alloc (.cells #[.bool s, .slice ao a.length ca] 51)).alloc (.cells #[.bool t, .slice bo b.length cb] 51)).alloc (.cells #[.bool false, .slice none 0 0] 51)) w.heap.size (.bool s) (.slice ao a.length ca) := (Wh.new w _ _).gr (((Gr.refl _).alloc _).alloc _)
  have k1 : Wh (((w.alloc (.cells #[.bool s, .slice ao a.length ca] 51)).alloc (.cells #[.bool t, .slice bo b.length cb] 51)).alloc (.cells #[.bool false, .slice none 0 0] 51)) (w.heap.size + 1) (.bool t) (.slice bo b.length cb) := by
    have := (Wh.new (w.alloc (.cells #[.bool s, .slice ao a.length ca] 51)) (.bool t) (.slice bo b.length cb)).gr ((Gr.refl _).alloc (.cells #[.bool false, .slice none 0 0] 51))
    simpa using this
  have k2 : Wh (((w.alloc (.cells #[.bool s, .slice ao a.length ca] 51)).alloc (.cells #[.bool t, .slice bo b.length cb] 51)).alloc (.cells #[.bool false, .slice none 0 0] 51)) (w.heap.size + 1 + 1) (.bool false) (.slice none 0 0) := by
    have := Wh.new ((w.alloc (.cells #[.bool s, .slice ao a.length ca] 51)).alloc (.cells #[.bool t, .slice bo b.length cb] 51)) (.bool false) (.slice none 0 0)
    simpa using this
  have hW3 : (((w.alloc (.cells #[.bool s, .slice ao a.length ca] 51)).alloc (.cells #[.bool t, .slice bo b.length cb] 51)).alloc (.cells #[.bool false, .slice none 0 0] 51)).heap.size = w.heap.size + 1 + 1 + 1 := by simp
  have hG3 : Gr w (((w.alloc (.cells #[.bool s, .slice ao a.length ca] 51)).alloc (.cells #[.bool t, .slice bo b.length cb] 51)).alloc (.cells #[.bool false, .slice none 0 0] 51)) := (((Gr.refl _).alloc _).alloc _).alloc _
  go_enter Try.func43, Try.ntmps43
  go_wp2_with (at_make; refine wpList_make_full _ rfl (.tmp 16) (.tmp 16) 49 rfl (w.heap.size + 1 + 1 + 1) 80 i0 (.int .u32 0) 1 Try.underlying49 hi hz0 hz1 .i64 .i64 _ _ (a.length + b.length) rfl rfl (by omega) (by omega) (by rw [hz2]; omega) (by unfold maxLen; omega) (by simp) ?_)
  intro w1 hown hgrow
  have hrow0 := Row.new hown
  have hb1 : Below (w.heap.size + 1 + 1 + 1) (((w.alloc (.cells #[.bool s, .slice ao a.length ca] 51)).alloc (.cells #[.bool t, .slice bo b.length cb] 51)).alloc (.cells #[.bool false, .slice none 0 0] 51)) w1 := ⟨hgrow.os, hgrow.tape, hgrow.output, hgrow.size, fun k hk => hgrow.block k (by rw [hW3]; exact hk) (by simp)⟩
  clear hown hgrow
  have HA : Hid (∀ wr, Below (w.heap.size + 1 + 1 + 1) (((w.alloc (.cells #[.bool s, .slice ao a.length ca] 51)).alloc (.cells #[.bool t, .slice bo b.length cb] 51)).alloc (.cells #[.bool false, .slice none 0 0] 51)) wr → Rd wr ao ca a) := fun wr g => (ha.gr hG3).mono (by rw [hW3]; exact g)
  have HB : Hid (∀ wr, Below (w.heap.size + 1 + 1 + 1) (((w.alloc (.cells #[.bool s, .slice ao a.length ca] 51)).alloc (.cells #[.bool t, .slice bo b.length cb] 51)).alloc (.cells #[.bool false, .slice none 0 0] 51)) wr → Rd wr bo cb b) := fun wr g => (hb.gr hG3).mono (by rw [hW3]; exact g)
  have HF : Hid (∀ wr, Below (w.heap.size + 1 + 1 + 1) (((w.alloc (.cells #[.bool s, .slice ao a.length ca] 51)).alloc (.cells #[.bool t, .slice bo b.length cb] 51)).alloc (.cells #[.bool false, .slice none 0 0] 51)) wr → Below w.heap.size w wr) := fun wr g => hG3.below.trans (g.mono (by omega))
  have hA0 : 0 < a.length → ∃ x, ao = some ⟨x, 0, none⟩ := fun h => ha.has h
  have hB0 : 0 < b.length → ∃ x, bo = some ⟨x, 0, none⟩ := fun h => hb.has h
  clear ha hb hG3
  have HW3 : Hid ((((w.alloc (.cells #[.bool s, .slice ao a.length ca] 51)).alloc (.cells #[.bool t, .slice bo b.length cb] 51)).alloc (.cells #[.bool false, .slice none 0 0] 51)).heap.size = (w.heap.size + 1 + 1 + 1)) := hW3
  clear hW3
  generalize (((w.alloc (.cells #[.bool s, .slice ao a.length ca] 51)).alloc (.cells #[.bool t, .slice bo b.length cb] 51)).alloc (.cells #[.bool false, .slice none 0 0] 51)) = W at *
  have y0 := (k0.mono hb1 (by omega)).c1
  have y1 := (k1.mono hb1 (by omega)).c1
  go_wp2
  clear y0 y1
  go_loopw [6] (fun vi wr => ∃ (i : Nat) (X : List Int), i ≤ a.length ∧ vi = .int .i64 i ∧ Row wr (w.heap.size + 1 + 1 + 1) X ∧ X.length = a.length + b.length ∧ (∀ d ∈ X, isD d) ∧ Hid (vals X = vl (dg a) i * vals b) ∧ Hid (∀ p, i + b.length ≤ p → dg X p = 0) ∧ Below (w.heap.size + 1 + 1 + 1) W wr) (fun vi _ => a.length - (intOf vi).toNat)
  case atStart => exact ⟨0, _, by omega, rfl, hrow0, by simp, noughts_isD _, by unfold Hid; rw [vals_noughts, vl_zero, Int.zero_mul], fun p _ => noughts_dg _ p, hb1⟩
  case round =>
    clear hrow0 hb1
    obtain ⟨i, X, hi1, rfl, hrow, hlen, hD, hE, hZ, hbl⟩ := hrel
    have y0 := (k0.mono hbl (by omega)).c1
    have y1 := (k1.mono hbl (by omega)).c1
    by_cases hend : i = a.length
    · subst hend
      have E : vals X = N.natAbs := by rw [hE.out, ← hN]; rfl
      have M : Hid (Calls Try.prog 57 #[.bool (s != t), .slice (some ⟨(w.heap.size + 1 + 1 + 1), 0, none⟩) (a.length + b.length) (a.length + b.length)] wr fun e w' => ∃ z, e = .returned z ∧ Nm w' z N (a.length + b.length) ∧ Gr wr w') := by
        have h := made_num (s != t) (some ⟨(w.heap.size + 1 + 1 + 1), 0, none⟩) X.length X N X.length wr (hrow.rd hD (by omega)) E hs1 hs2 (Nat.le_refl _)
        rw [hlen] at h
        exact h
      have y2 := (k0.mono hbl (by omega)).c0
      have y3 := (k1.mono hbl (by omega)).c0
      have kr := k2.mono hbl (by omega)
      clear hE hZ hD hN hs1 hs2 hda hdb E
      go_wp2_with fail
      refine Calls.mono (by first | exact M.out | (have h := M.out; simpa using h)) ?_
      rintro e w2 ⟨z, rfl, hz, q2⟩
      obtain ⟨r1, o1, l1, c1, rfl, hz1⟩ := hz.shape
      clear hz M
      have hW := kr.gr q2
      have d0 := hW.c0
      have d1 := hW.c1
      have df := hW.f
      have hB2 := (HF.out wr hbl).trans (q2.below.mono (HF.out wr hbl).size)
      clear q2
      go_wp2
      refine bodyPost_ret (v := .agg #[.bool r1, .slice o1 l1 c1]) (by simp [results, Try.results43, go_sem, d0, d1]) rfl ⟨_, rfl, ?_, ?_⟩
      · exact hz1.out.setW hW _ _
      · exact (hB2.setCell (by simp only []; omega) _).setCell (by simp only []; omega) _
    · have hia : i < a.length := by omega
      obtain ⟨xa, rfl⟩ := hA0 (by omega)
      go_wp2
      go_loopw [7, 8] (fun vc vk wq => ∃ (j : Nat) (Y : List Int) (c : Int), j ≤ b.length ∧ vk = .int .i64 j ∧ vc = .int .u64 c ∧ isD c ∧ Row wq (w.heap.size + 1 + 1 + 1) Y ∧ Y.length = a.length + b.length ∧ (∀ d ∈ Y, isD d) ∧ Hid (vals Y + c * pw (i + j) = vl (dg a) i * vals b + dg a i * vl (dg b) j * pw i) ∧ Hid (∀ p, i + b.length ≤ p → dg Y p = 0) ∧ Below (w.heap.size + 1 + 1 + 1) W wq) (fun _ vk _ => b.length - (intOf vk).toNat)
      case atStart => exact ⟨0, X, 0, by omega, rfl, rfl, by unfold isD; omega, hrow, hlen, hD, by unfold Hid; rw [vl_zero, hE.out, Int.mul_zero, Int.zero_mul, Int.zero_mul], hZ, hbl⟩
      case round =>
        clear hrow hlen hD hE hZ hbl y0 y1
        obtain ⟨j, Y, c, hj1, rfl, rfl, hc, hrow, hlen, hD, hE, hZ, hbl⟩ := hrel
        have y0 := (k0.mono hbl (by omega)).c1
        have y1 := (k1.mono hbl (by omega)).c1
        by_cases hjend : j = b.length
        · subst hjend
          have r1 := hrow.cell (i + b.length) (by omega)
          have rf := hrow.frozen (i + b.length)
          have HR := hrow.set (i + b.length) c
          have HE : Hid (vals (Y.set (i + b.length) c) = vl (dg a) (i + 1) * vals b) := by
            unfold Hid
            rw [row_end (x0 := vl (dg a) i * vals b) (y := dg a i * vals b * pw i) (by omega) (hZ.out _ (Nat.le_refl _)) (by have := hE.out; exact this), vl_succ]
            grind
          have HZ : Hid (∀ p, i + 1 + b.length ≤ p → dg (Y.set (i + b.length) c) p = 0) := fun p hp => by
            rw [dg_set Y _ _ (by omega), if_neg (by omega)]; exact hZ.out p (by omega)
          have HD := set_isD hD (i + b.length) hc
          have HL : (Y.set (i + b.length) c).length = a.length + b.length := by rw [List.length_set]; exact hlen
          have hc' := hc
          unfold isD at hc'
          have e0 : c % 4294967296 = c := by omega
          clear hE hZ hD hda hdb hc
          generalize dg Y (i + b.length) = old at *
          replace HD := hid' HD
          replace HL := hid' HL
          replace HR := hid' HR
          clear hN hs1 hs2 HF HB k0 k1 k2 HW3
          go_wp2
          go_roundw
          case rel => exact ⟨i + 1, _, by omega, by go_num, HR.out, HL.out, HD.out, HE, HZ, hbl.setCell (by simp only []; omega) _⟩
          case measure => simp [intOf]; omega
        · have hjb : j < b.length := by omega
          obtain ⟨xb, rfl⟩ := hB0 (by omega)
          have ca1 := (HA.out _ hbl).at (i := i) hia
          have cb1 := (HB.out _ hbl).at (i := j) hjb
          have r1 := hrow.cell (i + j) (by omega)
          have rf := hrow.frozen (i + j)
          have e9 : wrap64 ((i : Int) + (j : Int)) = (i : Int) + (j : Int) := by unfold wrap64; omega
          have z1 : (i : Int) < (a.length : Int) := by omega
          have z2 : (j : Int) < (b.length : Int) := by omega
          have z3 : (i : Int) + (j : Int) < (a.length : Int) + (b.length : Int) := by omega
          have hDx := allD_of hD (i + j)
          have mc := mul_carry hDx (hda i) (hdb j) hc
          have ms := mul_step (X := Y) (i := i) (j := j) (c := c) (x0 := vl (dg a) i * vals b) (ai := dg a i) (vb := vl (dg b) j) (bj := dg b j) (by omega) hE.out
          rw [← vl_succ] at ms
          have HE : Hid (vals (Y.set (i + j) ((dg Y (i + j) + dg a i * dg b j + c) % 4294967296)) + (dg Y (i + j) + dg a i * dg b j + c) / 4294967296 * pw (i + (j + 1)) = vl (dg a) i * vals b + dg a i * vl (dg b) (j + 1) * pw i) := by unfold Hid; rw [← Nat.add_assoc]; exact ms
          have HZ : Hid (∀ p, i + b.length ≤ p → dg (Y.set (i + j) ((dg Y (i + j) + dg a i * dg b j + c) % 4294967296)) p = 0) := fun p hp => by
            rw [dg_set Y _ _ (by omega), if_neg (by omega)]; exact hZ.out p hp
          have HD := set_isD hD (i + j) mc.2.2.2
          have HL : (Y.set (i + j) ((dg Y (i + j) + dg a i * dg b j + c) % 4294967296)).length = a.length + b.length := by rw [List.length_set]; exact hlen
          have HC := mc.2.2.1
          have da := hda i
          have db := hdb j
          unfold isD at da db hDx
          have hc' := hc
          unfold isD at hc'
          obtain ⟨mc0, mc1, _⟩ := mc
          clear ms hE hZ hD hc
          generalize hAB : dg a i * dg b j = AB at *
          generalize hOld : dg Y (i + j) = old at *
          generalize dg a i = ai at *
          generalize dg b j = bj at *
          have q1 : IntKind.u64.wrap ai = ai := by rw [IntKind.wrap_u64]; omega
          have q2 : IntKind.u64.wrap bj = bj := by rw [IntKind.wrap_u64]; omega
          have q3 : IntKind.u64.wrap AB = AB := by rw [IntKind.wrap_u64]; omega
          have q4 : IntKind.u64.wrap old = old := by rw [IntKind.wrap_u64]; omega
          have q5 : IntKind.u64.wrap (AB + old) = AB + old := by rw [IntKind.wrap_u64]; omega
          have q6 : IntKind.u64.wrap (AB + old + c) = AB + old + c := by rw [IntKind.wrap_u64]; omega
          have q7 : Int.tmod (AB + old + c) 4294967296 = (old + AB + c) % 4294967296 := by rw [Int.tmod_eq_emod_of_nonneg (by omega), Int.add_comm AB old]
          have q8 : Int.tdiv (AB + old + c) 4294967296 = (old + AB + c) / 4294967296 := by rw [Int.tdiv_eq_ediv_of_nonneg (by omega), Int.add_comm AB old]
          have q9 : IntKind.u64.wrap ((old + AB + c) / 4294967296) = (old + AB + c) / 4294967296 := by rw [IntKind.wrap_u64]; omega
          have q10 : (old + AB + c) % 4294967296 % 4294967296 = (old + AB + c) % 4294967296 := by omega
          replace HD := hid' HD
          replace HL := hid' HL
          clear hOld hN hs1 hs2 HF HW3
          have HR0 := hrow
          generalize (old + AB + c) / 4294967296 = QQ at *
          generalize (old + AB + c) % 4294967296 = RR at *
          clear mc0 mc1 da db hDx hc'
          go_wp2
          go_quiet (fail)
          have gq : Gr wr (wr.drewN nq) := ⟨nq, #[], by rw [grow_empty]⟩
          have hrow1 := hrow.gr gq
          have hbl1 := hbl.trans (gq.below.mono (by have := hrow.lt; omega))
          replace r1 := below_cell r1 gq.below
          replace rf := hrow1.frozen (i + j)
          replace y1 := below_cell y1 gq.below
          have HR := hid' (hrow1.set (i + j) RR)
          clear ca1 cb1 y0 hrow hbl gq HR0 hrow1
          generalize wr.drewN nq = W5 at *
          go_wp2
          go_roundw
          case rel => exact ⟨j + 1, _, QQ, by omega, by go_num, rfl, HC, HR.out, HL.out, HD.out, HE, HZ, hbl1.setCell (by simp only []; omega) _⟩
          case measure => simp [intOf]; omega

theorem times_num (x y : Value) (m n : Int) (L M : Nat) (w : World) (hx : Nm w x m L) (hy : Nm w y n M) (hL : L ≤ 400) (hM : M ≤ 400) :
    Calls Try.prog 43 #[x, y] w fun e w' => ∃ z, e = .returned z ∧ Nm w' z (m * n) (L + M) ∧ Below w.heap.size w w' := by
  obtain ⟨ao, ca, a, rfl, ha, _, va, la⟩ := hx
  obtain ⟨bo, cb, b, rfl, hb, _, vb, lb⟩ := hy
  refine (times_core _ _ ao bo ca cb a b (m * n) w ha hb (by omega) (by omega) (by rw [va, vb, Int.natAbs_mul]; exact (Int.natCast_mul _ _).symm) sign_mul.1 sign_mul.2).mono ?_
  rintro e w' ⟨z, rfl, hz, g⟩
  exact ⟨z, rfl, hz.le (by omega), g⟩
end Go.Proofs.Ytagabccaipfjeaa
