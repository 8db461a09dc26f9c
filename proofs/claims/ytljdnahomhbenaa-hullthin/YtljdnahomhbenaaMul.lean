/- Contract of the reference's product of two numbers of any size. -/
import Derived.Test.YtljdnahomhbenaaOf
import Derived.Test.YtljdnahomhbenaaProdP
namespace Go.Proofs.Ytljdnahomhbenaa
section
open Go.RowKit Go.Sort

/-- Block g is a row of these digits. -/
def Row (w : World) (g : Nat) (X : List Int) : Prop := w.heap[g]? = some (.cells (X.map (Value.int .u64)).toArray 69 (0, 0))
theorem Row.lt {w : World} {g : Nat} {X : List Int} (h : Row w g X) : g < w.heap.size := lt_of_block h
theorem Row.cell {w : World} {g : Nat} {X : List Int} (h : Row w g X) (i : Nat) (hi : i < X.length) : w.cell? ⟨g, i, none⟩ = some (.int .u64 (dg X i)) := by
  rw [cell_of_row w g i _ 69 (0, 0) h]
  simp [dg, List.getD, hi]
theorem Row.frozen {w : World} {g : Nat} {X : List Int} (h : Row w g X) (i : Nat) : w.frozen? ⟨g, i, none⟩ = false := by unfold Row at h; simp [World.frozen?, h]
theorem Row.mono {w w' : World} {g B : Nat} {X : List Int} (h : Row w g X) (b : Below B w w') (hg : g < B) : Row w' g X := by
  unfold Row; rw [b.block g hg]; exact h
theorem Row.set {w : World} {g : Nat} {X : List Int} (h : Row w g X) (i : Nat) (d : Int) : Row (w.setCell ⟨g, i, none⟩ (.int .u64 d)) g (X.set i d) := by
  have hlt := h.lt
  have h' : w.heap[g] = .cells (X.map (Value.int .u64)).toArray 69 (0, 0) := by unfold Row at h; simpa [Array.getElem?_eq_getElem hlt] using h
  show (w.heap.modify g _)[g]? = _
  rw [Array.getElem?_eq_getElem (by simpa using hlt), Array.getElem_modify_self, h']
  simp
theorem Row.other {w : World} {g : Nat} {X : List Int} (h : Row w g X) {p : Addr} (hp : g ≠ p.block) (z : Value) : Row (w.setCell p z) g X := by
  unfold Row; rw [Below.heap_setCell _ _ _ _ hp]; exact h
theorem Row.alloc {w : World} {g : Nat} {X : List Int} (h : Row w g X) (o : Obj) : Row (w.alloc o) g X := by
  unfold Row; rw [Below.heap_alloc w o g h.lt]; exact h
theorem Row.rd {w : World} {g : Nat} {X : List Int} (h : Row w g X) (hd : ∀ d ∈ X, isD d) (hf : X.length ≤ 1000000) : Rd w (some ⟨g, 0, none⟩) X.length X :=
  ⟨fun e => (by cases e), fun a ha => (by cases ha; exact ⟨g, _, rfl, h, fun i hi => by simp [dg, List.getD, hi]⟩), Nat.le_refl _, (by unfold maxLen; omega), hd, hf⟩
theorem Row.new {w : World} {base g n : Nat} (h : w.ownsRow base 69 1 (.slice (some ⟨g, 0, none⟩) n n) n (madeCells #[.int .u64 0] n).toList) : Row w g (List.replicate n 0) := by
  rcases h.2 with ⟨e, _⟩ | ⟨g', cap, cur, e, _, hh, _, _, hs, ht⟩
  · cases e
  · cases e
    unfold Row
    rw [hh]
    have e1 : cur.toList = (madeCells #[.int .u64 0] n).toList := by rw [← ht, List.take_of_length_le (by simp [hs])]
    have e2 : cur = (madeCells #[.int .u64 0] n) := Array.toList_inj.1 e1
    rw [e2]
    congr 2
    apply Array.ext
    · simp [madeCells]
    · intro i h1 h2
      simp [madeCells, Nat.mod_one]

set_option maxHeartbeats 2000000 in
theorem mul_core (s t : Bool) (ao bo : Option Addr) (ca cb : Nat) (a b : List Int) (w : World) (ha : Rd w ao ca a) (hb : Rd w bo cb b) (h1 : a.length ≤ 400) (h2 : b.length ≤ 400) :
    Calls Try.prog 82 #[.agg #[.bool s, .slice ao a.length ca], .agg #[.bool t, .slice bo b.length cb]] w fun e w' => ∃ ao cap l, e = .returned (.agg #[.bool ((s != t) && (l.length != 0)), .slice ao l.length cap]) ∧ Rd w' ao cap l ∧ nrm l ∧ vals l = vals a * vals b ∧ Below w.heap.size w w' := by
  obtain ⟨i0, hi, hz0, hz1, hz2⟩ := info_parts Try.info69
  have hda := allD_of ha.dig
  have hdb := allD_of hb.dig
  go_enter Try.func82, Try.ntmps82
  go_wp2_with (at_make; refine wpList_make_full _ rfl (.tmp 17) (.tmp 17) 51 rfl w.heap.size 69 i0 (.int .u64 0) 1 Try.underlying51 hi hz0 hz1 .i64 .i64 _ _ (a.length + b.length + 1) rfl rfl (by omega) (by omega) (by rw [hz2]; omega) (by unfold maxLen; omega) (by simp; omega) ?_)
  intro w1 hown hgrow
  have hrow := Row.new hown
  have hb3 := below3 w (.cells #[.bool s, .slice ao a.length ca] 53) (.cells #[.bool t, .slice bo b.length cb] 53) (.cells #[.bool false, .slice none 0 0] 53)
  have k0 : Bk (((w.alloc (.cells #[.bool s, .slice ao a.length ca] 53)).alloc (.cells #[.bool t, .slice bo b.length cb] 53)).alloc (.cells #[.bool false, .slice none 0 0] 53)) w.heap.size (.bool s) (.slice ao a.length ca) := ((Bk.new w _ _).alloc _).alloc _
  have k1 : Bk (((w.alloc (.cells #[.bool s, .slice ao a.length ca] 53)).alloc (.cells #[.bool t, .slice bo b.length cb] 53)).alloc (.cells #[.bool false, .slice none 0 0] 53)) (w.heap.size + 1) (.bool t) (.slice bo b.length cb) := by simpa using (Bk.new (w.alloc (.cells #[.bool s, .slice ao a.length ca] 53)) (.bool t) (.slice bo b.length cb)).alloc (.cells #[.bool false, .slice none 0 0] 53)
  have k2 : Bk (((w.alloc (.cells #[.bool s, .slice ao a.length ca] 53)).alloc (.cells #[.bool t, .slice bo b.length cb] 53)).alloc (.cells #[.bool false, .slice none 0 0] 53)) (w.heap.size + 1 + 1) (.bool false) (.slice none 0 0) := by simpa using Bk.new ((w.alloc (.cells #[.bool s, .slice ao a.length ca] 53)).alloc (.cells #[.bool t, .slice bo b.length cb] 53)) (.bool false) (.slice none 0 0)
  have hW3 : (((w.alloc (.cells #[.bool s, .slice ao a.length ca] 53)).alloc (.cells #[.bool t, .slice bo b.length cb] 53)).alloc (.cells #[.bool false, .slice none 0 0] 53)).heap.size = w.heap.size + 1 + 1 + 1 := by simp
  have hb1 : Below (w.heap.size + 1 + 1 + 1) (((w.alloc (.cells #[.bool s, .slice ao a.length ca] 53)).alloc (.cells #[.bool t, .slice bo b.length cb] 53)).alloc (.cells #[.bool false, .slice none 0 0] 53)) w1 :=
    ⟨hgrow.os, hgrow.tape, hgrow.output, hgrow.size, fun k hk => hgrow.block k (by rw [hW3]; exact hk) (by simp)⟩
  clear hown hgrow
  generalize ((w.alloc (.cells #[.bool s, .slice ao a.length ca] 53)).alloc (.cells #[.bool t, .slice bo b.length cb] 53)).alloc (.cells #[.bool false, .slice none 0 0] 53) = W3 at *
  have HW3 : Hid (W3.heap.size = w.heap.size + 1 + 1 + 1) := hW3
  clear hW3
  have hg1 := hrow.lt
  go_wp2
  go_loopw [6] (fun v6 wr => ∃ (i : Nat) (L : List Int), i ≤ a.length ∧ v6 = .int .i64 i ∧ Row wr (w.heap.size + 1 + 1 + 1) L ∧ L.length = a.length + b.length + 1 ∧ (∀ d ∈ L, isD d) ∧ Hid (vals L = vl (dg a) i * vals b) ∧
      Bk wr w1.heap.size (.bool false) (.slice (some ⟨w.heap.size + 1 + 1 + 1, 0, none⟩) (a.length + b.length + 1) (a.length + b.length + 1)) ∧ Below (w.heap.size + 1 + 1 + 1) W3 wr) (fun v6 _ => a.length - (intOf v6).toNat)
  case atStart => exact ⟨0, _, by omega, rfl, hrow.alloc _, by simp, noughts_isD _, by unfold Hid; rw [vals_noughts, vl_zero, Int.zero_mul], Bk.new w1 _ _, hb1.trans (((Gr.refl _).alloc _).below.mono (by omega))⟩
  case round =>
    clear hrow
    obtain ⟨i, L, hi1, rfl, hrow, hlen, hD, hE, kx, hbl⟩ := hrel
    have c0 := (k0.mono hbl (by omega)).c0
    have c1 := (k0.mono hbl (by omega)).c1
    have c2 := (k1.mono hbl (by omega)).c0
    have c3 := (k1.mono hbl (by omega)).c1
    have x0 := kx.c0
    have x1 := kx.c1
    have x2 := kx.f0
    by_cases hlt : i < a.length
    · cases ao with
      | none => have := (ha.nil rfl).1; subst this; simp at hlt
      | some a0 =>
        obtain ⟨ba, rfl, hba, hca⟩ := ha.cell a0 rfl
        have hai := hca i hlt
        clear hca
        clear c0 c2 x0 x2
        have HI : Hid (vals L + 0 * pw (i + 0) = vl (dg a) i * vals b + dg a i * vl (dg b) 0 * pw i) := by
          have := hE.out
          unfold Hid
          rw [vl_zero, this]; omega
        go_wp2
        go_loopw [7, 8] (fun v7 v8 wr => ∃ (j : Nat) (c : Int) (L : List Int), j ≤ b.length + 1 ∧ v7 = .int .u64 c ∧ v8 = .int .i64 j ∧ 0 ≤ c ∧ c < 65536 ∧ Row wr (w.heap.size + 1 + 1 + 1) L ∧ L.length = a.length + b.length + 1 ∧ (∀ d ∈ L, isD d) ∧ Hid (vals L + c * pw (i + j) = vl (dg a) i * vals b + dg a i * vl (dg b) j * pw i) ∧
          Bk wr w1.heap.size (.bool false) (.slice (some ⟨w.heap.size + 1 + 1 + 1, 0, none⟩) (a.length + b.length + 1) (a.length + b.length + 1)) ∧ Below (w.heap.size + 1 + 1 + 1) W3 wr) (fun _ v8 _ => b.length + 1 - (intOf v8).toNat)
        case atStart => exact ⟨0, 0, L, by omega, rfl, rfl, by omega, by omega, hrow, hlen, hD, HI, kx, hbl⟩
        case round =>
          clear hrow hlen hD hE kx hbl HI c1 c3 x1
          obtain ⟨j, c, L, hj, rfl, rfl, n1, n2, hrow, hlen, hD, hE, kx, hbl⟩ := hrel
          have hgX := kx.lt
          have hbw : Below w.heap.size w wr := hb3.trans (hbl.mono (by omega))
          have HB : Hid (∀ n os, Rd (grow (wr.drewN n) os) bo cb b) := fun n os => hb.mono (hbw.trans ((Gr.below ⟨n, os, rfl⟩).mono hbw.size))
          have c1 := (k0.mono hbl (by omega)).c1
          have c2 := (k1.mono hbl (by omega)).c0
          have c3 := (k1.mono hbl (by omega)).c1
          have x1 := kx.c1
          have r1 : ∀ n os, (grow (wr.drewN n) os).cell? ⟨w.heap.size, 1, none⟩ = some (.slice (some ⟨ba, 0, none⟩) a.length ca) := cell_grown (by simp only []; omega) c1
          have r2 : ∀ n os, (grow (wr.drewN n) os).cell? ⟨w.heap.size + 1, 0, none⟩ = some (.bool t) := cell_grown (by simp only []; omega) c2
          have r3 : ∀ n os, (grow (wr.drewN n) os).cell? ⟨w.heap.size + 1, 1, none⟩ = some (.slice bo b.length cb) := cell_grown (by simp only []; omega) c3
          have r4 : ∀ n os, (grow (wr.drewN n) os).cell? ⟨w1.heap.size, 1, none⟩ = some (.slice (some ⟨w.heap.size + 1 + 1 + 1, 0, none⟩) (a.length + b.length + 1) (a.length + b.length + 1)) := cell_grown (by simp only []; omega) x1
          have r5 : ∀ n os, (grow (wr.drewN n) os).cell? ⟨ba, i, none⟩ = some (.int .u64 (dg a i)) := cell_grown (by simp only []; have := hbw.size; omega) ((hbw.cell (p := ⟨ba, i, none⟩) hba).trans hai)
          by_cases hgo : j < b.length ∨ (¬ j < b.length ∧ 0 < c)
          · have hjb : j ≤ b.length := by
              rcases hgo with h | ⟨h, h'⟩
              · omega
              · exact mul_last hD hda hdb h' (by omega) hE.out
            have hp : i + j < L.length := by omega
            have r6 : ∀ n os, (grow (wr.drewN n) os).cell? ⟨w.heap.size + 1 + 1 + 1, i + j, none⟩ = some (.int .u64 (dg L (i + j))) := cell_grown (by simp only []; omega) (hrow.cell (i + j) hp)
            obtain ⟨m1, m2, m3, m4⟩ := mul_carry (allD_of hD (i + j)) (hda i) (hdb j) ⟨n1, n2⟩
            obtain ⟨l1, l2⟩ := allD_of hD (i + j)
            have hE2 : Hid _ := mul_step (bj := dg b j) hp hE.out
            rcases hgo with hgo | ⟨hgo, hgo2⟩
            all_goals
              go_wp2
              refine wp_region_quiet_grown (by kernel_rfl) (by kernel_rfl) ?_
              repeat (go_big_quiet_step ((go_at_call 99; refine Calls.grown_of (digit_any t bo cb b j _ (HB.out _ _)))))
              refine wpQuiet_nil ?_
              intro _ hw'
              obtain ⟨⟨nq, osq⟩, hw''⟩ := hw'
              subst hw''
              have g2 : Gr wr (grow (wr.drewN nq) osq) := ⟨nq, osq, rfl⟩
              replace hrow := hrow.mono g2.below hrow.lt
              replace hbl := hbl.trans (g2.below.mono (by omega))
              replace kx := kx.mono g2.below kx.lt
              clear r1 r2 r3 r4 r5 r6 HB c1 c2 c3 x1 g2 hgX hbw
              generalize grow (wr.drewN nq) osq = W2 at *
              have x1 := kx.c1
              have y1 := hrow.cell (i + j) hp
              have y2 := hrow.frozen (i + j)
              have z1 := hrow.set (i + j) ((dg L (i + j) + dg a i * dg b j + c) % 65536)
              have z2 := kx.other (p := ⟨w.heap.size + 1 + 1 + 1, i + j, none⟩) (Nat.ne_of_gt hg1) (.int .u64 ((dg L (i + j) + dg a i * dg b j + c) % 65536))
              have z3 := hbl.setCell (p := ⟨w.heap.size + 1 + 1 + 1, i + j, none⟩) (Nat.le_refl _) (.int .u64 ((dg L (i + j) + dg a i * dg b j + c) % 65536))
              clear hrow hbl kx
              go_wp2
              go_roundw
              case rel => exact ⟨j + 1, _, _, by omega, rfl, by go_num, m3.1, m3.2, z1, by rw [List.length_set]; exact hlen, set_isD hD _ m4, hE2, z2, z3⟩
              case measure => simp [intOf]; omega
          · have y1 : ¬ j < b.length := fun h => hgo (.inl h)
            have y2 : ¬ 0 < c := fun h => hgo (.inr ⟨y1, h⟩)
            have HN : Hid (vals L = vl (dg a) (i + 1) * vals b) := by
              have e := hE.out
              have hc0 : c = 0 := by omega
              rw [hc0, vals_more b j (by omega)] at e
              unfold Hid
              rw [vl_succ]
              exact mul_row (by omega)
            clear r1 r2 r3 r4 r5 HB hgo
            go_wp2
            go_roundw
            case rel => exact ⟨i + 1, L, by omega, by go_num, hrow, hlen, hD, HN, kx, hbl⟩
            case measure => simp [intOf]; omega
    · have HE : Hid (vals (trim L) = vals a * vals b) := by
        have e := hE.out
        have hia : i = a.length := by omega
        unfold Hid
        rw [trim_vals, e, hia]; rfl
      have hRd := hrow.rd hD (by omega)
      have HR : Hid (∀ z, Rd (wr.setCell ⟨w1.heap.size, 0, none⟩ z) (some ⟨w.heap.size + 1 + 1 + 1, 0, none⟩) (a.length + b.length + 1) L) := fun z => by
        have := hRd.setBk kx z (o := 0)
        rw [hlen] at this
        exact this
      have HC : Hid (∀ (r : Bool) (z : Value), Calls Try.prog 100 #[.agg #[.bool r, .slice (some ⟨w.heap.size + 1 + 1 + 1, 0, none⟩) (a.length + b.length + 1) (a.length + b.length + 1)]] (wr.setCell ⟨w1.heap.size, 0, none⟩ z) fun e w' => e = .returned (.agg #[.bool (r && ((trim L).length != 0)), .slice (some ⟨w.heap.size + 1 + 1 + 1, 0, none⟩) (trim L).length (a.length + b.length + 1)]) ∧ Gr (wr.setCell ⟨w1.heap.size, 0, none⟩ z) w') := fun r z => by
        have h := trim_num r _ _ L _ (HR.out z)
        rw [hlen] at h
        exact h
      have hX := kx.lt
      clear hE hRd
      go_wp2_with fail
      refine (HC.out _ _).mono ?_
      rintro e w2 ⟨rfl, hg⟩
      have hR2 := (HR.out (.bool (!(s == t)))).trim.mono hg.below
      have hn := trim_nrm L
      have k3 := (((k2.mono hbl (by omega)).other (p := ⟨w1.heap.size, 0, none⟩) (by simp only []; omega) (.bool (!(s == t))))).mono hg.below (by simp [World.setCell]; omega)
      have hbl2 : Below w.heap.size w w2 := ((hb3.trans (hbl.mono (by omega))).setCell (p := ⟨w1.heap.size, 0, none⟩) (by simp only []; omega) (.bool (!(s == t)))).trans (hg.below.mono (by simp [World.setCell]; omega))
      have q0 := k3.c0
      have q1 := k3.c1
      have q2 := k3.f0
      have q3 := k3.f1
      clear HC HR hg hbl kx hrow c0 c1 c2 c3 x0 x1 x2 hlen
      generalize trim L = M at *
      go_wp2
      refine bodyPost_ret (v := .agg #[.bool ((s != t) && (M.length != 0)), .slice (some ⟨w.heap.size + 1 + 1 + 1, 0, none⟩) M.length (a.length + b.length + 1)]) (by simp [results, Try.results82, go_sem, q0, q1]; rfl) rfl ⟨_, _, M, rfl, ?_, hn, HE.out, ?_⟩
      · exact (hR2.setBk k3 _).setBk (k3.set0 _) _
      · exact (hbl2.setCell (by simp only []; omega) _).setCell (by simp only []; omega) _

theorem mul_num (x y : Value) (m n : Int) (w : World) (hx : Nm w x m) (hy : Nm w y n) (sm : small m) (sn : small n) :
    Calls Try.prog 82 #[x, y] w fun e w' => ∃ z, e = .returned z ∧ Nm w' z (m * n) ∧ Below w.heap.size w w' := by
  obtain ⟨ao, ca, a, rfl, ha, hna, hva⟩ := hx
  obtain ⟨bo, cb, b, rfl, hb, hnb, hvb⟩ := hy
  refine (mul_core _ _ ao bo ca cb a b w ha hb (small_len ha.dig hna hva sm) (small_len hb.dig hnb hvb sn)).mono ?_
  rintro e w' ⟨o, c, l, rfl, hR, hn, hv, hbl⟩
  have hv' : vals l = (m * n).natAbs := by rw [hv, hva, hvb, Int.natAbs_mul, Int.natCast_mul]
  refine ⟨_, rfl, ⟨o, c, l, ?_, hR, hn, hv'⟩, hbl⟩
  rw [flag (n := m * n) hR.dig hn hv']
  · intro h
    by_cases h1 : m < 0 <;> by_cases h2 : n < 0
    · simp [h1, h2] at h
    · exact Int.mul_nonpos_of_nonpos_of_nonneg (by omega) (by omega)
    · exact Int.mul_nonpos_of_nonneg_of_nonpos (by omega) (by omega)
    · simp [h1, h2] at h
  · intro h
    by_cases h1 : m < 0 <;> by_cases h2 : n < 0
    · exact Int.mul_nonneg_of_nonpos_of_nonpos (by omega) (by omega)
    · simp [h1, h2] at h
    · simp [h1, h2] at h
    · exact Int.mul_nonneg (by omega) (by omega)
end
end Go.Proofs.Ytljdnahomhbenaa
