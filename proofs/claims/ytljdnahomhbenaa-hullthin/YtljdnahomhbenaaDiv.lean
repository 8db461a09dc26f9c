/- Contract of the reference's quotient of two sizes and what is left. -/
import Derived.Test.YtljdnahomhbenaaMul
import Derived.Test.YtljdnahomhbenaaDivP
namespace Go.Proofs.Ytljdnahomhbenaa
section
open Go.RowKit Go.Sort

theorem p2_6003 : p2 6003 = 8 * p2 6000 := by rw [show 6003 = 6000 + 3 from rfl, p2_add]; show p2 6000 * 8 = _; omega
theorem small_le {n : Int} (h : -(4 * p2 6000) ≤ n) (h' : n ≤ 4 * p2 6000) : small n := by
  have h1 := p2_mono (j := 6003) (k := 6399) (by omega)
  have h2 := p2_pos 6000
  rw [p2_6003] at h1
  exact small_of (by omega) (by omega)

/-- Block b is a variable that holds the number n. -/
def Vr (w : World) (b : Nat) (n : Int) : Prop := ∃ r o l c, Bk w b (.bool r) (.slice o l c) ∧ Nm w (.agg #[.bool r, .slice o l c]) n
theorem Vr.mono {w w' : World} {b : Nat} {n : Int} (h : Vr w b n) (g : Below w.heap.size w w') : Vr w' b n := by
  obtain ⟨r, o, l, c, hk, hm⟩ := h
  exact ⟨r, o, l, c, hk.mono g hk.lt, hm.mono g⟩
theorem Vr.lt {w : World} {b : Nat} {n : Int} (h : Vr w b n) : b < w.heap.size := by
  obtain ⟨r, o, l, c, hk, hm⟩ := h
  exact hk.lt
theorem Vr.put {w : World} {b : Nat} {x y : Value} (hb : Bk w b x y) {r : Bool} {o : Option Addr} {l c : Nat} {n : Int} (h : Nm w (.agg #[.bool r, .slice o l c]) n) :
    Vr ((w.setCell ⟨b, 0, none⟩ (.bool r)).setCell ⟨b, 1, none⟩ (.slice o l c)) b n :=
  ⟨r, o, l, c, (hb.set0 _).set1 _, (h.setBk hb _).setBk (hb.set0 _) _⟩
theorem Vr.keep {w : World} {b : Nat} {x y : Value} (hb : Bk w b x y) {b' : Nat} {m : Int} (h : Vr w b' m) (hne : b' ≠ b) (u v : Value) :
    Vr ((w.setCell ⟨b, 0, none⟩ u).setCell ⟨b, 1, none⟩ v) b' m := by
  obtain ⟨r, o, l, c, hk, hm⟩ := h
  exact ⟨r, o, l, c, (hk.other hne _).other hne _, (hm.setBk hb _).setBk (hb.set0 _) _⟩
theorem keep2 {K : Nat} {W w : World} (h : Below K W w) {b : Nat} (hb : K ≤ b) (u v : Value) : Below K W ((w.setCell ⟨b, 0, none⟩ u).setCell ⟨b, 1, none⟩ v) := (h.setCell hb _).setCell hb _
theorem below6 (w : World) (a b c d e f : Obj) : Below w.heap.size w ((((((w.alloc a).alloc b).alloc c).alloc d).alloc e).alloc f) := (((((((Gr.refl _).alloc _).alloc _).alloc _).alloc _).alloc _).alloc _).below
theorem Vr.new (w : World) : Vr (w.alloc (.cells #[.bool false, .slice none 0 0] 53)) w.heap.size 0 := ⟨false, none, 0, 0, Bk.new w _ _, nm_zero _⟩

/-- What stands ahead of the loop of the quotient. -/
structure DivW (w W : World) (s : Bool) (ao : Option Addr) (ca : Nat) (a : List Int) (t : Bool) (bo : Option Addr) (lb cb : Nat) (n : Int) : Prop where
  ka : Bk W w.heap.size (.bool s) (.slice ao a.length ca)
  kb : Bk W (w.heap.size + 1) (.bool t) (.slice bo lb cb)
  kq : Bk W (w.heap.size + 1 + 1) (.bool false) (.slice none 0 0)
  kl : Bk W (w.heap.size + 1 + 1 + 1) (.bool false) (.slice none 0 0)
  v4 : Vr W (w.heap.size + 1 + 1 + 1 + 1) 0
  v5 : Vr W (w.heap.size + 1 + 1 + 1 + 1 + 1) 0
  ra : Rd W ao ca a
  ny : Nm W (.agg #[.bool t, .slice bo lb cb]) n
  bw : Below w.heap.size w W
theorem DivW.mk' (w : World) (s : Bool) (ao : Option Addr) (ca : Nat) (a : List Int) (t : Bool) (bo : Option Addr) (lb cb : Nat) (n : Int) (ha : Rd w ao ca a) (hy : Nm w (.agg #[.bool t, .slice bo lb cb]) n) :
    DivW w ((((((w.alloc (.cells #[.bool s, .slice ao a.length ca] 53)).alloc (.cells #[.bool t, .slice bo lb cb] 53)).alloc (.cells #[.bool false, .slice none 0 0] 53)).alloc (.cells #[.bool false, .slice none 0 0] 53)).alloc (.cells #[.bool false, .slice none 0 0] 53)).alloc (.cells #[.bool false, .slice none 0 0] 53)) s ao ca a t bo lb cb n := by
  refine ⟨?_, ?_, ?_, ?_, ?_, ?_, ha.mono (below6 _ _ _ _ _ _ _), hy.mono (below6 _ _ _ _ _ _ _), below6 _ _ _ _ _ _ _⟩
  · exact (((((Bk.new w _ _).alloc _).alloc _).alloc _).alloc _).alloc _
  · have := ((((Bk.new (w.alloc (.cells #[.bool s, .slice ao a.length ca] 53)) (.bool t) (.slice bo lb cb)).alloc (.cells #[.bool false, .slice none 0 0] 53)).alloc (.cells #[.bool false, .slice none 0 0] 53)).alloc (.cells #[.bool false, .slice none 0 0] 53)).alloc (.cells #[.bool false, .slice none 0 0] 53)
    rw [World.size_alloc] at this; exact this
  · have := (((Bk.new ((w.alloc (.cells #[.bool s, .slice ao a.length ca] 53)).alloc (.cells #[.bool t, .slice bo lb cb] 53)) (.bool false) (.slice none 0 0)).alloc (.cells #[.bool false, .slice none 0 0] 53)).alloc (.cells #[.bool false, .slice none 0 0] 53)).alloc (.cells #[.bool false, .slice none 0 0] 53)
    rw [World.size_alloc, World.size_alloc] at this; exact this
  · have := ((Bk.new (((w.alloc (.cells #[.bool s, .slice ao a.length ca] 53)).alloc (.cells #[.bool t, .slice bo lb cb] 53)).alloc (.cells #[.bool false, .slice none 0 0] 53)) (.bool false) (.slice none 0 0)).alloc (.cells #[.bool false, .slice none 0 0] 53)).alloc (.cells #[.bool false, .slice none 0 0] 53)
    rw [World.size_alloc, World.size_alloc, World.size_alloc] at this; exact this
  · have := (Vr.new ((((w.alloc (.cells #[.bool s, .slice ao a.length ca] 53)).alloc (.cells #[.bool t, .slice bo lb cb] 53)).alloc (.cells #[.bool false, .slice none 0 0] 53)).alloc (.cells #[.bool false, .slice none 0 0] 53))).mono ((Gr.refl _).alloc (.cells #[.bool false, .slice none 0 0] 53)).below
    rw [World.size_alloc, World.size_alloc, World.size_alloc, World.size_alloc] at this; exact this
  · have := Vr.new (((((w.alloc (.cells #[.bool s, .slice ao a.length ca] 53)).alloc (.cells #[.bool t, .slice bo lb cb] 53)).alloc (.cells #[.bool false, .slice none 0 0] 53)).alloc (.cells #[.bool false, .slice none 0 0] 53)).alloc (.cells #[.bool false, .slice none 0 0] 53))
    rw [World.size_alloc, World.size_alloc, World.size_alloc, World.size_alloc, World.size_alloc] at this; exact this

theorem bit_cases {A Y D : Int} (hD : 0 ≤ D) (hb : A % 2 = D % 2) (hh : A = 2 * Y + A % 2) : ((D.tmod 2 == 1) = true ∧ A = 2 * Y + 1) ∨ ((D.tmod 2 == 1) = false ∧ A = 2 * Y + 0) := by
  rw [Int.tmod_eq_emod_of_nonneg hD]
  by_cases h : D % 2 = 1
  · exact .inl ⟨by simp [h], by omega⟩
  · exact .inr ⟨by simp [h], by omega⟩
theorem cmp_ge {m n : Int} (h : n ≤ m) : 0 ≤ cmpI m n := by unfold cmpI; split <;> (try split) <;> omega
theorem cmp_lt0 {m n : Int} (h : ¬ n ≤ m) : decide (0 ≤ cmpI m n) = false := by unfold cmpI; rw [if_pos (by omega)]; decide

theorem pow_gr (m : Nat) (w : World) : Calls Try.prog 135 #[.int .i64 ((m : Int) % 16)] w fun e w' => e = .returned (.int .u64 (p2 (m % 16))) ∧ Gr w w' := by
  have h := pow_any (m % 16) w (by omega)
  rw [show ((m % 16 : Nat) : Int) = (m : Int) % 16 from by omega] at h
  exact h.mono fun e w' ⟨he, hw⟩ => ⟨he, hw ▸ Gr.refl _⟩

set_option maxHeartbeats 4000000 in
set_option maxRecDepth 100000 in
theorem div_core (s : Bool) (ao : Option Addr) (ca : Nat) (a : List Int) (y : Value) (n : Int) (w : World) (ha : Rd w ao ca a) (hla : a.length ≤ 400) (hsa : vals a < p2 6000) (hy : Nm w y n) (hn : 0 < n) (hsn : n < p2 6000) :
    Calls Try.prog 119 #[.agg #[.bool s, .slice ao a.length ca], y] w fun e w' => ∃ z1 z2, e = .returned (.tuple #[z1, z2]) ∧ Nm w' z1 (vals a / n) ∧ Nm w' z2 (vals a % n) ∧ Below w.heap.size w w' := by
  obtain ⟨t, bo, lb, cb, rfl, hy'⟩ := hy.shape
  have hda := allD_of ha.dig
  have hA0 := (vl_bd hda a.length).1
  have hD := DivW.mk' w s ao ca a t bo lb cb n ha hy
  have HA : Hid (0 ≤ vals a) := hA0
  have hny0 := hy
  clear hy hy' hA0
  go_enter Try.func119, Try.ntmps119
  go_wp2
  generalize (((((w.alloc (.cells #[.bool s, .slice ao a.length ca] 53)).alloc (.cells #[.bool t, .slice bo lb cb] 53)).alloc (.cells #[.bool false, .slice none 0 0] 53)).alloc (.cells #[.bool false, .slice none 0 0] 53)).alloc (.cells #[.bool false, .slice none 0 0] 53)).alloc (.cells #[.bool false, .slice none 0 0] 53) = W at *
  go_loopw [8] (fun v8 wr => ∃ k : Nat, k ≤ 16 * a.length ∧ v8 = .int .i64 ((k : Int) - 1) ∧ Vr wr (w.heap.size + 1 + 1 + 1 + 1) (vals a / p2 k / n) ∧ Vr wr (w.heap.size + 1 + 1 + 1 + 1 + 1) (vals a / p2 k % n) ∧ Below (w.heap.size + 1 + 1 + 1 + 1) W wr) (fun v8 _ => (intOf v8 + 1).toNat)
  case atStart => exact ⟨16 * a.length, by omega, by congr 1; omega, by rw [div_top a hda, Int.zero_ediv]; exact hD.v4, by rw [div_top a hda, Int.zero_emod]; exact hD.v5, Below.refl _ _⟩
  case round =>
    obtain ⟨k, hk, rfl, v4, v5, hbl⟩ := hrel
    by_cases h0 : k = 0
    · subst h0
      obtain ⟨qr, qo, ql, qc, kq, hq⟩ := v4
      obtain ⟨lr, lo, ll, lc, kl, hl⟩ := v5
      have e1 : vals a / p2 0 = vals a := by show vals a / 1 = vals a; omega
      rw [e1] at hq hl
      clear e1
      have c0 := kq.c0
      have c1 := kq.c1
      have c2 := kl.c0
      have c3 := kl.c1
      have kx := hD.kq.mono hbl (by omega)
      have ky := hD.kl.mono hbl (by omega)
      have d0 := kx.c0
      have d1 := kx.c1
      have d2 := kx.f0
      have d3 := kx.f1
      have e0 := ky.c0
      have e1 := ky.c1
      have e2 := ky.f0
      have e3 := ky.f1
      have hbf : Below w.heap.size w wr := hD.bw.trans (hbl.mono (by omega))
      go_wp2
      go_region
      all_goals
        go_wp2
        have ky2 := (ky.other (p := ⟨w.heap.size + 1 + 1, 0, none⟩) (by simp) (.bool qr)).other (p := ⟨w.heap.size + 1 + 1, 1, none⟩) (by simp) (.slice qo ql qc)
        refine bodyPost_ret (v := .tuple #[.agg #[.bool qr, .slice qo ql qc], .agg #[.bool lr, .slice lo ll lc]]) (by simp [results, Try.results119, go_sem, d0, d1, e0, e1]) rfl ⟨_, _, rfl, ?_, ?_, ?_⟩
        · exact ((((hq.setBk kx _).setBk (kx.set0 _) _).setBk ky2 _).setBk (ky2.set0 _) _).drew
        · exact ((((hl.setBk kx _).setBk (kx.set0 _) _).setBk ky2 _).setBk (ky2.set0 _) _).drew
        · exact ((((hbf.setCell (by simp only []; omega) _).setCell (by simp only []; omega) _).setCell (by simp only []; omega) _).setCell (by simp only []; omega) _).drew
    · obtain ⟨m, rfl⟩ := Nat.exists_eq_succ_of_ne_zero h0
      rw [show ((m.succ : Nat) : Int) - 1 = (m : Int) from by omega]
      rw [Nat.succ_eq_add_one] at v4 v5
      have hbit := bit_at a hda m
      have hhalf := div_half (vals a) m
      obtain ⟨y1, y2, y3, y4, y5, y6⟩ := div_le (n := n) HA.out hn (m + 1)
      generalize vals a / p2 (m + 1) = Y at *
      have sl : Hid (small (Y % n)) := small_le (by have := p2_pos 6000; omega) (by omega)
      have sq : Hid (small (Y / n)) := small_le (by have := p2_pos 6000; omega) (by omega)
      have sl2 : Hid (small (Y % n + Y % n)) := small_le (by have := p2_pos 6000; omega) (by omega)
      have sq2 : Hid (small (Y / n + Y / n)) := small_le (by have := p2_pos 6000; omega) (by omega)
      have one : Hid (small 1) := small_word (by omega) (by omega)
      have HB : Hid (vals a / p2 m % 2 = dg a (m / 16) / p2 (m % 16) % 2) := hbit
      have HH : Hid (vals a / p2 m = 2 * Y + vals a / p2 m % 2) := hhalf
      clear hbit hhalf
      have hb4 : w.heap.size + 1 + 1 + 1 + 1 < W.heap.size := hD.v4.lt
      -- the left one, twice
      obtain ⟨lr, lo, ll, lc, kl, hl⟩ := v5
      have c0 := kl.c0
      have c1 := kl.c1
      go_upto_region 7 with (go_at_call 70; refine (size_num _ _ (Y % n) (Y % n) _ hl hl y5 y5 sl.out sl.out).mono ?_; rintro e w2 ⟨z, rfl, hz, hb2⟩; obtain ⟨r2, o2, l2, c2, rfl, hz'⟩ := hz.shape; have kl' := kl.mono hb2 kl.lt; have d0 := kl'.c0; have d1 := kl'.c1; have d2 := kl'.f0; have d3 := kl'.f1)
      have v5 := Vr.put kl' hz'.out
      replace v4 := Vr.keep kl' (v4.mono hb2) (by omega) (.bool r2) (.slice o2 l2 c2)
      replace hbl := keep2 (hbl.trans (hb2.mono (Nat.le_trans (Nat.le_of_lt hb4) hbl.size))) (b := w.heap.size + 1 + 1 + 1 + 1 + 1) (by omega) (.bool r2) (.slice o2 l2 c2)
      clear c0 c1 d0 d1 d2 d3 kl kl' hl hz hz' hb2
      generalize (w2.setCell ⟨w.heap.size + 1 + 1 + 1 + 1 + 1, 0, none⟩ (.bool r2)).setCell ⟨w.heap.size + 1 + 1 + 1 + 1 + 1, 1, none⟩ (.slice o2 l2 c2) = w3 at *
      -- the quotient, twice
      obtain ⟨qr, qo, ql, qc, kq, hq⟩ := v4
      have c0 := kq.c0
      have c1 := kq.c1
      go_upto_region 8 with (go_at_call 70; refine (size_num _ _ (Y / n) (Y / n) _ hq hq y3 y3 sq.out sq.out).mono ?_; rintro e w4 ⟨z, rfl, hz, hb2⟩; obtain ⟨r4, o4, l4, c4, rfl, hz'⟩ := hz.shape; have kq' := kq.mono hb2 kq.lt; have d0 := kq'.c0; have d1 := kq'.c1; have d2 := kq'.f0; have d3 := kq'.f1)
      have v4 := Vr.put kq' hz'.out
      replace v5 := Vr.keep kq' (v5.mono hb2) (by omega) (.bool r4) (.slice o4 l4 c4)
      replace hbl := keep2 (hbl.trans (hb2.mono (Nat.le_trans (Nat.le_of_lt hb4) hbl.size))) (b := w.heap.size + 1 + 1 + 1 + 1) (Nat.le_refl _) (.bool r4) (.slice o4 l4 c4)
      clear c0 c1 d0 d1 d2 d3 kq kq' hq hz hz' hb2
      generalize (w4.setCell ⟨w.heap.size + 1 + 1 + 1 + 1, 0, none⟩ (.bool r4)).setCell ⟨w.heap.size + 1 + 1 + 1 + 1, 1, none⟩ (.slice o4 l4 c4) = w5 at *
      -- the bit
      cases ao with
      | none => have := (ha.nil rfl).1; subst this; simp at hk
      | some a0 =>
        obtain ⟨ba, rfl, hba, hca⟩ := ha.cell a0 rfl
        have hai := hca (m / 16) (by omega)
        have hbw : Below w.heap.size w w5 := hD.bw.trans (hbl.mono (by omega))
        have c1 := (hD.ka.mono hbl (by omega)).c1
        have r1 : ∀ n os, (grow (w5.drewN n) os).cell? ⟨w.heap.size, 1, none⟩ = some (.slice (some ⟨ba, 0, none⟩) a.length ca) := cell_grown (by have := v4.lt; simp only []; omega) c1
        have r5 : ∀ n os, (grow (w5.drewN n) os).cell? ⟨ba, m / 16, none⟩ = some (.int .u64 (dg a (m / 16))) := cell_grown (by simp only []; have := hbw.size; omega) ((hbw.cell (p := ⟨ba, m / 16, none⟩) hba).trans hai)
        obtain ⟨n1, n2⟩ := hda (m / 16)
        have n3 := p2_pos (m % 16)
        clear hca hai c1
        have hbits := bit_cases (D := dg a (m / 16) / p2 (m % 16)) (Int.ediv_nonneg n1 (Int.le_of_lt n3)) HB.out HH.out
        clear HB HH
        rcases hbits with ⟨hbit, hX⟩ | ⟨hbit, hX⟩
        · have dummy : True := trivial
          refine wp_region_quiet_grown (by kernel_rfl) (by kernel_rfl) ?_
          repeat (go_big_quiet_step ((go_at_call 135; refine Calls.grown_of (pow_gr m _))))
          refine wpQuiet_nil ?_
          intro _ hw'
          obtain ⟨⟨nq, osq⟩, hw''⟩ := hw'
          subst hw''
          have g2 : Gr w5 (grow (w5.drewN nq) osq) := ⟨nq, osq, rfl⟩
          replace v4 := v4.mono g2.below
          replace v5 := v5.mono g2.below
          replace hbl := hbl.trans (g2.below.mono (Nat.le_trans (Nat.le_of_lt hb4) hbl.size))
          clear r1 r5 g2 n1 n2 n3 hbw hbit
          generalize grow (w5.drewN nq) osq = w6 at *
          obtain ⟨pr, po, pl, pc, kv, hv⟩ := v5
          have c0 := kv.c0
          have c1 := kv.c1
          have HV : Hid (Nm w6 (.agg #[.bool pr, .slice po pl pc]) (Y % n + Y % n)) := hv
          go_wp2
          go_region_with (first
            | (go_at_call 69; refine (uns_num 1 _ (by omega) (by omega)).mono ?_; rintro e w14 ⟨z, rfl, hz, hb2⟩; replace hb2 := drewB hb2; obtain ⟨r7, o7, l7, c7, rfl, hz'⟩ := hz.shape; clear hz; have k7 := kv.mono hb2 kv.lt; have d0 := k7.c0; have d1 := k7.c1)
            | (go_at_call 70; refine (size_num _ _ (Y % n + Y % n) 1 _ (HV.out.mono hb2) hz'.out (by omega) (by omega) sl2.out one.out).mono ?_; rintro e w15 ⟨z, rfl, hz, hb3⟩; obtain ⟨r8, o8, l8, c8, rfl, hz2⟩ := hz.shape; clear hz; have k8 := k7.mono hb3 k7.lt; have e0 := k8.c0; have e1 := k8.c1; have e2 := k8.f0; have e3 := k8.f1; have hb5 : Below w6.heap.size w6 w15 := hb2.trans (hb3.mono hb2.size)))
          all_goals
            go_upto_region 10 with fail
            have v5 := Vr.put k8 hz2.out
            replace v4 := Vr.keep k8 (v4.mono hb5) (by omega) (.bool r8) (.slice o8 l8 c8)
            replace hbl := keep2 (hbl.trans (hb5.mono (Nat.le_trans (Nat.le_of_lt hb4) hbl.size))) (b := w.heap.size + 1 + 1 + 1 + 1 + 1) (by omega) (.bool r8) (.slice o8 l8 c8)
            clear c0 c1 d0 d1 e0 e1 e2 e3 kv hv HV k7 k8 hz' hz2 hb2 hb3 hb5
            generalize (w15.setCell ⟨w.heap.size + 1 + 1 + 1 + 1 + 1, 0, none⟩ (.bool r8)).setCell ⟨w.heap.size + 1 + 1 + 1 + 1 + 1, 1, none⟩ (.slice o8 l8 c8) = w13 at *
            by_cases hge : n ≤ Y % n + Y % n + 1
            · obtain ⟨D1, D2⟩ := div_ge hn hX (by omega) (by omega) hge
              have hc := cmp_ge hge
              have E1 : Hid (vals a / p2 m / n = Y / n + Y / n + 1) := D1
              have E2 : Hid (vals a / p2 m % n = Y % n + Y % n + 1 - n) := D2
              clear D1 D2 hX
              obtain ⟨lr, lo, ll, lc, kl, hl⟩ := v5
              have c0 := kl.c0
              have c1 := kl.c1
              have kb := hD.kb.mono hbl (by omega)
              have c2' := kb.c0
              have c3' := kb.c1
              have hny : Nm w13 (.agg #[.bool t, .slice bo lb cb]) n := hny0.mono (hD.bw.trans (hbl.mono (by omega)))
              go_upto_region 12 with (first
                | (go_at_call 72; refine (cmps_num _ _ (Y % n + Y % n + 1) n _ hl hny (by omega) (by omega)).mono ?_; rintro e w7 ⟨rfl, hg7⟩; replace hl := hl.mono hg7.below; replace hny := hny.mono hg7.below; replace kl := kl.mono hg7.below kl.lt; replace kb := kb.mono hg7.below kb.lt; replace v4 := v4.mono hg7.below; replace hbl := hbl.trans (hg7.below.mono (Nat.le_trans (Nat.le_of_lt hb4) hbl.size)); clear c0 c1 c2' c3'; have c0 := kl.c0; have c1 := kl.c1; have c2' := kb.c0; have c3' := kb.c1)
                | (go_at_call 118; refine (less_num _ _ (Y % n + Y % n + 1) n _ hl hny (by omega) hge).mono ?_; rintro e w8 ⟨z, rfl, hz, hb2⟩; obtain ⟨r8, o8, l8, c8, rfl, hz'⟩ := hz.shape; have kl' := kl.mono hb2 kl.lt; have d0 := kl'.c0; have d1 := kl'.c1; have d2 := kl'.f0; have d3 := kl'.f1))
              have v5 := Vr.put kl' hz'.out
              replace v4 := Vr.keep kl' (v4.mono hb2) (by omega) (.bool r8) (.slice o8 l8 c8)
              replace hbl := keep2 (hbl.trans (hb2.mono (Nat.le_trans (Nat.le_of_lt hb4) hbl.size))) (b := w.heap.size + 1 + 1 + 1 + 1 + 1) (by omega) (.bool r8) (.slice o8 l8 c8)
              clear c0 c1 c2' c3' d0 d1 d2 d3 kl kl' kb hl hny hz hz' hb2 hg7 hc
              generalize (w8.setCell ⟨w.heap.size + 1 + 1 + 1 + 1 + 1, 0, none⟩ (.bool r8)).setCell ⟨w.heap.size + 1 + 1 + 1 + 1 + 1, 1, none⟩ (.slice o8 l8 c8) = w9 at *
              obtain ⟨pr, po, pl, pc, kv, hv⟩ := v4
              have c0 := kv.c0
              have c1 := kv.c1
              have HV : Hid (Nm w9 (.agg #[.bool pr, .slice po pl pc]) (Y / n + Y / n)) := hv
              go_wp2
              go_region_with (first
                | (go_at_call 69; refine (uns_num 1 _ (by omega) (by omega)).mono ?_; rintro e w10 ⟨z, rfl, hz, hb2⟩; replace hb2 := drewB hb2; obtain ⟨r7, o7, l7, c7, rfl, hz'⟩ := hz.shape; clear hz; have k7 := kv.mono hb2 kv.lt; have d0 := k7.c0; have d1 := k7.c1)
                | (go_at_call 70; refine (size_num _ _ (Y / n + Y / n) 1 _ (HV.out.mono hb2) hz'.out (by omega) (by omega) sq2.out one.out).mono ?_; rintro e w11 ⟨z, rfl, hz, hb3⟩; obtain ⟨r8, o8, l8, c8, rfl, hz2⟩ := hz.shape; clear hz; have k8 := k7.mono hb3 k7.lt; have e0 := k8.c0; have e1 := k8.c1; have e2 := k8.f0; have e3 := k8.f1; have hb5 : Below w9.heap.size w9 w11 := hb2.trans (hb3.mono hb2.size)))
              all_goals
                go_upto_region 5 with fail
                have v4 := Vr.put k8 hz2.out
                replace v5 := Vr.keep k8 (v5.mono hb5) (by omega) (.bool r8) (.slice o8 l8 c8)
                replace hbl := keep2 (hbl.trans (hb5.mono (Nat.le_trans (Nat.le_of_lt hb4) hbl.size))) (b := w.heap.size + 1 + 1 + 1 + 1) (by omega) (.bool r8) (.slice o8 l8 c8)
                clear c0 c1 d0 d1 e0 e1 e2 e3 kv hv HV k7 k8 hz' hz2 hb2 hb3 hb5
                generalize (w11.setCell ⟨w.heap.size + 1 + 1 + 1 + 1, 0, none⟩ (.bool r8)).setCell ⟨w.heap.size + 1 + 1 + 1 + 1, 1, none⟩ (.slice o8 l8 c8) = w12 at *
                go_wp2
                go_roundw
                case rel => exact ⟨m, by omega, rfl, by rw [E1.out]; exact v4, by rw [E2.out]; exact v5, hbl⟩
                case measure => simp [intOf]
            · obtain ⟨D1, D2⟩ := div_lt hn hX (by omega) hge
              have hc := cmp_lt0 hge
              clear hge
              have E1 : Hid (vals a / p2 m / n = Y / n + Y / n) := D1
              have E2 : Hid (vals a / p2 m % n = Y % n + Y % n + 1) := D2
              clear D1 D2 hX
              have v5' : Hid (Vr w13 (w.heap.size + 1 + 1 + 1 + 1 + 1) (Y % n + Y % n + 1)) := v5
              obtain ⟨lr, lo, ll, lc, kl, hl⟩ := v5
              have c0 := kl.c0
              have c1 := kl.c1
              have kb := hD.kb.mono hbl (by omega)
              have c2' := kb.c0
              have c3' := kb.c1
              have hny : Nm w13 (.agg #[.bool t, .slice bo lb cb]) n := hny0.mono (hD.bw.trans (hbl.mono (by omega)))
              go_upto_region 5 with (go_at_call 72; refine (cmps_num _ _ (Y % n + Y % n + 1) n _ hl hny (by omega) (by omega)).mono ?_; rintro e w7 ⟨rfl, hg7⟩)
              have v4' : Hid _ := v4.mono hg7.below
              have v5'' : Hid _ := v5'.out.mono hg7.below
              have hbl' : Hid _ := hbl.trans (hg7.below.mono (Nat.le_trans (Nat.le_of_lt hb4) hbl.size))
              clear c0 c1 c2' c3' kl kb hl hny hg7 hc v4 v5' hbl
              go_wp2
              go_roundw
              case rel => exact ⟨m, by omega, rfl, by rw [E1.out]; exact v4'.out, by rw [E2.out]; exact v5''.out, hbl'.out⟩
              case measure => simp [intOf]
        · have dummy : True := trivial
          refine wp_region_quiet_grown (by kernel_rfl) (by kernel_rfl) ?_
          repeat (go_big_quiet_step ((go_at_call 135; refine Calls.grown_of (pow_gr m _))))
          refine wpQuiet_nil ?_
          intro _ hw'
          obtain ⟨⟨nq, osq⟩, hw''⟩ := hw'
          subst hw''
          have g2 : Gr w5 (grow (w5.drewN nq) osq) := ⟨nq, osq, rfl⟩
          replace v4 := v4.mono g2.below
          replace v5 := v5.mono g2.below
          replace hbl := hbl.trans (g2.below.mono (Nat.le_trans (Nat.le_of_lt hb4) hbl.size))
          clear r1 r5 g2 n1 n2 n3 hbw hbit
          generalize grow (w5.drewN nq) osq = w6 at *
          go_upto_region 10 with fail
          by_cases hge : n ≤ Y % n + Y % n
          · obtain ⟨D1, D2⟩ := div_ge hn hX (by omega) (by omega) (by omega)
            have hc := cmp_ge hge
            have E1 : Hid (vals a / p2 m / n = Y / n + Y / n + 1) := D1
            have E2 : Hid (vals a / p2 m % n = Y % n + Y % n - n) := by unfold Hid; omega
            clear D1 D2 hX
            obtain ⟨lr, lo, ll, lc, kl, hl⟩ := v5
            have c0 := kl.c0
            have c1 := kl.c1
            have kb := hD.kb.mono hbl (by omega)
            have c2' := kb.c0
            have c3' := kb.c1
            have hny : Nm w6 (.agg #[.bool t, .slice bo lb cb]) n := hny0.mono (hD.bw.trans (hbl.mono (by omega)))
            go_upto_region 12 with (first
              | (go_at_call 72; refine (cmps_num _ _ (Y % n + Y % n) n _ hl hny (by omega) (by omega)).mono ?_; rintro e w7 ⟨rfl, hg7⟩; replace hl := hl.mono hg7.below; replace hny := hny.mono hg7.below; replace kl := kl.mono hg7.below kl.lt; replace kb := kb.mono hg7.below kb.lt; replace v4 := v4.mono hg7.below; replace hbl := hbl.trans (hg7.below.mono (Nat.le_trans (Nat.le_of_lt hb4) hbl.size)); clear c0 c1 c2' c3'; have c0 := kl.c0; have c1 := kl.c1; have c2' := kb.c0; have c3' := kb.c1)
              | (go_at_call 118; refine (less_num _ _ (Y % n + Y % n) n _ hl hny (by omega) hge).mono ?_; rintro e w8 ⟨z, rfl, hz, hb2⟩; obtain ⟨r8, o8, l8, c8, rfl, hz'⟩ := hz.shape; have kl' := kl.mono hb2 kl.lt; have d0 := kl'.c0; have d1 := kl'.c1; have d2 := kl'.f0; have d3 := kl'.f1))
            have v5 := Vr.put kl' hz'.out
            replace v4 := Vr.keep kl' (v4.mono hb2) (by omega) (.bool r8) (.slice o8 l8 c8)
            replace hbl := keep2 (hbl.trans (hb2.mono (Nat.le_trans (Nat.le_of_lt hb4) hbl.size))) (b := w.heap.size + 1 + 1 + 1 + 1 + 1) (by omega) (.bool r8) (.slice o8 l8 c8)
            clear c0 c1 c2' c3' d0 d1 d2 d3 kl kl' kb hl hny hz hz' hb2 hg7 hc
            generalize (w8.setCell ⟨w.heap.size + 1 + 1 + 1 + 1 + 1, 0, none⟩ (.bool r8)).setCell ⟨w.heap.size + 1 + 1 + 1 + 1 + 1, 1, none⟩ (.slice o8 l8 c8) = w9 at *
            obtain ⟨pr, po, pl, pc, kv, hv⟩ := v4
            have c0 := kv.c0
            have c1 := kv.c1
            have HV : Hid (Nm w9 (.agg #[.bool pr, .slice po pl pc]) (Y / n + Y / n)) := hv
            go_wp2
            go_region_with (first
              | (go_at_call 69; refine (uns_num 1 _ (by omega) (by omega)).mono ?_; rintro e w10 ⟨z, rfl, hz, hb2⟩; replace hb2 := drewB hb2; obtain ⟨r7, o7, l7, c7, rfl, hz'⟩ := hz.shape; clear hz; have k7 := kv.mono hb2 kv.lt; have d0 := k7.c0; have d1 := k7.c1)
              | (go_at_call 70; refine (size_num _ _ (Y / n + Y / n) 1 _ (HV.out.mono hb2) hz'.out (by omega) (by omega) sq2.out one.out).mono ?_; rintro e w11 ⟨z, rfl, hz, hb3⟩; obtain ⟨r8, o8, l8, c8, rfl, hz2⟩ := hz.shape; clear hz; have k8 := k7.mono hb3 k7.lt; have e0 := k8.c0; have e1 := k8.c1; have e2 := k8.f0; have e3 := k8.f1; have hb5 : Below w9.heap.size w9 w11 := hb2.trans (hb3.mono hb2.size)))
            all_goals
              go_upto_region 5 with fail
              have v4 := Vr.put k8 hz2.out
              replace v5 := Vr.keep k8 (v5.mono hb5) (by omega) (.bool r8) (.slice o8 l8 c8)
              replace hbl := keep2 (hbl.trans (hb5.mono (Nat.le_trans (Nat.le_of_lt hb4) hbl.size))) (b := w.heap.size + 1 + 1 + 1 + 1) (by omega) (.bool r8) (.slice o8 l8 c8)
              clear c0 c1 d0 d1 e0 e1 e2 e3 kv hv HV k7 k8 hz' hz2 hb2 hb3 hb5
              generalize (w11.setCell ⟨w.heap.size + 1 + 1 + 1 + 1, 0, none⟩ (.bool r8)).setCell ⟨w.heap.size + 1 + 1 + 1 + 1, 1, none⟩ (.slice o8 l8 c8) = w12 at *
              go_wp2
              go_roundw
              case rel => exact ⟨m, by omega, rfl, by rw [E1.out]; exact v4, by rw [E2.out]; exact v5, hbl⟩
              case measure => simp [intOf]
          · obtain ⟨D1, D2⟩ := div_lt hn hX (by omega) (by omega)
            have hc := cmp_lt0 hge
            clear hge
            have E1 : Hid (vals a / p2 m / n = Y / n + Y / n) := D1
            have E2 : Hid (vals a / p2 m % n = Y % n + Y % n) := by unfold Hid; omega
            clear D1 D2 hX
            have v5' : Hid (Vr w6 (w.heap.size + 1 + 1 + 1 + 1 + 1) (Y % n + Y % n)) := v5
            obtain ⟨lr, lo, ll, lc, kl, hl⟩ := v5
            have c0 := kl.c0
            have c1 := kl.c1
            have kb := hD.kb.mono hbl (by omega)
            have c2' := kb.c0
            have c3' := kb.c1
            have hny : Nm w6 (.agg #[.bool t, .slice bo lb cb]) n := hny0.mono (hD.bw.trans (hbl.mono (by omega)))
            go_upto_region 5 with (go_at_call 72; refine (cmps_num _ _ (Y % n + Y % n) n _ hl hny (by omega) (by omega)).mono ?_; rintro e w7 ⟨rfl, hg7⟩)
            have v4' : Hid _ := v4.mono hg7.below
            have v5'' : Hid _ := v5'.out.mono hg7.below
            have hbl' : Hid _ := hbl.trans (hg7.below.mono (Nat.le_trans (Nat.le_of_lt hb4) hbl.size))
            clear c0 c1 c2' c3' kl kb hl hny hg7 hc v4 v5' hbl
            go_wp2
            go_roundw
            case rel => exact ⟨m, by omega, rfl, by rw [E1.out]; exact v4'.out, by rw [E2.out]; exact v5''.out, hbl'.out⟩
            case measure => simp [intOf]

theorem vals_lt {l : List Int} (hd : ∀ d ∈ l, isD d) (hn : nrm l) (h : vals l < p2 6000) : l.length ≤ 400 := by
  apply nrm_short (allD_of hd) hn 400
  rw [pw_p2]
  exact Int.lt_of_lt_of_le h (p2_mono (by omega))
theorem div_num (x y : Value) (m n : Int) (w : World) (hx : Nm w x m) (hy : Nm w y n) (hm : 0 ≤ m) (hn : 0 < n) (sm : m < p2 6000) (sn : n < p2 6000) :
    Calls Try.prog 119 #[x, y] w fun e w' => ∃ z1 z2, e = .returned (.tuple #[z1, z2]) ∧ Nm w' z1 (m / n) ∧ Nm w' z2 (m % n) ∧ Below w.heap.size w w' := by
  obtain ⟨ao, ca, a, rfl, ha, hna, hva⟩ := hx
  have e : vals a = m := by omega
  rw [← e] at sm ⊢
  exact div_core _ ao ca a y n w ha (vals_lt ha.dig hna sm) sm hy hn sn
/-- The same of a size: whatever the sign of the first number was. -/
theorem Nm.abs {w : World} {r : Bool} {sl : Value} {n : Int} (h : Nm w (.agg #[.bool r, sl]) n) : Nm w (.agg #[.bool false, sl]) n.natAbs := by
  obtain ⟨ao, cap, l, e, hR, hnn, hv⟩ := h
  simp only [Value.agg.injEq, Array.mk.injEq, List.cons.injEq, and_true] at e
  refine ⟨ao, cap, l, ?_, hR, hnn, by omega⟩
  rw [e.2, decide_eq_false (by omega)]
end
end Go.Proofs.Ytljdnahomhbenaa
