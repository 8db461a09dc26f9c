/- settle: a value finds its place, up or down. -/
import Derived.Test.YtaapdkjmlplhgaaBl
set_option linter.unusedSimpArgs false
set_option linter.unusedVariables false
namespace Go.Proofs.Ytaapdkjmlplhgaa
open Go.RowKit Go.Sort Go.Shelf Go.Maps

/-- The heap with its hole, in memory. -/
structure SM (l0 : List Du) (m0 : Pf) (i0 : Nat) (h pb mb g cp s b4 : Nat) (v : Du) (w : World) (l : List Du) (m : Pf) (i : Nat) (wr : World) : Prop where
  si : SI l0 m0 i0 l m i
  hs : Hs wr h pb mb g cp l s m
  box : Bk wr b4 32 (dL v)
  chg : Chg (hP g mb) w wr
  ne : b4 ≠ g ∧ b4 ≠ mb
theorem SM.gr {l0 : List Du} {m0 : Pf} {i0 h pb mb g cp s b4 : Nat} {v : Du} {w : World} {l : List Du} {m : Pf} {i : Nat} {wr W : World} (S : SM l0 m0 i0 h pb mb g cp s b4 v w l m i wr) (k : Gr wr W) : SM l0 m0 i0 h pb mb g cp s b4 v w l m i W :=
  ⟨S.si, S.hs.gr k, S.box.gr k, S.chg.gr k, S.ne⟩
theorem upI_zero : (((0 : Nat) : Int) + 1) / 2 - 1 = -1 := by decide
theorem upI_pos {k : Nat} (h : 0 < k) : ((k : Int) + 1) / 2 - 1 = ((par k : Nat) : Int) := by unfold par; omega
set_option maxRecDepth 100000 in
set_option maxHeartbeats 2000000 in
theorem settle_any (h pb mb g cp : Nat) (l0 : List Du) (s : Nat) (m0 : Pf) (v : Du) (i0 : Nat) (w : World) (H : Hs w h pb mb g cp l0 s m0) (hv : okD v) (hi : i0 < l0.length) (hl : l0.length ≤ 5000) (hs : s ≤ 5000)
    (hole : HoleL l0 i0) (hok : ∀ x, Oth l0 i0 x → okD x) (htie : ∀ j, j < l0.length → j ≠ i0 → m0 (nth l0 j).2 = some j) (hnv : ∀ x, Oth l0 i0 x → x.2 ≠ v.2) :
    Calls Try.prog 41 #[.pointer (some ⟨h, 0, none⟩), dV v, .int .i64 i0] w fun e w' => e = .returned (.tuple #[]) ∧
      ∃ l m, Settled l0 m0 i0 v l m ∧ Hs w' h pb mb g cp l (if (m0 v.2).isSome then s else s + 1) m ∧ Chg (hP g mb) w w' := by
  have g0 := (Gr.refl w).alloc (.cells (dL v).toArray 32)
  have SM0 : SM l0 m0 i0 h pb mb g cp s w.heap.size v w l0 m0 i0 (w.alloc (.cells (dL v).toArray 32)) :=
    ⟨⟨rfl, hi, hole, fun x => Iff.rfl, htie, fun _ _ => rfl⟩, H.gr g0, Bk.new _ _ _, .of_gr g0, by have := H.row.lt; omega, by have := H.map.lt; omega⟩
  have AB := fun i (h : i ≤ 10000) w => hid0 (above_any i h w)
  obtain ⟨va, vo, vf⟩ := v
  dsimp only
  generalize es : (if (m0 (vo, vf)).isSome then s else s + 1) = s'
  replace es := hid0 es
  dsimp only [dL] at SM0
  clear g0 H
  go_enter Try.func41, Try.ntmps41
  go_upto_region 1 with fail
  generalize w.alloc _ = W0 at *
  obtain ⟨b4, e4⟩ : ∃ b4, b4 = w.heap.size := ⟨_, rfl⟩
  rw [← e4] at SM0 ⊢
  replace SM0 := hid0 SM0
  clear e4
  go_wp2_with fail
  refine (AB i0 (by omega) _).out.mono ?_
  rintro e w1 ⟨rfl, hw⟩
  cases hw
  go_wp2
  go_loopw [2, 6] (fun i u wr => ∃ (l : List Du) (m : Pf) (k : Nat), i = .int .i64 k ∧ u = .int .i64 (((k : Int) + 1) / 2 - 1) ∧ Hid (SM l0 m0 i0 h pb mb g cp s b4 (va, vo, vf) w l m k wr)) (fun i _ _ => (intOf i).toNat)
  case atStart => exact ⟨l0, m0, i0, rfl, rfl, SM0⟩
  case round =>
    clear SM0
    obtain ⟨l, m, k, rfl, rfl, hS⟩ := hrel
    have hkl : k < l0.length := hS.out.si.lt
    have hle := hS.out.si.len
    have HU := @upI_pos k
    have HU0 : k = 0 → ((k : Int) + 1) / 2 - 1 = -1 := fun e => by subst e; exact upI_zero
    generalize ((k : Int) + 1) / 2 - 1 = u at *
    have hsm := hS.out.hs
    have c0 := cell_gr (hsm.heap.at 0)
    have c1 := cell_gr (hsm.heap.at 1)
    have x0 := cell_gr (hS.out.box.at 0)
    have x1 := cell_gr (hS.out.box.at 1)
    have x2 := cell_gr (hS.out.box.at 2)
    by_cases hup : 0 < k ∧ ltD (va, vo, vf) (nth l (par k)) = true
    · clear HU0
      obtain ⟨h0, hlt⟩ := hup
      obtain rfl := HU h0
      have hpk : par k < k := by unfold par; omega
      obtain ⟨p0, p1, p2⟩ := hsm.row.at.cell (show par k < l.length by omega)
      have hox : Hid (okD (nth l (par k))) := hok _ ((hS.out.si.oth _).1 ⟨par k, by omega, by omega, rfl⟩)
      have hpm : Hid (m (nth l (par k)).2 = some (par k)) := hS.out.si.tie _ (by omega) (by omega)
      have S2 := hid0 (hS.out.si.up h0)
      have hpn : ((par k : Nat) : Int) < (l.length : Int) := by omega
      have hkn : k < l.length := by omega
      have OR : Hid (∀ n os, Calls Try.prog 21 #[dV (va, vo, vf), dV (nth l (par k))] (grow (wr.drewN n) os) fun e w' => e = .returned (.int .i64 (cfD (va, vo, vf) (nth l (par k)))) ∧ ∃ p : GrownBy, w' = grow (wr.drewN p.n) p.os) := fun n os => calmG n os (order_any _ _ _)
      have hcf := lt_cf.2 hlt
      dsimp only [nth] at hox hpm S2 OR hcf hlt
      generalize l.getD (par k) (0, 0, 0) = x at *
      generalize par k = p at *
      generalize cfD (va, vo, vf) x = cc at *
      obtain ⟨xa, xo, xf⟩ := x
      dsimp only at p0 p1 p2
      have P0 := hid0 p0
      have P1 := hid0 p1
      have P2 := hid0 p2
      replace p0 := cell_gr p0
      replace p1 := cell_gr p1
      replace p2 := cell_gr p2
      have hcd : decide (cc < 0) = true := decide_eq_true hcf
      clear hlt hsm HU
      go_upto_region 2 with fail
      refine wp_region_quiet_grown (by kernel_rfl) (by kernel_rfl) ?_
      repeat (go_big_quiet_step (exact OR.out _ _))
      refine wpQuiet_nil ?_
      intro _ hw'
      obtain ⟨⟨nq, osq⟩, hw''⟩ := hw'
      subst hw''
      have gg : Gr wr (grow (wr.drewN nq) osq) := ⟨nq, osq, rfl⟩
      replace hS := hid0 (hS.out.gr gg)
      have C0 := c0 nq osq
      replace p0 := p0 nq osq
      replace p1 := p1 nq osq
      replace p2 := p2 nq osq
      clear c0 c1 x0 x1 x2 P0 P1 P2 OR hcd gg
      generalize grow (wr.drewN nq) osq = W1 at *
      have SD := stand_any h pb mb g cp l s m (xa, xo, xf) k W1 hS.out.hs hox.out hkn (by omega) hs
      rw [hpm.out] at SD
      simp only [Option.isSome_some, if_true] at SD
      replace SD := hid0 SD
      go_wp2_with fail
      refine SD.out.mono ?_
      rintro e w2 ⟨rfl, H2, C2⟩
      have S3 : Hid (SM l0 m0 i0 h pb mb g cp s b4 (va, vo, vf) w (l.set k (xa, xo, xf)) (upd m (xa, xo, xf).2 (some k)) p w2) :=
        ⟨S2.out, H2, hS.out.box.chg C2 (by have := hS.out.ne; rintro (e | e); exact this.1 e; exact this.2 e), hS.out.chg.trans C2, hS.out.ne⟩
      clear SD H2 C2 S2 hS C0 p0 p1 p2
      go_wp2_with fail
      refine (AB p (by omega) _).out.mono ?_
      rintro e w3 ⟨rfl, hw⟩
      cases hw
      go_wp2
      go_roundw
      case rel => exact ⟨_, _, p, rfl, rfl, S3⟩
      case measure => simp [intOf]; omega
    by_cases h0 : k = 0
    · skip
      have hu : u = -1 := HU0 h0
      subst hu
      have hend : Hid (k = 0 ∨ ltD (va, vo, vf) (nth l (par k)) = false) := .inl h0
      clear hsm HU HU0 hup h0
      go_upto_region 2 with fail
      refine wp_region_quiet_grown (by kernel_rfl) (by kernel_rfl) ?_
      repeat (go_big_quiet_step (fail))
      refine wpQuiet_nil ?_
      intro _ hw'
      obtain ⟨⟨nq, osq⟩, hw''⟩ := hw'
      subst hw''
      have gg : Gr wr (grow (wr.drewN nq) osq) := ⟨nq, osq, rfl⟩
      replace hS := hid0 (hS.out.gr gg)
      clear c0 c1 x0 x1 x2 gg
      generalize grow (wr.drewN nq) osq = W1 at *
      have BL := hid0 (below_any h pb mb g cp l s m k W1 hS.out.hs (by omega) (by omega))
      go_wp2_with fail
      refine BL.out.mono ?_
      rintro e w3 ⟨rfl, g3⟩
      replace hS := hid0 (hS.out.gr g3)
      clear BL g3
      go_wp2
      go_loopw [2, 7, 8] (fun i d b wr => ∃ (l : List Du) (m : Pf) (k : Nat), i = .int .i64 k ∧ d = .int .i64 (dn l k : Nat) ∧ b = .bool (decide (dn l k < l.length)) ∧ Hid (SM l0 m0 i0 h pb mb g cp s b4 (va, vo, vf) w l m k wr) ∧ Hid (k = 0 ∨ ltD (va, vo, vf) (nth l (par k)) = false)) (fun i _ _ _ => l0.length - (intOf i).toNat)
      case atStart => exact ⟨l, m, k, rfl, rfl, by rw [hle], hS, hend⟩
      case round =>
        clear hS hend hle hkl
        obtain ⟨l, m, k, rfl, rfl, rfl, hS, hend⟩ := hrel
        have hkl : k < l0.length := hS.out.si.lt
        have hle := hS.out.si.len
        have hsm := hS.out.hs
        have c0 := cell_gr (hsm.heap.at 0)
        have c1 := cell_gr (hsm.heap.at 1)
        have x0 := cell_gr (hS.out.box.at 0)
        have x1 := cell_gr (hS.out.box.at 1)
        have x2 := cell_gr (hS.out.box.at 2)
        by_cases hdn : dn l k < l.length ∧ ltD (nth l (dn l k)) (va, vo, vf) = true
        · skip
          obtain ⟨hdl, hlt⟩ := hdn
          obtain ⟨q1, q2, q3⟩ := dn_par l k
          obtain ⟨p0, p1, p2⟩ := hsm.row.at.cell hdl
          have hox : Hid (okD (nth l (dn l k))) := hok _ ((hS.out.si.oth _).1 ⟨dn l k, hdl, by omega, rfl⟩)
          have hpm : Hid (m (nth l (dn l k)).2 = some (dn l k)) := hS.out.si.tie _ (by omega) (by omega)
          have S2 := hid0 (hS.out.si.down hdl)
          have hpn : ((dn l k : Nat) : Int) < (l.length : Int) := by omega
          have hkn : k < l.length := by omega
          have OR : Hid (∀ n os, Calls Try.prog 21 #[dV (nth l (dn l k)), dV (va, vo, vf)] (grow (wr.drewN n) os) fun e w' => e = .returned (.int .i64 (cfD (nth l (dn l k)) (va, vo, vf))) ∧ ∃ p : GrownBy, w' = grow (wr.drewN p.n) p.os) := fun n os => calmG n os (order_any _ _ _)
          have hcf := lt_cf.2 hlt
          have hend2 : Hid (dn l k = 0 ∨ ltD (va, vo, vf) (nth (l.set k (nth l (dn l k))) (par (dn l k))) = false) := .inr (by
            rw [q1, nth_set _ _ _ _ hkn, if_pos rfl]
            exact lt_nlt hlt)
          have hdc : decide (dn l k < l.length) = true := decide_eq_true hdl
          rw [hdc]
          clear hdc q1
          dsimp only [nth] at hox hpm S2 OR hcf hend2
          generalize l.getD (dn l k) (0, 0, 0) = x at p0 p1 p2 hox hpm S2 OR hcf hend2
          generalize dn l k = p at *
          generalize cfD x (va, vo, vf) = cc at *
          obtain ⟨xa, xo, xf⟩ := x
          dsimp only at p0 p1 p2
          replace p0 := cell_gr p0
          replace p1 := cell_gr p1
          replace p2 := cell_gr p2
          have hcd : decide (cc < 0) = true := decide_eq_true hcf
          clear hlt hsm hend
          go_upto_region 7 with fail
          refine wp_region_quiet_grown (by kernel_rfl) (by kernel_rfl) ?_
          repeat (go_big_quiet_step (exact OR.out _ _))
          refine wpQuiet_nil ?_
          intro _ hw'
          obtain ⟨⟨nq, osq⟩, hw''⟩ := hw'
          subst hw''
          have gg : Gr wr (grow (wr.drewN nq) osq) := ⟨nq, osq, rfl⟩
          replace hS := hid0 (hS.out.gr gg)
          have C0 := c0 nq osq
          replace p0 := p0 nq osq
          replace p1 := p1 nq osq
          replace p2 := p2 nq osq
          clear c0 c1 x0 x1 x2 OR hcd gg
          generalize grow (wr.drewN nq) osq = W3 at *
          have SD := stand_any h pb mb g cp l s m (xa, xo, xf) k W3 hS.out.hs hox.out hkn (by omega) hs
          rw [hpm.out] at SD
          simp only [Option.isSome_some, if_true] at SD
          replace SD := hid0 SD
          go_wp2_with fail
          refine SD.out.mono ?_
          rintro e w2 ⟨rfl, H2, C2⟩
          have S3 : Hid (SM l0 m0 i0 h pb mb g cp s b4 (va, vo, vf) w (l.set k (xa, xo, xf)) (upd m (xa, xo, xf).2 (some k)) p w2) :=
            ⟨S2.out, H2, hS.out.box.chg C2 (by have := hS.out.ne; rintro (e | e); exact this.1 e; exact this.2 e), hS.out.chg.trans C2, hS.out.ne⟩
          have BL := hid0 (below_any h pb mb g cp (l.set k (xa, xo, xf)) s _ p w2 H2 (by omega) (by rw [List.length_set]; omega))
          clear SD H2 C2 S2 hS C0 p0 p1 p2
          go_wp2_with fail
          refine BL.out.mono ?_
          rintro e w3 ⟨rfl, g3⟩
          replace S3 := hid0 (S3.out.gr g3)
          clear BL g3
          go_wp2
          go_roundw
          case rel => exact ⟨_, _, p, rfl, rfl, by rw [List.length_set, hle], S3, hend2⟩
          case measure => simp [intOf]; omega
        · by_cases hdl : dn l k < l.length
          · skip
            have hlt : ltD (nth l (dn l k)) (va, vo, vf) = false := by
              cases hq : ltD (nth l (dn l k)) (va, vo, vf) with
              | false => rfl
              | true => exact absurd ⟨hdl, hq⟩ hdn
            have hdc : decide (dn l k < l.length) = true := decide_eq_true hdl
            rw [hdc]
            clear hdc
            replace hdn := hid0 hdn
            obtain ⟨p0, p1, p2⟩ := hsm.row.at.cell hdl
            have hpn : ((dn l k : Nat) : Int) < (l.length : Int) := by omega
            have OR : Hid (∀ n os, Calls Try.prog 21 #[dV (nth l (dn l k)), dV (va, vo, vf)] (grow (wr.drewN n) os) fun e w' => e = .returned (.int .i64 (cfD (nth l (dn l k)) (va, vo, vf))) ∧ ∃ p : GrownBy, w' = grow (wr.drewN p.n) p.os) := fun n os => calmG n os (order_any _ _ _)
            have hcf : ¬ cfD (nth l (dn l k)) (va, vo, vf) < 0 := fun e => by rw [lt_cf.1 e] at hlt; cases hlt
            dsimp only [nth] at OR hcf
            generalize l.getD (dn l k) (0, 0, 0) = x at p0 p1 p2 OR hcf
            generalize hpp : dn l k = p at p0 p1 p2 hpn hdl ⊢
            generalize cfD x (va, vo, vf) = cc at *
            obtain ⟨xa, xo, xf⟩ := x
            dsimp only at p0 p1 p2
            replace p0 := cell_gr p0
            replace p1 := cell_gr p1
            replace p2 := cell_gr p2
            have hcd : decide (cc < 0) = false := decide_eq_false hcf
            clear hlt hsm hpp
            go_upto_region 7 with fail
            refine wp_region_quiet_grown (by kernel_rfl) (by kernel_rfl) ?_
            repeat (go_big_quiet_step (exact OR.out _ _))
            refine wpQuiet_nil ?_
            intro _ hw'
            obtain ⟨⟨nq, osq⟩, hw''⟩ := hw'
            subst hw''
            have gg : Gr wr (grow (wr.drewN nq) osq) := ⟨nq, osq, rfl⟩
            replace hS := hid0 (hS.out.gr gg)
            clear c0 c1 x0 x1 x2 p0 p1 p2 OR hcd gg hcf
            generalize grow (wr.drewN nq) osq = W3 at *
            have hkn : k < l.length := by omega
            have SD := stand_any h pb mb g cp l s m (va, vo, vf) k W3 hS.out.hs hv hkn (by omega) hs
            rw [hS.out.si.keep (vo, vf) hnv] at SD
            have HSd := hid0 (hS.out.si.done (v := (va, vo, vf)) hnv hend.out hdn.out)
            have cb := hS.out.box
            have q0 := cb.at 0
            have q1 := cb.at 1
            have q2 := cb.at 2
            simp only [List.getElem?_cons_zero, List.getElem?_cons_succ] at q0 q1 q2
            have HC := hid0 hS.out.chg
            rw [es.out] at SD
            replace SD := hid0 SD
            clear hS cb hend hdn
            go_wp2_with fail
            refine SD.out.mono ?_
            rintro e w2 ⟨rfl, H2, C2⟩
            replace H2 := hid0 H2
            have HC2 := hid0 (HC.out.trans C2)
            clear SD C2 HC q0 q1 q2
            go_wp2
            go_end0
            exact ⟨rfl, _, _, HSd.out, H2.out, HC2.out⟩
          · skip
            have hdc : decide (dn l k < l.length) = false := decide_eq_false hdl
            rw [hdc]
            clear hdc hsm
            replace hdn := hid0 hdn
            go_upto_region 7 with fail
            refine wp_region_quiet_grown (by kernel_rfl) (by kernel_rfl) ?_
            repeat (go_big_quiet_step (fail))
            refine wpQuiet_nil ?_
            intro _ hw'
            obtain ⟨⟨nq, osq⟩, hw''⟩ := hw'
            subst hw''
            have gg : Gr wr (grow (wr.drewN nq) osq) := ⟨nq, osq, rfl⟩
            replace hS := hid0 (hS.out.gr gg)
            clear c0 c1 x0 x1 x2 gg
            generalize grow (wr.drewN nq) osq = W3 at *
            have hkn : k < l.length := by omega
            have SD := stand_any h pb mb g cp l s m (va, vo, vf) k W3 hS.out.hs hv hkn (by omega) hs
            rw [hS.out.si.keep (vo, vf) hnv] at SD
            have HSd := hid0 (hS.out.si.done (v := (va, vo, vf)) hnv hend.out hdn.out)
            have cb := hS.out.box
            have q0 := cb.at 0
            have q1 := cb.at 1
            have q2 := cb.at 2
            simp only [List.getElem?_cons_zero, List.getElem?_cons_succ] at q0 q1 q2
            have HC := hid0 hS.out.chg
            rw [es.out] at SD
            replace SD := hid0 SD
            clear hS cb hend hdn
            go_wp2_with fail
            refine SD.out.mono ?_
            rintro e w2 ⟨rfl, H2, C2⟩
            replace H2 := hid0 H2
            have HC2 := hid0 (HC.out.trans C2)
            clear SD C2 HC q0 q1 q2
            go_wp2
            go_end0
            exact ⟨rfl, _, _, HSd.out, H2.out, HC2.out⟩
    · skip
      have h0 : 0 < k := by omega
      obtain rfl := HU h0
      have hlt : ltD (va, vo, vf) (nth l (par k)) = false := by
        cases hq : ltD (va, vo, vf) (nth l (par k)) with
        | false => rfl
        | true => exact absurd ⟨h0, hq⟩ hup
      have hpk : par k < k := by unfold par; omega
      obtain ⟨p0, p1, p2⟩ := hsm.row.at.cell (show par k < l.length by omega)
      have hend : Hid (k = 0 ∨ ltD (va, vo, vf) (nth l (par k)) = false) := .inr hlt
      have hpn : ((par k : Nat) : Int) < (l.length : Int) := by omega
      have OR : Hid (∀ n os, Calls Try.prog 21 #[dV (va, vo, vf), dV (nth l (par k))] (grow (wr.drewN n) os) fun e w' => e = .returned (.int .i64 (cfD (va, vo, vf) (nth l (par k)))) ∧ ∃ p : GrownBy, w' = grow (wr.drewN p.n) p.os) := fun n os => calmG n os (order_any _ _ _)
      have hcf : ¬ cfD (va, vo, vf) (nth l (par k)) < 0 := fun e => by rw [lt_cf.1 e] at hlt; cases hlt
      dsimp only [nth] at OR hcf
      generalize l.getD (par k) (0, 0, 0) = x at p0 p1 p2 OR hcf
      generalize hpp : par k = p at *
      generalize cfD (va, vo, vf) x = cc at *
      obtain ⟨xa, xo, xf⟩ := x
      dsimp only at p0 p1 p2
      replace p0 := cell_gr p0
      replace p1 := cell_gr p1
      replace p2 := cell_gr p2
      have hcd : decide (cc < 0) = false := decide_eq_false hcf
      clear hlt hsm HU HU0 hup
      go_upto_region 2 with fail
      refine wp_region_quiet_grown (by kernel_rfl) (by kernel_rfl) ?_
      repeat (go_big_quiet_step (exact OR.out _ _))
      refine wpQuiet_nil ?_
      intro _ hw'
      obtain ⟨⟨nq, osq⟩, hw''⟩ := hw'
      subst hw''
      have gg : Gr wr (grow (wr.drewN nq) osq) := ⟨nq, osq, rfl⟩
      replace hS := hid0 (hS.out.gr gg)
      clear c0 c1 x0 x1 x2 p0 p1 p2 OR hcd gg hcf
      subst hpp
      generalize grow (wr.drewN nq) osq = W1 at *
      have BL := hid0 (below_any h pb mb g cp l s m k W1 hS.out.hs (by omega) (by omega))
      go_wp2_with fail
      refine BL.out.mono ?_
      rintro e w3 ⟨rfl, g3⟩
      replace hS := hid0 (hS.out.gr g3)
      clear BL g3
      go_wp2
      go_loopw [2, 7, 8] (fun i d b wr => ∃ (l : List Du) (m : Pf) (k : Nat), i = .int .i64 k ∧ d = .int .i64 (dn l k : Nat) ∧ b = .bool (decide (dn l k < l.length)) ∧ Hid (SM l0 m0 i0 h pb mb g cp s b4 (va, vo, vf) w l m k wr) ∧ Hid (k = 0 ∨ ltD (va, vo, vf) (nth l (par k)) = false)) (fun i _ _ _ => l0.length - (intOf i).toNat)
      case atStart => exact ⟨l, m, k, rfl, rfl, by rw [hle], hS, hend⟩
      case round =>
        clear hS hend hle hkl
        obtain ⟨l, m, k, rfl, rfl, rfl, hS, hend⟩ := hrel
        have hkl : k < l0.length := hS.out.si.lt
        have hle := hS.out.si.len
        have hsm := hS.out.hs
        have c0 := cell_gr (hsm.heap.at 0)
        have c1 := cell_gr (hsm.heap.at 1)
        have x0 := cell_gr (hS.out.box.at 0)
        have x1 := cell_gr (hS.out.box.at 1)
        have x2 := cell_gr (hS.out.box.at 2)
        by_cases hdn : dn l k < l.length ∧ ltD (nth l (dn l k)) (va, vo, vf) = true
        · skip
          obtain ⟨hdl, hlt⟩ := hdn
          obtain ⟨q1, q2, q3⟩ := dn_par l k
          obtain ⟨p0, p1, p2⟩ := hsm.row.at.cell hdl
          have hox : Hid (okD (nth l (dn l k))) := hok _ ((hS.out.si.oth _).1 ⟨dn l k, hdl, by omega, rfl⟩)
          have hpm : Hid (m (nth l (dn l k)).2 = some (dn l k)) := hS.out.si.tie _ (by omega) (by omega)
          have S2 := hid0 (hS.out.si.down hdl)
          have hpn : ((dn l k : Nat) : Int) < (l.length : Int) := by omega
          have hkn : k < l.length := by omega
          have OR : Hid (∀ n os, Calls Try.prog 21 #[dV (nth l (dn l k)), dV (va, vo, vf)] (grow (wr.drewN n) os) fun e w' => e = .returned (.int .i64 (cfD (nth l (dn l k)) (va, vo, vf))) ∧ ∃ p : GrownBy, w' = grow (wr.drewN p.n) p.os) := fun n os => calmG n os (order_any _ _ _)
          have hcf := lt_cf.2 hlt
          have hend2 : Hid (dn l k = 0 ∨ ltD (va, vo, vf) (nth (l.set k (nth l (dn l k))) (par (dn l k))) = false) := .inr (by
            rw [q1, nth_set _ _ _ _ hkn, if_pos rfl]
            exact lt_nlt hlt)
          have hdc : decide (dn l k < l.length) = true := decide_eq_true hdl
          rw [hdc]
          clear hdc q1
          dsimp only [nth] at hox hpm S2 OR hcf hend2
          generalize l.getD (dn l k) (0, 0, 0) = x at p0 p1 p2 hox hpm S2 OR hcf hend2
          generalize dn l k = p at *
          generalize cfD x (va, vo, vf) = cc at *
          obtain ⟨xa, xo, xf⟩ := x
          dsimp only at p0 p1 p2
          replace p0 := cell_gr p0
          replace p1 := cell_gr p1
          replace p2 := cell_gr p2
          have hcd : decide (cc < 0) = true := decide_eq_true hcf
          clear hlt hsm hend
          go_upto_region 7 with fail
          refine wp_region_quiet_grown (by kernel_rfl) (by kernel_rfl) ?_
          repeat (go_big_quiet_step (exact OR.out _ _))
          refine wpQuiet_nil ?_
          intro _ hw'
          obtain ⟨⟨nq, osq⟩, hw''⟩ := hw'
          subst hw''
          have gg : Gr wr (grow (wr.drewN nq) osq) := ⟨nq, osq, rfl⟩
          replace hS := hid0 (hS.out.gr gg)
          have C0 := c0 nq osq
          replace p0 := p0 nq osq
          replace p1 := p1 nq osq
          replace p2 := p2 nq osq
          clear c0 c1 x0 x1 x2 OR hcd gg
          generalize grow (wr.drewN nq) osq = W3 at *
          have SD := stand_any h pb mb g cp l s m (xa, xo, xf) k W3 hS.out.hs hox.out hkn (by omega) hs
          rw [hpm.out] at SD
          simp only [Option.isSome_some, if_true] at SD
          replace SD := hid0 SD
          go_wp2_with fail
          refine SD.out.mono ?_
          rintro e w2 ⟨rfl, H2, C2⟩
          have S3 : Hid (SM l0 m0 i0 h pb mb g cp s b4 (va, vo, vf) w (l.set k (xa, xo, xf)) (upd m (xa, xo, xf).2 (some k)) p w2) :=
            ⟨S2.out, H2, hS.out.box.chg C2 (by have := hS.out.ne; rintro (e | e); exact this.1 e; exact this.2 e), hS.out.chg.trans C2, hS.out.ne⟩
          have BL := hid0 (below_any h pb mb g cp (l.set k (xa, xo, xf)) s _ p w2 H2 (by omega) (by rw [List.length_set]; omega))
          clear SD H2 C2 S2 hS C0 p0 p1 p2
          go_wp2_with fail
          refine BL.out.mono ?_
          rintro e w3 ⟨rfl, g3⟩
          replace S3 := hid0 (S3.out.gr g3)
          clear BL g3
          go_wp2
          go_roundw
          case rel => exact ⟨_, _, p, rfl, rfl, by rw [List.length_set, hle], S3, hend2⟩
          case measure => simp [intOf]; omega
        · by_cases hdl : dn l k < l.length
          · skip
            have hlt : ltD (nth l (dn l k)) (va, vo, vf) = false := by
              cases hq : ltD (nth l (dn l k)) (va, vo, vf) with
              | false => rfl
              | true => exact absurd ⟨hdl, hq⟩ hdn
            have hdc : decide (dn l k < l.length) = true := decide_eq_true hdl
            rw [hdc]
            clear hdc
            replace hdn := hid0 hdn
            obtain ⟨p0, p1, p2⟩ := hsm.row.at.cell hdl
            have hpn : ((dn l k : Nat) : Int) < (l.length : Int) := by omega
            have OR : Hid (∀ n os, Calls Try.prog 21 #[dV (nth l (dn l k)), dV (va, vo, vf)] (grow (wr.drewN n) os) fun e w' => e = .returned (.int .i64 (cfD (nth l (dn l k)) (va, vo, vf))) ∧ ∃ p : GrownBy, w' = grow (wr.drewN p.n) p.os) := fun n os => calmG n os (order_any _ _ _)
            have hcf : ¬ cfD (nth l (dn l k)) (va, vo, vf) < 0 := fun e => by rw [lt_cf.1 e] at hlt; cases hlt
            dsimp only [nth] at OR hcf
            generalize l.getD (dn l k) (0, 0, 0) = x at p0 p1 p2 OR hcf
            generalize hpp : dn l k = p at p0 p1 p2 hpn hdl ⊢
            generalize cfD x (va, vo, vf) = cc at *
            obtain ⟨xa, xo, xf⟩ := x
            dsimp only at p0 p1 p2
            replace p0 := cell_gr p0
            replace p1 := cell_gr p1
            replace p2 := cell_gr p2
            have hcd : decide (cc < 0) = false := decide_eq_false hcf
            clear hlt hsm hpp
            go_upto_region 7 with fail
            refine wp_region_quiet_grown (by kernel_rfl) (by kernel_rfl) ?_
            repeat (go_big_quiet_step (exact OR.out _ _))
            refine wpQuiet_nil ?_
            intro _ hw'
            obtain ⟨⟨nq, osq⟩, hw''⟩ := hw'
            subst hw''
            have gg : Gr wr (grow (wr.drewN nq) osq) := ⟨nq, osq, rfl⟩
            replace hS := hid0 (hS.out.gr gg)
            clear c0 c1 x0 x1 x2 p0 p1 p2 OR hcd gg hcf
            generalize grow (wr.drewN nq) osq = W3 at *
            have hkn : k < l.length := by omega
            have SD := stand_any h pb mb g cp l s m (va, vo, vf) k W3 hS.out.hs hv hkn (by omega) hs
            rw [hS.out.si.keep (vo, vf) hnv] at SD
            have HSd := hid0 (hS.out.si.done (v := (va, vo, vf)) hnv hend.out hdn.out)
            have cb := hS.out.box
            have q0 := cb.at 0
            have q1 := cb.at 1
            have q2 := cb.at 2
            simp only [List.getElem?_cons_zero, List.getElem?_cons_succ] at q0 q1 q2
            have HC := hid0 hS.out.chg
            rw [es.out] at SD
            replace SD := hid0 SD
            clear hS cb hend hdn
            go_wp2_with fail
            refine SD.out.mono ?_
            rintro e w2 ⟨rfl, H2, C2⟩
            replace H2 := hid0 H2
            have HC2 := hid0 (HC.out.trans C2)
            clear SD C2 HC q0 q1 q2
            go_wp2
            go_end0
            exact ⟨rfl, _, _, HSd.out, H2.out, HC2.out⟩
          · skip
            have hdc : decide (dn l k < l.length) = false := decide_eq_false hdl
            rw [hdc]
            clear hdc hsm
            replace hdn := hid0 hdn
            go_upto_region 7 with fail
            refine wp_region_quiet_grown (by kernel_rfl) (by kernel_rfl) ?_
            repeat (go_big_quiet_step (fail))
            refine wpQuiet_nil ?_
            intro _ hw'
            obtain ⟨⟨nq, osq⟩, hw''⟩ := hw'
            subst hw''
            have gg : Gr wr (grow (wr.drewN nq) osq) := ⟨nq, osq, rfl⟩
            replace hS := hid0 (hS.out.gr gg)
            clear c0 c1 x0 x1 x2 gg
            generalize grow (wr.drewN nq) osq = W3 at *
            have hkn : k < l.length := by omega
            have SD := stand_any h pb mb g cp l s m (va, vo, vf) k W3 hS.out.hs hv hkn (by omega) hs
            rw [hS.out.si.keep (vo, vf) hnv] at SD
            have HSd := hid0 (hS.out.si.done (v := (va, vo, vf)) hnv hend.out hdn.out)
            have cb := hS.out.box
            have q0 := cb.at 0
            have q1 := cb.at 1
            have q2 := cb.at 2
            simp only [List.getElem?_cons_zero, List.getElem?_cons_succ] at q0 q1 q2
            have HC := hid0 hS.out.chg
            rw [es.out] at SD
            replace SD := hid0 SD
            clear hS cb hend hdn
            go_wp2_with fail
            refine SD.out.mono ?_
            rintro e w2 ⟨rfl, H2, C2⟩
            replace H2 := hid0 H2
            have HC2 := hid0 (HC.out.trans C2)
            clear SD C2 HC q0 q1 q2
            go_wp2
            go_end0
            exact ⟨rfl, _, _, HSd.out, H2.out, HC2.out⟩
end Go.Proofs.Ytaapdkjmlplhgaa
