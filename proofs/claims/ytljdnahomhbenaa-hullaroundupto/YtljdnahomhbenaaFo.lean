/- The reference's follows: has one point all others at its left? -/
import Derived.Test.YtljdnahomhbenaaSa
import Derived.Test.YtljdnahomhbenaaRef7
import Derived.Lib.QuietBelow
namespace Go.Proofs.Ytljdnahomhbenaa
section
set_option linter.unusedSimpArgs false
open Go.RowKit Go.Sort Go.Lib Go.Shelf

abbrev OkP (a b p : Int × Int) : Prop := ¬ crT a b p < 0 ∧ (crT a b p = 0 → p = a ∨ onB p.1 p.2 a.1 a.2 b.1 b.2 = true)
def folB (l : List (Int × Int)) (a b : Int × Int) : Bool := decide (a ≠ b ∧ ∀ j, j < l.length → OkP a b (l.getD j (0, 0)))
theorem two_new (w : World) (x0 x1 y0 y1 : Value) : ∃ W, W = (w.alloc (.cells #[x0, x1] 28)).alloc (.cells #[y0, y1] 28) ∧ W.cell? ⟨w.heap.size, 0, none⟩ = some x0 ∧ W.cell? ⟨w.heap.size, 1, none⟩ = some x1 ∧ W.cell? ⟨w.heap.size + 1, 0, none⟩ = some y0 ∧ W.cell? ⟨w.heap.size + 1, 1, none⟩ = some y1 ∧ Below w.heap.size w W := by
  have h1 := heap_alloc_new w (.cells #[x0, x1] 28)
  have h2 := heap_alloc_new (w.alloc (.cells #[x0, x1] 28)) (.cells #[y0, y1] 28)
  have g2 := ((Gr.refl (w.alloc (.cells #[x0, x1] 28))).alloc (.cells #[y0, y1] 28)).below
  have g1 := ((Gr.refl w).alloc (.cells #[x0, x1] 28)).below
  have e : (w.alloc (.cells #[x0, x1] 28)).heap.size = w.heap.size + 1 := by simp
  have h1' := (g2.block w.heap.size (by rw [e]; omega)).trans h1
  rw [e] at h2
  refine ⟨_, rfl, ?_, ?_, ?_, ?_, g1.trans (g2.mono g1.size)⟩
  all_goals generalize (w.alloc (.cells #[x0, x1] 28)).alloc (.cells #[y0, y1] 28) = W at *
  · simp [World.cell?, h1']
  · simp [World.cell?, h1']
  · simp [World.cell?, h2]
  · simp [World.cell?, h2]

set_option maxRecDepth 20000 in
set_option maxHeartbeats 8000000 in
theorem follows_any (vo : Option Addr) (cv : Nat) (l : List (Int × Int)) (a b : Int × Int) (w : World) (hl : l.length ≤ 17592186043904) (h32 : ∀ p ∈ l, in2 p) (ha : in2 a) (hb : in2 b) (hP : Pts w vo l) :
    Calls Try.prog 28 #[.slice vo l.length cv, pt a.1 a.2, pt b.1 b.2] w fun e w' => e = .returned (.bool (folB l a b)) ∧ Below w.heap.size w w' := by
  have HP := hid0 hP
  have H32 := hid0 h32
  have HA := hid0 ha
  have HB := hid0 hb
  have HF : Hid (∀ r, (r = true ↔ (a ≠ b ∧ ∀ j, j < l.length → OkP a b (l.getD j (0, 0)))) → folB l a b = r) := fun r h => by
    unfold folB
    rw [Bool.eq_iff_iff, decide_eq_true_eq]
    exact h.symm
  obtain ⟨F, hFe⟩ : ∃ F, folB l a b = F := ⟨_, rfl⟩
  rw [hFe] at HF ⊢
  clear hFe hP h32 ha hb
  obtain ⟨W, hW, x0, x1, y0, y1, gW⟩ := two_new w (.int .i32 a.1) (.int .i32 a.2) (.int .i32 b.1) (.int .i32 b.2)
  have e3 := hid0 hW
  have HPW := hid0 (HP.out.mono gW)
  clear HP
  go_enter Try.func28, Try.ntmps28
  have C := pair_cases a b
  rcases C with ⟨e, -, -⟩ | C
  · have hF := HF.out false (by simp [e])
    subst e
    subst hF
    go_wp2
    go_ret
    refine ⟨rfl, ?_⟩
    rw [← hW]
    exact gW
  · have hne : Hid (a ≠ b) := by rcases C with ⟨e, _⟩ | ⟨e, _⟩ <;> exact e
    rcases C with ⟨-, c1, c2⟩ | ⟨-, c1⟩
    all_goals
      go_upto_region 3 with fail
      rw [← hW]
      clear hW e3
      obtain ⟨B1, hB1⟩ : ∃ B1, B1 = w.heap.size := ⟨_, rfl⟩
      rw [← hB1] at x0 x1 y0 y1 ⊢
      clear hB1
      go_wp2
      go_loopw [7] (fun i wr => ∃ k : Nat, k ≤ l.length ∧ i = .int .i64 k ∧ Hid (∀ j, j < k → OkP a b (l.getD j (0, 0))) ∧ Below W.heap.size W wr) (fun i _ => l.length - (intOf i).toNat)
      case atStart => exact ⟨0, by omega, rfl, (by intro j hj; omega), Below.refl _ _⟩
      case round =>
        obtain ⟨k, hk, rfl, hE, hb⟩ := hrel
        by_cases hlt : k < l.length
        · obtain ⟨bb, off, rfl, p0, p1⟩ := HPW.out k hlt
          replace p0 := below_cell p0 hb
          replace p1 := below_cell p1 hb
          have z0 := below_cell x0 hb
          have z1 := below_cell x1 hb
          have z2 := below_cell y0 hb
          have z3 := below_cell y1 hb
          have hp : Hid (in2 (l.getD k (0, 0))) := by
            have e : l.getD k (0, 0) = l[k] := by simp [List.getD, hlt]
            unfold Hid
            rw [e]; exact H32.out _ (List.getElem_mem hlt)
          have HF' : Hid (¬ OkP a b (l.getD k (0, 0)) → F = false) := fun h => HF.out false (by
            simp only [Bool.false_eq_true, false_iff]
            exact fun x => h (x.2 k hlt))
          have HE' : Hid (OkP a b (l.getD k (0, 0)) → ∀ j, j < k + 1 → OkP a b (l.getD j (0, 0))) := fun e j hj => by
            by_cases c : j = k
            · subst c; exact e
            · exact hE.out j (by omega)
          obtain ⟨p, hpe⟩ : ∃ p, p = l.getD k (0, 0) := ⟨_, rfl⟩
          rw [← hpe] at p0 p1 hp HF' HE'
          clear hpe hE
          have T : Hid (∀ d os, Calls Try.prog 25 #[pt a.1 a.2, pt b.1 b.2, pt p.1 p.2] (grow (redrawn wr d) os) fun e w' => e = .returned (.int .i64 (crT a b p)) ∧ ∃ p : Regrown, w' = grow (redrawn wr p.d) p.os) := fun d os => Calls.regrown_of (rturn_any _ _ _ _ _ _ HA.out.1 HA.out.2 HB.out.1 HB.out.2 hp.out.1 hp.out.2 _)
          have HK : Hid (OkP a b p ↔ ¬ crT a b p < 0 ∧ (crT a b p = 0 → p = a ∨ onB p.1 p.2 a.1 a.2 b.1 b.2 = true)) := Iff.rfl
          have ON := hid0 (fun W => ron_any p.1 p.2 a.1 a.2 b.1 b.2 hp.out.1 hp.out.2 HA.out.1 HA.out.2 HB.out.1 HB.out.2 W)
          obtain ⟨t, hte⟩ : ∃ t, t = crT a b p := ⟨_, rfl⟩
          obtain ⟨on, hon⟩ : ∃ on, on = onB p.1 p.2 a.1 a.2 b.1 b.2 := ⟨_, rfl⟩
          rw [← hte] at T HK
          rw [← hon] at HK ON
          clear hte hon
          have z0' := fun d os => cell_regrown z0 d os
          have z1' := fun d os => cell_regrown z1 d os
          have z2' := fun d os => cell_regrown z2 d os
          have z3' := fun d os => cell_regrown z3 d os
          have p0' := fun d os => cell_regrown p0 d os
          have p1' := fun d os => cell_regrown p1 d os
          go_upto_region 6 with fail
          refine wp_region_quiet_below (by kernel_rfl) (by kernel_rfl) ?_
          repeat (go_big_quiet_step (first | exact T.out _ _))
          refine wpQuiet_nil ?_
          rintro _ ⟨⟨dq, osq⟩, rfl⟩
          have hc := below_regrown wr dq osq
          replace z0 := z0' dq osq
          replace z1 := z1' dq osq
          replace z2 := z2' dq osq
          replace z3 := z3' dq osq
          replace p0 := p0' dq osq
          replace p1 := p1' dq osq
          replace hb := hb.trans (hc.mono hb.size)
          clear z0' z1' z2' z3' p0' p1' hc T
          generalize grow (redrawn wr dq) osq = W2 at *
          rcases Int.lt_trichotomy t 0 with ht | ht | ht
          · have hF := HF'.out (fun h => (HK.out.mp h).1 ht)
            subst hF
            have d1 : decide (t < 0) = true := decide_eq_true ht
            go_wp2
            go_region
            go_wp2
            go_ret
            exact ⟨rfl, gW.trans ((hb.trans ((Gr.refl _).drew.below.mono hb.size)).mono gW.size)⟩
          · subst ht
            have d1 : decide ((0 : Int) < 0) = false := by decide
            have Cp := pair_cases p a
            have T2 : Hid (∀ d os, Calls Try.prog 56 #[pt p.1 p.2, pt a.1 a.2, pt b.1 b.2] (grow (redrawn W2 d) os) fun e w' => e = .returned (.bool on) ∧ ∃ p : Regrown, w' = grow (redrawn W2 p.d) p.os) := fun d os => Calls.regrown_of (ON.out _)
            have z0' := fun d os => cell_regrown z0 d os
            have z1' := fun d os => cell_regrown z1 d os
            have z2' := fun d os => cell_regrown z2 d os
            have z3' := fun d os => cell_regrown z3 d os
            have p0' := fun d os => cell_regrown p0 d os
            have p1' := fun d os => cell_regrown p1 d os
            clear z0 z1 z2 z3 p0 p1 ON
            rcases Cp with ⟨e, e1, e2⟩ | Cp
            · have E2 := hid0 (HE'.out (HK.out.mpr ⟨by omega, fun _ => Or.inl e⟩))
              clear HE' HF' HK e
              rw [e1] at p0' 
              rw [e2] at p1'
              go_upto_region 7 with fail
              refine wp_region_quiet_below (by kernel_rfl) (by kernel_rfl) ?_
              repeat (go_big_quiet_step (first | exact T2.out _ _))
              refine wpQuiet_nil ?_
              rintro _ ⟨⟨dq2, osq2⟩, rfl⟩
              have hc := below_regrown W2 dq2 osq2
              replace hb := hb.trans (hc.mono hb.size)
              clear z0' z1' z2' z3' p0' p1' hc T2
              generalize grow (redrawn W2 dq2) osq2 = W3 at *
              go_wp2
              go_roundw
              case rel => exact ⟨k + 1, by omega, by go_num, E2, hb⟩
              case measure => simp [intOf]; omega
            · have hpa : Hid (p ≠ a) := by rcases Cp with ⟨e, _⟩ | ⟨e, _⟩ <;> exact e
              rcases Cp with ⟨-, k1, k2⟩ | ⟨-, k1⟩
              all_goals
                go_upto_region 7 with fail
                refine wp_region_quiet_below (by kernel_rfl) (by kernel_rfl) ?_
                repeat (go_big_quiet_step (first | exact T2.out _ _))
                refine wpQuiet_nil ?_
                rintro _ ⟨⟨dq2, osq2⟩, rfl⟩
                have hc := below_regrown W2 dq2 osq2
                replace hb := hb.trans (hc.mono hb.size)
                clear z0' z1' z2' z3' p0' p1' hc T2
                generalize grow (redrawn W2 dq2) osq2 = W3 at *
                cases on with
                | true =>
                  have E2 := hid0 (HE'.out (HK.out.mpr ⟨by omega, fun _ => Or.inr rfl⟩))
                  clear HE' HF' HK
                  go_wp2
                  go_roundw
                  case rel => exact ⟨k + 1, by omega, by go_num, E2, hb⟩
                  case measure => simp [intOf]; omega
                | false =>
                  have hF := HF'.out (fun h => ((HK.out.mp h).2 rfl).elim hpa.out (fun x => by cases x))
                  subst hF
                  go_wp2
                  go_ret
                  exact ⟨rfl, gW.trans (hb.mono gW.size)⟩
          · have E2 := hid0 (HE'.out (HK.out.mpr ⟨by omega, fun h => by omega⟩))
            clear HE' HF' HK ON
            have d1 : decide (t < 0) = false := decide_eq_false (by omega)
            have d2 : (t == 0) = false := by simp; omega
            go_wp2
            go_region
            go_wp2
            go_roundw
            case rel => exact ⟨k + 1, by omega, by go_num, E2, hb.trans ((Gr.refl _).drew.below.mono hb.size)⟩
            case measure => simp [intOf]; omega
        · have hF := HF.out true (by
            refine ⟨fun _ => ⟨hne.out, fun j hj => hE.out j (by omega)⟩, fun _ => rfl⟩)
          subst hF
          go_wp2
          go_ret
          exact ⟨rfl, gW.trans (hb.mono gW.size)⟩
end
end Go.Proofs.Ytljdnahomhbenaa
