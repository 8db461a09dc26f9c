/- Contract of the reference's low: which of two rows of words is less. -/
import Derived.Test.YtagabccaipfjeaaR3
import Derived.Deep.QuietTactic
namespace Go.Proofs.Ytagabccaipfjeaa
open Go.RowKit Go.Sort

theorem short_lt {a b : List Int} (hda : allD (dg a)) (hdb : allD (dg b)) (hn : nrm b) (h : a.length < b.length) : vals a < vals b := by
  have h1 := (vl_bd hda a.length).2
  have h2 := nrm_low hdb hn (by omega)
  have h3 := pw_mono (j := a.length) (k := b.length - 1) (by omega)
  unfold vals at *
  omega
set_option maxRecDepth 20000 in
set_option maxHeartbeats 2000000 in
theorem low_any (ao bo : Option Addr) (ca cb : Nat) (a b : List Int) (w : World) (ha : Rd w ao ca a) (hb : Rd w bo cb b) (na : nrm a) (nb : nrm b) :
    Calls Try.prog 59 #[.slice ao a.length ca, .slice bo b.length cb] w fun e w' => e = .returned (.int .i64 (cmpI (vals a) (vals b))) ∧ Gr w w' := by
  have hda := allD_of ha.dig
  have hdb := allD_of hb.dig
  have f1 := ha.cap
  have f2 := ha.le
  have f3 := hb.cap
  have f4 := hb.le
  by_cases hlt : a.length < b.length
  · have E : Hid (cmpI (vals a) (vals b) = -1) := by unfold Hid cmpI; rw [if_pos (short_lt hda hdb nb hlt)]
    have e1 : ((a.length : Int) == (b.length : Int)) = false := by rw [beq_eq_false_iff_ne]; omega
    clear ha hb na nb hda hdb
    go_enter Try.func59, Try.ntmps59
    go_wp2
    go_ret
    exact ⟨by rw [E.out]; rfl, Gr.refl _⟩
  · by_cases hgt : b.length < a.length
    · have E : Hid (cmpI (vals a) (vals b) = 1) := by have := short_lt hdb hda na hgt; unfold Hid cmpI; rw [if_neg (by omega), if_pos this]
      have e1 : ((a.length : Int) == (b.length : Int)) = false := by rw [beq_eq_false_iff_ne]; omega
      clear ha hb na nb hda hdb
      go_enter Try.func59, Try.ntmps59
      go_wp2
      go_ret
      exact ⟨by rw [E.out]; rfl, Gr.refl _⟩
    · have hab : a.length = b.length := by omega
      have HA : Hid (Rd w ao ca a) := ha
      have HB : Hid (Rd w bo cb b) := hb
      have E2 : ∀ d1 d2 : Int, True := fun _ _ => trivial
      clear na nb ha hb hlt hgt E2
      have oA : ∀ j, a.length ≤ j → dg a j = 0 := fun j hj => dg_out a j hj
      have oB : ∀ j, b.length ≤ j → dg b j = 0 := fun j hj => dg_out b j hj
      have hA0 : 0 < a.length → ∃ x, ao = some ⟨x, 0, none⟩ := fun h => HA.out.has h
      have hB0 : 0 < b.length → ∃ x, bo = some ⟨x, 0, none⟩ := fun h => HB.out.has h
      have cA : Hid (∀ wr x m, ao = some ⟨x, 0, none⟩ → m < a.length → Gr w wr → wr.cell? ⟨x, m, none⟩ = some (.int .u32 (dg a m))) := fun wr x m e h g => by subst e; exact (HA.out.gr g).at h
      have cB : Hid (∀ wr x m, bo = some ⟨x, 0, none⟩ → m < b.length → Gr w wr → wr.cell? ⟨x, m, none⟩ = some (.int .u32 (dg b m))) := fun wr x m e h g => by subst e; exact (HB.out.gr g).at h
      clear HA HB
      generalize a.length = n at *
      subst hab
      go_enter Try.func59, Try.ntmps59
      go_wp2
      go_loopw [5] (fun i wr => ∃ k : Nat, k ≤ b.length ∧ i = .int .i64 ((k : Int) - 1) ∧ Hid (∀ j, k ≤ j → dg a j = dg b j) ∧ Gr w wr) (fun i _ => (intOf i + 1).toNat)
      case atStart => exact ⟨b.length, Nat.le_refl _, rfl, fun j hj => by rw [oA j hj, oB j hj], Gr.refl _⟩
      case round =>
        obtain ⟨k, hk, rfl, he, hg⟩ := hrel
        by_cases h0 : k = 0
        · subst h0
          have E : Hid (cmpI (vals a) (vals b) = 0) := (cmpI_zero _ _).2 (size_eq fun j => he.out j (Nat.zero_le _))
          go_wp2
          go_ret
          exact ⟨by rw [E.out]; rfl, hg⟩
        · obtain ⟨m, rfl⟩ := Nat.exists_eq_succ_of_ne_zero h0
          rw [show ((m.succ : Nat) : Int) - 1 = (m : Int) from by omega]
          obtain ⟨x, rfl⟩ := hA0 (by omega)
          obtain ⟨y, rfl⟩ := hB0 (by omega)
          have c1 := cA.out wr x m rfl (by omega) hg
          have c2 := cB.out wr y m rfl (by omega) hg
          have m2 : m < b.length := by omega
          have z2 : (m : Int) < (b.length : Int) := by omega
          rcases Int.lt_trichotomy (dg a m) (dg b m) with h | h | h
          · have E : Hid (cmpI (vals a) (vals b) = -1) := by
              unfold Hid cmpI; rw [if_pos (size_lt hda hdb m h fun j hj => he.out j hj)]
            clear he hda hdb
            go_wp2
            go_quiet (fail)
            go_wp2
            go_ret
            exact ⟨by rw [E.out]; rfl, hg.trans ⟨nq, #[], by rw [grow_empty]⟩⟩
          · have h3 : ¬ dg a m < dg b m := by omega
            have h4 : ¬ dg b m < dg a m := by omega
            have H : Hid (dg a m = dg b m) := h
            clear h hda hdb
            go_wp2
            go_quiet (fail)
            have g2 : Gr w (wr.drewN nq) := hg.trans ⟨nq, #[], by rw [grow_empty]⟩
            replace c1 := cA.out _ x m rfl (by omega) g2
            replace c2 := cB.out _ y m rfl (by omega) g2
            generalize wr.drewN nq = W2 at *
            go_wp2
            go_quiet (fail)
            have g3 : Gr w (W2.drewN nq) := g2.trans ⟨nq, #[], by rw [grow_empty]⟩
            go_wp2
            go_roundw
            case rel => exact ⟨m, by omega, by go_num, fun j hj => (by rcases Nat.lt_or_eq_of_le hj with q | q; exact he.out j q; exact q ▸ H.out), g3⟩
            case measure => simp [intOf]
          · have E : Hid (cmpI (vals a) (vals b) = 1) := by
              have := size_lt hdb hda m h fun j hj => (he.out j hj).symm
              unfold Hid cmpI; rw [if_neg (by omega), if_pos this]
            have h3 : ¬ dg a m < dg b m := by omega
            clear he hda hdb
            go_wp2
            go_quiet (fail)
            have g2 : Gr w (wr.drewN nq) := hg.trans ⟨nq, #[], by rw [grow_empty]⟩
            replace c1 := cA.out _ x m rfl (by omega) g2
            replace c2 := cB.out _ y m rfl (by omega) g2
            generalize wr.drewN nq = W2 at *
            go_wp2
            go_quiet (fail)
            have g3 : Gr w (W2.drewN nq) := g2.trans ⟨nq, #[], by rw [grow_empty]⟩
            go_wp2
            go_ret
            exact ⟨by rw [E.out]; rfl, g3⟩
end Go.Proofs.Ytagabccaipfjeaa
