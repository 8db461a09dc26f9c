/- Contract of the reference's sum of two sizes. -/
import Derived.Test.YtljdnahomhbenaaNum
namespace Go.Proofs.Ytljdnahomhbenaa
section
open Go.RowKit Go.Sort

theorem Gr.grownBy {w w' : World} (h : Gr w w') : w.grownBy w' none :=
  ⟨h.below.os, h.below.tape, h.below.output, h.below.size, fun k hk _ => h.below.block k hk⟩
theorem own_gr {w w' : World} {base e k : Nat} {v : Value} {xs : List Value} (h : w.ownsRow base e 1 v k xs) (g : Gr w w') : w'.ownsRow base e 1 v k xs :=
  h.kept g.grownBy (by cases v.ownBlock <;> simp)

theorem trim_num (s : Bool) (ao : Option Addr) (cap : Nat) (l : List Int) (w : World) (h : Rd w ao cap l) :
    Calls Try.prog 100 #[.agg #[.bool s, .slice ao l.length cap]] w fun e w' => e = .returned (.agg #[.bool (s && ((trim l).length != 0)), .slice ao (trim l).length cap]) ∧ Gr w w' := by
  rw [trim_len]; exact trim_any s ao cap l w h
theorem below2 (w : World) (a b : Obj) : Below w.heap.size w ((w.alloc a).alloc b) := (((Gr.refl _).alloc _).alloc _).below
theorem below3 (w : World) (a b c : Obj) : Below w.heap.size w (((w.alloc a).alloc b).alloc c) := ((((Gr.refl _).alloc _).alloc _).alloc _).below
theorem below4 (w : World) (a b c d : Obj) : Below w.heap.size w ((((w.alloc a).alloc b).alloc c).alloc d) := (((((Gr.refl _).alloc _).alloc _).alloc _).alloc _).below

set_option maxHeartbeats 2000000 in
theorem size_any (s t : Bool) (ao bo : Option Addr) (ca cb : Nat) (a b : List Int) (w : World) (ha : Rd w ao ca a) (hb : Rd w bo cb b) (h1 : a.length ≤ 500000) (h2 : b.length ≤ 500000) :
    Calls Try.prog 70 #[.agg #[.bool s, .slice ao a.length ca], .agg #[.bool t, .slice bo b.length cb]] w fun e w' => ∃ ao cap l, e = .returned (.agg #[.bool false, .slice ao l.length cap]) ∧ Rd w' ao cap l ∧ nrm l ∧ vals l = vals a + vals b ∧ Below w.heap.size w w' := by
  obtain ⟨i0, hi, hz0, hz1, hz2⟩ := info_parts Try.info69
  have hda := allD_of ha.dig
  have hdb := allD_of hb.dig
  go_enter Try.func70, Try.ntmps70
  go_wp2
  go_loopw [6, 7] (fun c i wr => ∃ (k : Nat) (sv : Value), k ≤ max a.length b.length + 1 ∧ c = .int .u64 (sumC (dg a) (dg b) k) ∧ i = .int .i64 k ∧ wr.ownsRow (w.heap.size + 1 + 1 + 1 + 1) 69 1 sv k ((sumD (dg a) (dg b) k).map (Value.int .u64)) ∧
      Bk wr (w.heap.size + 1 + 1 + 1) (.bool false) sv ∧ Below (w.heap.size + 1 + 1 + 1) (((w.alloc (.cells #[.bool s, .slice ao a.length ca] 53)).alloc (.cells #[.bool t, .slice bo b.length cb] 53)).alloc (.cells #[.bool false, .slice none 0 0] 53)) wr) (fun _ i _ => max a.length b.length + 1 - (intOf i).toNat)
  case atStart => exact ⟨0, _, by omega, rfl, rfl, World.ownsRow_nil _ _ _ _, by simpa using Bk.new (((w.alloc (.cells #[.bool s, .slice ao a.length ca] 53)).alloc (.cells #[.bool t, .slice bo b.length cb] 53)).alloc (.cells #[.bool false, .slice none 0 0] 53)) (.bool false) (.slice none 0 0), (Below.refl _ _).alloc (by simp) _⟩
  case round =>
    obtain ⟨k, sv, hk, rfl, rfl, hown, hB, hbl⟩ := hrel
    have c1 := hB.c1
    obtain ⟨n1, n2⟩ := hda k
    obtain ⟨n3, n4⟩ := hdb k
    obtain ⟨n5, n6⟩ := sumC_bd hda hdb k
    have p0 : wr.cell? ⟨w.heap.size, 0, none⟩ = some (.bool s) := (hbl.cell (p := ⟨w.heap.size, 0, none⟩) (by simp only []; omega)).trans (by go_simp)
    have p1 : wr.cell? ⟨w.heap.size, 1, none⟩ = some (.slice ao a.length ca) := (hbl.cell (p := ⟨w.heap.size, 1, none⟩) (by simp only []; omega)).trans (by go_simp)
    have p2 : wr.cell? ⟨w.heap.size + 1, 0, none⟩ = some (.bool t) := (hbl.cell (p := ⟨w.heap.size + 1, 0, none⟩) (by simp only []; omega)).trans (by go_simp)
    have p3 : wr.cell? ⟨w.heap.size + 1, 1, none⟩ = some (.slice bo b.length cb) := (hbl.cell (p := ⟨w.heap.size + 1, 1, none⟩) (by simp only []; omega)).trans (by go_simp)
    by_cases hgo : k < a.length ∨ (¬ k < a.length ∧ k < b.length) ∨ (¬ k < a.length ∧ ¬ k < b.length ∧ 0 < sumC (dg a) (dg b) k)
    · have hM : k ≤ max a.length b.length := by
        rcases hgo with h | ⟨_, h⟩ | ⟨h, h', h''⟩
        · omega
        · omega
        · apply Nat.le_of_not_lt
          intro hlt
          have e : k = max a.length b.length + 1 := by omega
          rw [e, sumC_end a b _ (by omega) (by omega) hda hdb] at h''
          omega
      rcases hgo with hgo | ⟨hgo, hgo2⟩ | ⟨hgo, hgo2, hgo3⟩
      all_goals
        go_wp2
        have r70 : ∀ n os, (grow (wr.drewN n) os).cell? ⟨w.heap.size, 0, none⟩ = some (.bool s) := cell_grown (by have := hB.lt; simp only []; omega) p0
        have r71 : ∀ n os, (grow (wr.drewN n) os).cell? ⟨w.heap.size, 1, none⟩ = some (.slice ao a.length ca) := cell_grown (by have := hB.lt; simp only []; omega) p1
        have r80 : ∀ n os, (grow (wr.drewN n) os).cell? ⟨w.heap.size + 1, 0, none⟩ = some (.bool t) := cell_grown (by have := hB.lt; simp only []; omega) p2
        have r81 : ∀ n os, (grow (wr.drewN n) os).cell? ⟨w.heap.size + 1, 1, none⟩ = some (.slice bo b.length cb) := cell_grown (by have := hB.lt; simp only []; omega) p3
        have HA : Hid (∀ n os, Rd (grow (wr.drewN n) os) ao ca a) := fun n os => ha.mono ((below3 _ _ _ _).trans (hbl.mono (by omega)) |>.trans ((Gr.below ⟨n, os, rfl⟩).mono (by have := hB.lt; omega)))
        have HB : Hid (∀ n os, Rd (grow (wr.drewN n) os) bo cb b) := fun n os => hb.mono ((below3 _ _ _ _).trans (hbl.mono (by omega)) |>.trans ((Gr.below ⟨n, os, rfl⟩).mono (by have := hB.lt; omega)))
        refine wp_region_quiet_grown (by kernel_rfl) (by kernel_rfl) ?_
        repeat (go_big_quiet_step (first | (go_at_call_of 99 (Value.slice ao a.length ca); refine Calls.grown_of (digit_any s ao ca a k _ (HA.out _ _))) | (go_at_call_of 99 (Value.slice bo b.length cb); refine Calls.grown_of (digit_any t bo cb b k _ (HB.out _ _)))))
        refine wpQuiet_nil ?_
        intro _ hw'
        obtain ⟨⟨nq, osq⟩, hw''⟩ := hw'
        subst hw''
        have g2 : Gr wr (grow (wr.drewN nq) osq) := ⟨nq, osq, rfl⟩
        have hX := hB.lt
        replace hown := own_gr hown g2
        replace hbl := hbl.trans (g2.below.mono (by omega))
        replace hB := hB.mono g2.below hX
        replace hX := hB.lt
        clear r70 r71 r80 r81 HA HB p0 p1 p2 p3 c1 g2
        generalize grow (wr.drewN nq) osq = W2 at *
        have c1 := hB.c1
        go_wp2_with (at_builtin; refine wpList_append_own _ rfl (.tmp 37) (.tmp 40) 51 rfl (w.heap.size + 1 + 1 + 1 + 1) 69 i0 (.int .u64 0) 1 8 Try.underlying51 hi hz0 hz1 hz2 rfl (by decide) sv k _ rfl (hown.alloc _) ⟨W2.heap.size, 0, none⟩ 1 1 [.int .u64 ((dg a k + dg b k + sumC (dg a) (dg b) k) % 65536)] rfl rfl (ints_cells _ _) (fun u hu => by simp at hu; subst hu; rfl) (by unfold maxLen; omega) (by omega) (by simp; omega) ?_)
        intro sv' w1 hown' hgrow _
        obtain ⟨g', cap', rfl⟩ := own_shape hown'
        obtain ⟨hB1, r1, r2, r3⟩ := push_step hown hB hbl hown' hgrow
        have d1 := hB1.c1
        have d2 := hB1.f1
        clear hown' hgrow hown c1 hbl hB hB1
        go_wp2
        go_roundw
        case rel => exact ⟨k + 1, _, by omega, rfl, by go_num, by rw [sumD_succ, List.map_append]; exact r1, r2, r3⟩
        case measure => simp [intOf]; omega
    · have x1 : ¬ k < a.length := fun h => hgo (.inl h)
      have x2 : ¬ k < b.length := fun h => hgo (.inr (.inl ⟨x1, h⟩))
      have x3 : ¬ 0 < sumC (dg a) (dg b) k := fun h => hgo (.inr (.inr ⟨x1, x2, h⟩))
      have E : Hid (vals (trim (sumD (dg a) (dg b) k)) = vals a + vals b) := by
        unfold Hid
        rw [trim_vals]; exact sum_end a b k (by omega) (by omega) (by omega)
      have hl := sumD_len (dg a) (dg b) k
      obtain ⟨ao', cap', rfl, hRd, hbk⟩ := Rd.of_own (l := sumD (dg a) (dg b) k) (by rw [hl]; exact hown) (sumD_isD _ _ k) (by omega)
      have c0 := hB.c0
      have hX := hB.lt
      clear hl hgo
      go_wp2_with fail
      refine (trim_num _ _ _ _ _ hRd).mono ?_
      rintro e w1 ⟨rfl, hg⟩
      have hbl1 := hbl.trans (hg.below.mono (by omega))
      have hRd1 := hRd.trim.mono hg.below
      have hn := trim_nrm (sumD (dg a) (dg b) k)
      have q0 : w1.cell? ⟨w.heap.size + 1 + 1, 0, none⟩ = some (.bool false) := (hbl1.cell (p := ⟨w.heap.size + 1 + 1, 0, none⟩) (by simp only []; omega)).trans (by go_simp)
      have q1 : w1.cell? ⟨w.heap.size + 1 + 1, 1, none⟩ = some (.slice none 0 0) := (hbl1.cell (p := ⟨w.heap.size + 1 + 1, 1, none⟩) (by simp only []; omega)).trans (by go_simp)
      have q2 : w1.frozen? ⟨w.heap.size + 1 + 1, 0, none⟩ = false := (hbl1.frozen (p := ⟨w.heap.size + 1 + 1, 0, none⟩) (by simp only []; omega)).trans (by go_simp)
      have q3 : w1.frozen? ⟨w.heap.size + 1 + 1, 1, none⟩ = false := (hbl1.frozen (p := ⟨w.heap.size + 1 + 1, 1, none⟩) (by simp only []; omega)).trans (by go_simp)
      generalize trim (sumD (dg a) (dg b) k) = L at *
      go_wp2
      refine bodyPost_ret (v := .agg #[.bool false, .slice ao' L.length cap']) (by simp [results, Try.results70, go_sem, q0, q1]) rfl ⟨ao', cap', L, rfl, ?_, hn, E.out, ?_⟩
      · exact (hRd1.set (fun a ha => by have := hbk a ha; simp; omega) _).set (fun a ha => by have := hbk a ha; simp; omega) _
      · exact (((below3 _ _ _ _).trans (hbl1.mono (by omega))).setCell (by simp only []; omega) _).setCell (by simp only []; omega) _
end
end Go.Proofs.Ytljdnahomhbenaa
