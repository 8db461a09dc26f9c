/- AddFence of a book. -/
import Derived.Test.YtgdmbcfjjdngdaaDoorBn
set_option linter.unusedSimpArgs false
set_option linter.unusedVariables false
namespace Go.Proofs.YtgdmbcfjjdngdaaDoor
open Go.RowKit Go.Sort Go.Shelf

section
variable {B : Nat} {w : World} {b : Nat} {s : BS} {M : Nat → Mv}
/-- What AddFence may change. -/
abbrev aP (s : BS) : Nat → Prop := fun k => TI.tP s.f s.vF k ∨ k = s.gp
theorem BookIs.ons (h : BookIs B w b s) : On [115, 124, 22] (aP s) w := fun j t' l' e hb => by
  rcases e with e | e
  · have := h.fe.ons _ _ _ e hb
    simp only [List.mem_cons, List.not_mem_nil, or_false] at this ⊢
    rcases this with h | h
    · exact .inl h
    · exact .inr (.inl h)
  · obtain ⟨W, p⟩ := h.pl
    have := on_one p.row _ _ _ e hb
    simp only [List.mem_cons, List.not_mem_nil, or_false] at this ⊢
    exact .inr (.inr this)
/-- What AddFence answers, and what it leaves. -/
def AddR (B b : Nat) (s : BS) (fe : Int) (w : World) (e : Ending) (w' : World) : Prop := ∃ j, Cut s.LF fe j ∧
  ((there s.LF fe j = true ∧ e = .returned (.int .i64 180) ∧ w' = w) ∨
   (there s.LF fe j = false ∧ s.LF.length = s.rF ∧ e = .returned (.int .i64 5) ∧ BookIs B w' b s ∧ Chg (aP s) w w') ∨
   (there s.LF fe j = false ∧ s.LF.length < s.rF ∧ e = .returned (.int .i64 0) ∧ ∃ p nb v', p < s.P.length ∧ s.P.getD p false = false ∧ (∀ i, i < p → s.P.getD i false = true) ∧ w.heap.size ≤ nb ∧ TI.NewRow w s.vF v' ∧
      BookIs B w' b { s with vF := v', LF := ins s.LF j (fe, (p : Int), nb), P := s.P.set p true } ∧ Chg (aP s) w w'))
theorem free_least {P : List Bool} {r : Int} (h : IsLeast (pT_ P 0 false) P.length r) (hf : ∃ p, p < P.length ∧ P.getD p false = false) : ∃ p : Nat, r = p ∧ p < P.length ∧ P.getD p false = false ∧ ∀ i, i < p → P.getD i false = true := by
  rcases h with ⟨_, h⟩ | ⟨k, hk, rfl, h1, h2⟩
  · obtain ⟨p, hp, e⟩ := hf
    have := h p hp
    simp [pT_, e] at this
    rw [List.getD_eq_getElem?_getD] at e
    rw [e] at this
    cases this
  · refine ⟨k, rfl, hk, ?_, fun i hi => ?_⟩
    · simpa [pT_] using h1
    · have := h2 i hi
      simpa [pT_] using this
set_option maxHeartbeats 1000000 in
theorem addfence_any (h : BookIs B w b s) (hB : B ≤ w.heap.size) (hT : Tab w) (hf : s.LF.length < s.rF → ∃ p, p < s.P.length ∧ s.P.getD p false = false) (fe : Int) : Calls Tryd.prog 27 #[pT b, .int .u32 fe] w (AddR B b s fe w) := by
  have A := hid0 (absent_book h)
  have G := hid0 (place_any h fe)
  obtain ⟨PW, hP⟩ := h.pl
  have FR := hid0 (free_any hP hT 0 (by unfold in64; omega))
  have c1 := h.blk.at 1
  have c2 := h.blk.at 2
  simp only [List.getElem?_cons_zero, List.getElem?_cons_succ] at c1 c2
  have PU := hid0 (fun p => TI.put_any h.fe hB fe p)
  have H := hid0 h
  have HP := hid0 hP
  clear h hP
  go_enter Tryd.func27, Tryd.ntmps27
  go_wp2_with (first
    | (go_at_call 45; refine A.out.mono ?_; rintro e w1 ⟨rfl, hw⟩; cases hw)
    | fail)
  refine G.out.mono ?_
  rintro e w1 ⟨j, hc, hcase, hw⟩
  cases hw
  have HC := hid0 hc
  clear hc G A
  rcases hcase with ⟨ht, rfl⟩ | ⟨ht, rfl⟩
  · go_wp2
    go_ret
    exact ⟨j, HC.out, .inl ⟨ht, rfl, rfl⟩⟩
  · go_wp2_with fail
    refine FR.out.mono ?_
    rintro e w1 ⟨r, rfl, hr, hw⟩
    cases hw
    have HR := hid0 hr
    clear hr FR
    go_wp2_with fail
    refine (PU.out r).mono ?_
    rintro e w1 ⟨j', hc', hC, hcase⟩
    obtain rfl := HC.out.uniq hc'
    have hon := H.out.fe.ons
    have hB1 := H.out.blk.chg hC (hon.ne H.out.blk (by decide))
    have hO1 := H.out.ob.on hC hon (by decide) (by decide) (by decide)
    have hP1 := HP.out.on hC hon (by decide) (by decide)
    have hb0 := H.out.b0
    rcases hcase with ⟨h, _⟩ | ⟨_, hl, rfl, hT1⟩ | ⟨_, hl, rfl, nb, v', hnb, hT1, hN⟩
    · rw [ht] at h; cases h
    · have R := hid0 (show AddR B b s fe w (.returned (.int .i64 5)) w1 from ⟨j, HC.out, .inr (.inl ⟨ht, hl, rfl, ⟨hB1, hO1, hT1, ⟨_, hP1⟩, hb0⟩, hC.wide fun _ _ e => .inl e⟩)⟩)
      clear hC hon hB1 hO1 hP1 hT1 HC H HP PU HR hf hT hc'
      go_wp2
      go_ret
      exact R.out
    · obtain ⟨p, rfl, hp1, hp2, hp3⟩ := free_least HR.out (hf hl)
      have AD := hid0 (add_yes hP1 p hp1 hp2)
      have c2' := hB1.at 2
      simp only [List.getElem?_cons_zero, List.getElem?_cons_succ] at c2'
      have HB1 := hid0 hB1
      have HO1 := hid0 hO1
      have HP1 := hid0 hP1
      have HT1 := hid0 hT1
      have HC1 := hid0 hC
      have HN := hid0 hN
      have HQ := hid0 (And.intro hp2 hp3)
      clear hC hon hB1 hO1 hP1 hT1 PU HR hf hT hc' hp2 hp3 hN c1 c2
      go_wp2_with fail
      refine AD.out.mono ?_
      rintro e w2 ⟨rfl, ⟨W2, hP2⟩, hC2⟩
      have on2 := on_one HP1.out.row
      have R := hid0 (show AddR B b s fe w (.returned (.int .i64 0)) w2 from ⟨j, HC.out, .inr (.inr ⟨ht, hl, rfl, p, nb, v', hp1, HQ.out.1, HQ.out.2, hnb, HN.out,
        ⟨HB1.out.chg hC2 (on2.ne HB1.out (by decide)), HO1.out.on hC2 on2 (by decide) (by decide) (by decide), HT1.out.on hC2 on2 (by decide) (by decide) (by decide), ⟨_, hP2⟩, hb0⟩,
        (HC1.out.wide fun _ _ e => .inl e).trans (hC2.wide fun _ _ e => .inr e)⟩)⟩)
      clear hC2 hP2 AD on2
      go_wp2
      go_ret
      exact R.out
end
end Go.Proofs.YtgdmbcfjjdngdaaDoor
