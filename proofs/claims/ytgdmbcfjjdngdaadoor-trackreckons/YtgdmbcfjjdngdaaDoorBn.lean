/- New and AddFence of a book; what a change of blocks of some types leaves. -/
import Derived.Test.YtgdmbcfjjdngdaaDoorBe
set_option linter.unusedSimpArgs false
set_option linter.unusedVariables false
namespace Go.Proofs.YtgdmbcfjjdngdaaDoor
open Go.RowKit Go.Sort Go.Shelf

/-- The blocks of p are of the types ts. -/
def On (ts : List TypeId) (p : Nat → Prop) (w : World) : Prop := ∀ k t l, p k → Bk w k t l → t ∈ ts
theorem On.ne {ts : List TypeId} {p : Nat → Prop} {w : World} (q : On ts p w) {k : Nat} {t : TypeId} {l : List Value} (h : Bk w k t l) (ht : t ∉ ts) : ¬ p k := fun hp => ht (q k t l hp h)
theorem On.gr {ts : List TypeId} {p : Nat → Prop} {w w' : World} (q : On ts p w) (g : Gr w w') (hp : ∀ k, p k → k < w.heap.size) : On ts p w' := fun k t l h hb => by
  refine q k t l h ?_
  unfold Bk at hb ⊢
  rw [← hb]
  exact (g.below.block k (hp k h)).symm
theorem TM.TabIs.on {B : Nat} {w w' : World} {t room : Nat} {v : Value} {L : List En} {p : Nat → Prop} {ts : List TypeId} (h : TM.TabIs B w t room v L) (k : Chg p w w') (q : On ts p w) (h1 : 112 ∉ ts) (h2 : 131 ∉ ts) (h3 : 134 ∉ ts) : TM.TabIs B w' t room v L :=
  h.chg k (q.ne h.blk h1) (fun g e => by obtain ⟨_, _, cur, kb⟩ := h.sl.lt e; exact q.ne kb h2) (fun x hx => q.ne (h.ents x hx) h3)
theorem TI.TabIs.on {B : Nat} {w w' : World} {t room : Nat} {v : Value} {L : List En} {p : Nat → Prop} {ts : List TypeId} (h : TI.TabIs B w t room v L) (k : Chg p w w') (q : On ts p w) (h1 : 115 ∉ ts) (h2 : 124 ∉ ts) (h3 : 123 ∉ ts) : TI.TabIs B w' t room v L :=
  h.chg k (q.ne h.blk h1) (fun g e => by obtain ⟨_, _, cur, kb⟩ := h.sl.lt e; exact q.ne kb h2) (fun x hx => q.ne (h.ents x hx) h3)
theorem BitsIs.on {w w' : World} {b g : Nat} {T : List Bool} {W : List Nat} {p : Nat → Prop} {ts : List TypeId} (h : BitsIs w b g T W) (k : Chg p w w') (q : On ts p w) (h1 : 118 ∉ ts) (h2 : 22 ∉ ts) : BitsIs w' b g T W :=
  h.chg k (q.ne h.blk h1) (q.ne h.row h2)
theorem on_one {w : World} {k : Nat} {t : TypeId} {l : List Value} (h : Bk w k t l) : On [t] (fun j => j = k) w := fun j t' l' e hb => by
  subst e
  unfold Bk at h hb
  rw [h] at hb
  simp only [Option.some.injEq, Obj.cells.injEq] at hb
  rw [← hb.2.1]
  simp
theorem TI.TabIs.ons {B : Nat} {w : World} {t room : Nat} {v : Value} {L : List En} (h : TI.TabIs B w t room v L) : On [115, 124] (TI.tP t v) w := fun j t' l' e hb => by
  rcases e with rfl | e
  · have := on_one h.blk _ _ _ rfl hb
    simp at this
    simp [this]
  · obtain ⟨_, _, cur, kb⟩ := h.sl.lt e
    have := on_one kb _ _ _ rfl hb
    simp at this
    simp [this]
theorem TM.TabIs.ons {B : Nat} {w : World} {t room : Nat} {v : Value} {L : List En} (h : TM.TabIs B w t room v L) : On [112, 131] (TM.tP t v) w := fun j t' l' e hb => by
  rcases e with rfl | e
  · have := on_one h.blk _ _ _ rfl hb
    simp at this
    simp [this]
  · obtain ⟨_, _, cur, kb⟩ := h.sl.lt e
    have := on_one kb _ _ _ rfl hb
    simp at this
    simp [this]
theorem TM.TabIs.wide {B C : Nat} {w : World} {t room : Nat} {v : Value} {L : List En} (h : TM.TabIs B w t room v L) (hc : C ≤ B) : TM.TabIs C w t room v L :=
  ⟨h.blk, (by rcases h.sl with e | ⟨g, cp, e, hB, hR⟩; exact .inl e; exact .inr ⟨g, cp, e, Nat.le_trans hc hB, hR⟩), h.ents, h.asc, h.len, h.most, Nat.le_trans hc h.t0⟩
theorem TI.TabIs.wide {B C : Nat} {w : World} {t room : Nat} {v : Value} {L : List En} (h : TI.TabIs B w t room v L) (hc : C ≤ B) : TI.TabIs C w t room v L :=
  ⟨h.blk, (by rcases h.sl with e | ⟨g, cp, e, hB, hR⟩; exact .inl e; exact .inr ⟨g, cp, e, Nat.le_trans hc hB, hR⟩), h.ents, h.asc, h.len, h.most, Nat.le_trans hc h.t0⟩
section
variable {B : Nat} {w : World} {b : Nat} {s : BS} {M : Nat → Mv}
/-- A new book. -/
def NewR (a c : Nat) (w : World) (e : Ending) (w' : World) : Prop := ∃ b s, e = .returned (.tuple #[pT b, .int .i64 0]) ∧ BookIs w.heap.size w' b s ∧ s.rO = a ∧ s.rF = c ∧ s.LO = [] ∧ s.LF = [] ∧ s.P = List.replicate c false ∧ Gr w w'
set_option maxHeartbeats 1000000 in
theorem newbook_yes (a c : Nat) (w : World) (ha : 1 ≤ a ∧ a ≤ 64) (hc : 1 ≤ c ∧ c ≤ 64) : Calls Tryd.prog 25 #[.int .i64 (a : Int), .int .i64 (c : Int)] w (NewR a c w) := by
  have A : Hid (∀ W, Calls Tryd.prog 42 #[.int .i64 (a : Int)] W fun e w' => ∃ t, e = .returned (.tuple #[pT t, .int .i64 0]) ∧ TM.TabIs W.heap.size w' t a (.slice none 0 0) [] ∧ Gr W w') := fun W => TM.new_yes a W (by omega)
  have C : Hid (∀ W, Calls Tryd.prog 43 #[.int .i64 (c : Int)] W fun e w' => ∃ t, e = .returned (.tuple #[pT t, .int .i64 0]) ∧ TI.TabIs W.heap.size w' t c (.slice none 0 0) [] ∧ Gr W w') := fun W => TI.new_yes c W (by omega)
  have D : Hid (∀ W, Calls Tryd.prog 44 #[.int .i64 (c : Int)] W (NewBitsR c W)) := fun W => newbits_yes c W (by omega)
  have m1 : decide (min (a : Int) (c : Int) < 1) = false := decide_eq_false (by omega)
  have m2 : decide (max (a : Int) (c : Int) > 64) = false := decide_eq_false (by omega)
  have n1 : ¬ (min (a : Int) (c : Int) < 1) := by omega
  have n2 : ¬ (max (a : Int) (c : Int) > 64) := by omega
  clear ha hc
  have kb := Bk.new w 50 [.pointer none, .pointer none, .pointer none]
  have gA := (Gr.refl w).alloc (.cells [.pointer none, .pointer none, .pointer none].toArray 50)
  go_enter Tryd.func25, Tryd.ntmps25
  go_upto_region 4 with fail
  obtain ⟨b, hbe, hb⟩ : ∃ b, b = w.heap.size ∧ w.heap.size ≤ b := ⟨_, rfl, Nat.le_refl _⟩
  rw [← hbe] at kb ⊢
  have hle : b ≤ w.heap.size := Nat.le_of_eq hbe
  clear hbe
  generalize World.alloc _ _ = W at *
  go_upto_region 5 with (go_at_call 42; refine (A.out _).mono ?_; rintro e w1 ⟨o, rfl, h1, g1⟩; have f1 := (kb.gr g1).frozen 0; have q1 := (kb.gr g1).at 0; simp only [List.getElem?_cons_zero] at q1)
  have k1 : Bk (w1.setCell ⟨b, 0, none⟩ (pT o)) b 50 [pT o, .pointer none, .pointer none] := (kb.gr g1).set 0 _
  have G1 := (gA.trans g1).setCell (p := ⟨b, 0, none⟩) hb (pT o)
  have H1 := (h1.wide (Nat.le_trans hb (Nat.le_of_lt kb.lt))).on (Chg.set (p := fun j => j = b) w1 (a := ⟨b, 0, none⟩) rfl (pT o)) (on_one (kb.gr g1)) (by decide) (by decide) (by decide)
  clear kb gA h1 g1 f1 q1
  generalize World.setCell _ _ _ = W1 at *
  go_upto_region 6 with (go_at_call 43; refine (C.out _).mono ?_; rintro e w2 ⟨f, rfl, h2, g2⟩; have f1 := (k1.gr g2).frozen 1; have q1 := (k1.gr g2).at 1; simp only [List.getElem?_cons_zero, List.getElem?_cons_succ] at q1)
  have k2 : Bk (w2.setCell ⟨b, 1, none⟩ (pT f)) b 50 [pT o, pT f, .pointer none] := (k1.gr g2).set 1 _
  have G2 := (G1.trans g2).setCell (p := ⟨b, 1, none⟩) hb (pT f)
  have C2 := Chg.set (p := fun j => j = b) w2 (a := ⟨b, 1, none⟩) rfl (pT f)
  have H2 := (H1.gr g2).on C2 (on_one (k1.gr g2)) (by decide) (by decide) (by decide)
  have F2 := (h2.wide G1.size).on C2 (on_one (k1.gr g2)) (by decide) (by decide) (by decide)
  clear k1 G1 H1 h2 g2 f1 q1 C2
  generalize World.setCell _ _ _ = W2 at *
  go_upto_region 7 with (go_at_call 44; refine (D.out _).mono ?_; rintro e w3 ⟨pl, gp, PW, rfl, hb3, hg3, h3, g3⟩; have f1 := (k2.gr g3).frozen 2; have q1 := (k2.gr g3).at 2; simp only [List.getElem?_cons_zero, List.getElem?_cons_succ] at q1)
  have k3 : Bk (w3.setCell ⟨b, 2, none⟩ (pT pl)) b 50 [pT o, pT f, pT pl] := (k2.gr g3).set 2 _
  have G3 := (G2.trans g3).setCell (p := ⟨b, 2, none⟩) hb (pT pl)
  have C3 := Chg.set (p := fun j => j = b) w3 (a := ⟨b, 2, none⟩) rfl (pT pl)
  have H3 := (H2.gr g3).on C3 (on_one (k2.gr g3)) (by decide) (by decide) (by decide)
  have F3 := (F2.gr g3).on C3 (on_one (k2.gr g3)) (by decide) (by decide) (by decide)
  have P3 := h3.on C3 (on_one (k2.gr g3)) (by decide) (by decide)
  have R := hid0 (show NewR a c w (.returned (.tuple #[pT b, .int .i64 0])) (w3.setCell ⟨b, 2, none⟩ (pT pl)) from
    ⟨b, ⟨o, f, pl, gp, a, c, .slice none 0 0, .slice none 0 0, [], [], List.replicate c false⟩, rfl, ⟨k3, H3, F3, ⟨PW, P3⟩, ⟨hb, Nat.le_trans G2.size hg3⟩⟩, rfl, rfl, rfl, rfl, rfl, G3⟩)
  clear k2 G2 H2 F2 h3 g3 f1 q1 C3 k3 G3 H3 F3 P3
  generalize World.setCell _ _ _ = W3 at *
  go_wp2
  go_ret2
  exact R.out
end
end Go.Proofs.YtgdmbcfjjdngdaaDoor
