/- put of a book, of an object that is in no fence. -/
import Derived.Test.YtgdmbcfjjdngdaaDoorAd
set_option linter.unusedSimpArgs false
set_option linter.unusedVariables false
namespace Go.Proofs.YtgdmbcfjjdngdaaDoor
open Go.RowKit Go.Sort Go.Shelf

/-- An object as a value, its list as a slice. -/
abbrev oV (id num tim x y : Int) (sp : Nat) (l : Value) : Value := .agg #[.int .u32 id, .int .u32 num, .int .u32 tim, .int .i32 x, .int .i32 y, .float .f64 sp, l]
section
variable {B : Nat} {w : World} {b : Nat} {s : BS} {M : Nat → Mv} {id : Int}
/-- What put answers and leaves, of an object that is not there and is in no fence. -/
def PutR (B b : Nat) (s : BS) (id num tim x y : Int) (sp : Nat) (w : World) (e : Ending) (w' : World) : Prop := 
  (s.LO.length = s.rO ∧ e = .returned (.int .i64 5) ∧ Gr w w') ∨
  (s.LO.length < s.rO ∧ e = .returned (.int .i64 0) ∧ ∃ i k nb v' m, Cut s.LO id i ∧ w.heap.size ≤ (k : Nat) ∧ w.heap.size ≤ nb ∧ TM.NewRow w s.vO v' ∧ w.heap.size ≤ m.bb ∧ w.heap.size ≤ m.gb ∧
     BookIs B w' b { s with vO := v', LO := ins s.LO i (id, (k : Int), nb) } ∧ MvIs w' k id m ∧ m = ⟨num, tim, x, y, sp, m.bb, m.gb, List.replicate s.rF false⟩ ∧ Chg (TM.tP s.o s.vO) w w')
set_option maxHeartbeats 2000000 in
theorem put_nil (h : BookIs B w b s) (hB : B ≤ w.heap.size) (hn : ∀ x ∈ s.LO, x.1 ≠ id) (num tim x y : Int) (sp : Nat) : Calls Tryd.prog 47 #[pT b, oV id num tim x y sp (.slice none 0 0)] w (PutR B b s id num tim x y sp w) := by
  have kO := Bk.new w 41 [.int .u32 id, .int .u32 num, .int .u32 tim, .int .i32 x, .int .i32 y, .float .f64 sp, .slice none 0 0]
  have gO := (Gr.refl w).alloc (.cells [.int .u32 id, .int .u32 num, .int .u32 tim, .int .i32 x, .int .i32 y, .float .f64 sp, .slice none 0 0].toArray 41)
  have H := h.gr gO
  clear h
  go_enter Tryd.func47, Tryd.ntmps47
  go_upto_region 1 with fail
  obtain ⟨c, hce, hc⟩ : ∃ b, b = w.heap.size ∧ w.heap.size ≤ b := ⟨_, rfl, Nat.le_refl _⟩
  rw [← hce] at kO ⊢
  clear hce
  generalize World.alloc _ _ = W at *
  have L : Hid (∀ m os, Calls Tryd.prog 54 #[pT s.o] (grow (W.drewN m) os) fun e w' => e = .returned (.int .i64 (s.LO.length : Int)) ∧ ∃ p : GrownBy, w' = grow (W.drewN p.n) p.os) := fun m os => calm (fun w' g' => TM.len_any (H.ob.gr g')) m os
  have R : Hid (∀ m os, Calls Tryd.prog 65 #[pT s.o] (grow (W.drewN m) os) fun e w' => e = .returned (.int .i64 (s.rO : Int)) ∧ ∃ p : GrownBy, w' = grow (W.drewN p.n) p.os) := fun m os => calm (fun w' g' => TM.room_any (H.ob.gr g')) m os
  have c0 := cell_gr (show W.cell? ⟨b, 0, none⟩ = some (pT s.o) from H.blk.at 0)
  refine wp_region_quiet_grown (by kernel_rfl) (by kernel_rfl) ?_
  repeat (go_big_quiet_step (first | exact L.out _ _ | exact R.out _ _))
  refine wpQuiet_nil ?_
  intro _ hw'
  obtain ⟨⟨nq, osq⟩, hw''⟩ := hw'
  subst hw''
  have gg : Gr W (grow (W.drewN nq) osq) := ⟨nq, osq, rfl⟩
  have H1 := H.gr gg
  have kO1 := kO.gr gg
  have g1 := gO.trans gg
  clear H kO gO gg c0 L R
  generalize grow _ _ = W1 at *
  have hlen := H1.ob.len
  by_cases hf : s.LO.length = s.rO
  · have d : ((s.LO.length : Int) == (s.rO : Int)) = true := by simp; omega
    have G := hid0 g1
    clear H1 kO1 g1
    go_wp2
    go_ret
    exact .inl ⟨hf, rfl, G.out⟩
  · have d : ((s.LO.length : Int) == (s.rO : Int)) = false := by simp; omega
    have RF := hid0 (TI.room_any H1.fe)
    have NB := hid0 (newbits_yes s.rF W1 (Nat.le_trans H1.fe.most (by omega)))
    have c1 := H1.blk.at 1
    simp only [List.getElem?_cons_zero, List.getElem?_cons_succ] at c1
    go_upto_region 4 with (first | (go_at_call 66; refine RF.out.mono ?_; rintro e w2 ⟨rfl, hw⟩; cases hw) | (go_at_call 44; refine NB.out.mono ?_; rintro e w2 ⟨bb, gb, SW, rfl, hbb, hgb, hS, g2⟩))
    have H2 := H1.gr g2
    have kO2 := kO1.gr g2
    have G2 := g1.trans g2
    have s1 := g1.size
    replace hbb : w.heap.size ≤ bb := by omega
    replace hgb : w.heap.size ≤ gb := by omega
    clear H1 kO1 g1 g2 RF NB c1
    have q6 := kO2.at 6
    have f6 := kO2.frozen 6
    simp only [List.getElem?_cons_zero, List.getElem?_cons_succ] at q6
    go_upto_region 5 with fail
    refine wp_loop_rounds 1 ?_
    rw [rounds_succ]
    go_upto_region 13 with fail
    have hcw : c < w2.heap.size := kO2.lt
    have k3 : Bk (w2.setCell ⟨c, 6, none⟩ (.slice none 0 0)) c 41 [.int .u32 id, .int .u32 num, .int .u32 tim, .int .i32 x, .int .i32 y, .float .f64 sp, .slice none 0 0] := kO2.set 6 _
    have C3 := Chg.set (p := fun j => j = c) w2 (a := ⟨c, 6, none⟩) rfl (.slice none 0 0)
    have o3 := on_one kO2
    have H3 : BookIs B (w2.setCell ⟨c, 6, none⟩ (.slice none 0 0)) b s := by
      obtain ⟨PW, hP⟩ := H2.pl
      exact ⟨H2.blk.chg C3 (o3.ne H2.blk (by decide)), H2.ob.on C3 o3 (by decide) (by decide) (by decide), H2.fe.on C3 o3 (by decide) (by decide) (by decide), ⟨PW, hP.on C3 o3 (by decide) (by decide)⟩, H2.b0⟩
    have S3 := hS.on C3 o3 (by decide) (by decide)
    have G3 := G2.setCell (p := ⟨c, 6, none⟩) hc (.slice none 0 0)
    clear kO2 C3 o3 H2 hS G2 q6 f6
    generalize World.setCell _ _ _ = W3 at *
    have km : Bk (W3.alloc (.cells (mL id ⟨num, tim, x, y, sp, bb, gb, []⟩).toArray 93)) W3.heap.size 93 (mL id ⟨num, tim, x, y, sp, bb, gb, []⟩) := Bk.new W3 93 _
    have gm := (Gr.refl W3).alloc (.cells (mL id ⟨num, tim, x, y, sp, bb, gb, []⟩).toArray 93)
    have hk : w.heap.size ≤ W3.heap.size := G3.size
    have PU : Hid (∀ V, Gr (W3.alloc (.cells (mL id ⟨num, tim, x, y, sp, bb, gb, []⟩).toArray 93)) V → Calls Tryd.prog 67 #[pT s.o, .int .u32 id, pT W3.heap.size] V fun e w' => e = .returned (.tuple #[.pointer none, .int .i64 0]) ∧
        ∃ i nb v', Cut s.LO id i ∧ w.heap.size ≤ nb ∧ TM.NewRow w s.vO v' ∧ TM.TabIs B w' s.o s.rO v' (ins s.LO i (id, (W3.heap.size : Int), nb)) ∧ Chg (TM.tP s.o s.vO) (W3.alloc (.cells (mL id ⟨num, tim, x, y, sp, bb, gb, []⟩).toArray 93)) w') := fun V g => by
      have hVs : w.heap.size ≤ V.heap.size := Nat.le_trans hk (Nat.le_trans gm.size g.size)
      refine (TM.put_any ((H3.ob.gr gm).gr g) (Nat.le_trans hB hVs) id (W3.heap.size : Int)).mono ?_
      rintro e w' ⟨i, hc, hC, hcase⟩
      have hC' := (Chg.of_gr (p := TM.tP s.o s.vO) g).trans hC
      rcases hcase with ⟨ht, _⟩ | ⟨_, hl, _⟩ | ⟨_, hl, he, nb, v', hnb, hT, hN⟩
      · obtain ⟨z, hz, ez⟩ := there_yes ht
        exact absurd ez (hn z (List.mem_of_getElem? hz))
      · exact absurd hl hf
      · refine ⟨he, i, nb, v', hc, Nat.le_trans hVs hnb, fun q hq => ?_, hT, hC'⟩
        rcases hN q hq with h | h
        · exact .inl h
        · exact .inr (Nat.le_trans hVs h)
    have c0 := H3.blk.at 0
    have k0 := k3.at 0
    have k1 := k3.at 1
    have k2 := k3.at 2
    have k3' := k3.at 3
    have k4 := k3.at 4
    have k5 := k3.at 5
    have k6 := k3.at 6
    simp only [List.getElem?_cons_zero, List.getElem?_cons_succ] at c0 k0 k1 k2 k3' k4 k5 k6
    have c0' := below_cell c0 gm.below
    have k0' := below_cell k0 gm.below
    have HX := hid0 (And.intro H3 (And.intro S3 (And.intro G3 (And.intro km gm))))
    have K3 := hid0 k3
    clear H3 S3 G3 km gm k3
    go_region_with (go_at_call 67; refine (PU.out _ (by first | exact Gr.refl _ | exact (Gr.refl _).drew)).mono ?_; rintro e w4 ⟨rfl, i, nb, v', hci, hnb, hN, hT, hC⟩; have HR := hid0 (And.intro hci (And.intro hnb (And.intro hN (And.intro hT hC)))); clear hci hnb hN hT hC PU)
    all_goals
      obtain ⟨H3, S3, G3, km, gm⟩ := HX.out
      obtain ⟨hci, hnb, hN, hT, hC⟩ := HR.out
      have on4 := (H3.ob.gr gm).ons
      obtain ⟨PW, hP⟩ := H3.pl
      have F : Hid (PutR B b s id num tim x y sp w (.returned (.int .i64 0)) w4) :=
        .inr ⟨by omega, rfl, i, W3.heap.size, nb, v', ⟨num, tim, x, y, sp, bb, gb, List.replicate s.rF false⟩, hci, hk, hnb, hN, hbb, hgb,
          ⟨(H3.blk.gr gm).chg hC (on4.ne (H3.blk.gr gm) (by decide)), hT, (H3.fe.gr gm).on hC on4 (by decide) (by decide) (by decide), ⟨PW, (hP.gr gm).on hC on4 (by decide) (by decide)⟩, H3.b0⟩,
          ⟨km.chg hC (on4.ne km (by decide)), ⟨SW, (S3.gr gm).on hC on4 (by decide) (by decide)⟩⟩, rfl, (Chg.of_gr (G3.trans gm)).trans hC⟩
      clear H3 S3 G3 km gm hci hnb hN hT hC on4 hP HX HR
      go_wp2
      go_ret
      exact F.out
end
end Go.Proofs.YtgdmbcfjjdngdaaDoor
