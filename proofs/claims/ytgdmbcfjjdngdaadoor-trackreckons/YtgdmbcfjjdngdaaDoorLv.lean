/- works: the closed call of each law. -/
import Derived.Test.YtgdmbcfjjdngdaaDoorMo
import Derived.Test.YtgdmbcfjjdngdaaDoorSd
set_option linter.unusedSimpArgs false
set_option linter.unusedVariables false
namespace Go.Proofs.YtgdmbcfjjdngdaaDoor
open Go.RowKit Go.Sort Go.Shelf

theorem sp_lit : spF 0 (3 - 0) (4 - 0) 0 8 = 4599301119452119040 := by kernel_rfl
theorem Tab.below {w w' : World} (h : Tab w) (k : Below w.heap.size w w') : Tab w' := fun j hj => below_cell (h j hj) k
theorem cut_one (id v : Int) (b : Nat) {i : Nat} (h : Cut [(id, v, b)] id i) : i = 0 := by
  have := h.is 0 (id, v, b) rfl
  have := this.2
  simp at this
  omega
theorem cut_nil {id : Int} {i : Nat} (h : Cut [] id i) : i = 0 := by have := h.le; simpa using this
theorem BookIs.word {B : Nat} {w w' : World} {b : Nat} {s : BS} {g : Nat} {l : List Value} (h : BookIs B w b s) (k : Bk w g 22 l) (c : Chg (fun j => j = g) w w') (hg : g ≠ s.gp) : BookIs B w' b s := by
  have q := on_one k
  obtain ⟨PW, hP⟩ := h.pl
  exact ⟨h.blk.chg c (q.ne h.blk (by decide)), h.ob.on c q (by decide) (by decide) (by decide), h.fe.on c q (by decide) (by decide) (by decide), ⟨PW, hP.chg c (q.ne hP.blk (by decide)) (fun e => hg e.symm)⟩, h.b0⟩
theorem TM.TabIs.tP_le {B : Nat} {w : World} {t room : Nat} {v : Value} {L : List En} (h : TM.TabIs B w t room v L) : ∀ k, TM.tP t v k → B ≤ k := fun k e => by
  rcases e with rfl | e
  · exact h.t0
  · exact (h.sl.lt e).2.1
theorem TI.TabIs.tP_le {B : Nat} {w : World} {t room : Nat} {v : Value} {L : List En} (h : TI.TabIs B w t room v L) : ∀ k, TI.tP t v k → B ≤ k := fun k e => by
  rcases e with rfl | e
  · exact h.t0
  · exact (h.sl.lt e).2.1
theorem BookIs.aP_le {B : Nat} {w : World} {b : Nat} {s : BS} (h : BookIs B w b s) : ∀ k, aP s k → B ≤ k := fun k e => by
  rcases e with e | rfl
  · exact h.fe.tP_le k e
  · exact h.b0.2
set_option maxRecDepth 100000 in
set_option maxHeartbeats 4000000 in
theorem works_any (w : World) (hT : Tab w) : Calls Tryd.prog 15 #[] w fun e w' => e = .returned (.bool true) ∧ Below w.heap.size w w' := by
  have NW : Hid (Calls Tryd.prog 25 #[.int .i64 1, .int .i64 1] w (NewR 1 1 w)) := by
    have := newbook_yes 1 1 w (by omega) (by omega)
    exact this
  have HT := hid0 hT
  clear hT
  go_enter Tryd.func15, Tryd.ntmps15
  go_wp2_with fail
  refine NW.out.mono ?_
  rintro e w1 ⟨b, s, rfl, H, hrO, hrF, hLO, hLF, hP, g1⟩
  have SP : Hid (Calls Tryd.prog 10 #[.float .f64 0, pt 0 0, pt 3 4, .int .u32 0, .int .u32 8] w1 fun e w' => e = .returned (.float .f64 4599301119452119040) ∧ Gr w1 w') := by
    have := speed_any (o := 0) (O := 0) (x := 0) (y := 0) (u := 3) (v := 4) (t0 := 0) (t := 8) (V.refl (by decide)) (by unfold in32; omega) (by unfold in32; omega) (by unfold in32; omega) (by unfold in32; omega) (by decide) (by decide) w1
    refine this.mono ?_
    rintro e w' ⟨r, rfl, hv, hg⟩
    rw [sp_lit] at hv
    exact ⟨by rw [hv.eq (by decide)], hg⟩
  have HH := hid0 H
  have HG := hid0 g1
  have HA := hid0 (And.intro hrO (And.intro hrF (And.intro hLO (And.intro hLF hP))))
  have dd : (FloatKind.f64.format.order 4599301119452119040 4599301119452119040 != some Ordering.eq) = false := by kernel_rfl
  clear NW H g1 hrO hrF hLO hLF hP
  go_upto_region 4 with (go_at_call 10; refine SP.out.mono ?_; rintro e w2 ⟨rfl, g2⟩)
  have H2 := HH.out.gr g2
  have G2 := HG.out.trans g2
  have MV := hid0 (move_new (id := 4) H2 G2.size (by rw [HA.out.2.2.1]; simp) 1 0 2 0)
  replace H2 := hid0 H2
  replace G2 := hid0 G2
  clear SP HH HG g2 dd
  go_wp2_with fail
  refine MV.out.mono ?_
  rintro e w3 ⟨c, rfl, hP⟩
  obtain ⟨hrO, hrF, hLO, hLF, hPP⟩ := HA.out
  rcases hP with ⟨h, _⟩ | ⟨_, h2, i, k, nb, v', m, hci, hk, hnb, hN, hbb, hgb, H3, M3, hm, C3⟩
  · rw [hLO, hrO] at h; cases h
  simp only [Ending.returned.injEq, Value.int.injEq, true_and] at h2
  subst h2
  rw [hLO] at hci H3
  obtain rfl := cut_nil hci
  have kr := Bk.new w3 24 [.int .i32 0, .int .i32 0]
  have gr := (Gr.refl w3).alloc (.cells [.int .i32 0, .int .i32 0].toArray 24)
  have X := hid0 (And.intro H3 (And.intro M3 (And.intro hm (And.intro C3 (And.intro hbb (And.intro hgb (And.intro kr gr)))))))
  clear H3 M3 hm C3 hbb hgb MV hci hN hnb hk
  go_upto_region 5 with fail
  generalize w3.alloc (.cells #[.int .i32 0, .int .i32 0] 24) = W4 at *
  have B4 : Below w.heap.size w W4 := by
    obtain ⟨H3, M3, hm, C3, hbb, hgb, kr, gr⟩ := X.out
    exact G2.out.below.trans ((C3.below (B := w.heap.size) G2.out.size H2.out.ob.tP_le).trans (gr.below.mono (Nat.le_trans G2.out.size C3.size)))
  obtain ⟨H3, M3, hm, C3, hbb, hgb, kr, gr⟩ := X.out
  have H4 := H3.gr gr
  have M4 := M3.gr gr
  have hgp : s.gp < m.gb := by
    obtain ⟨PW, hP⟩ := H2.out.pl
    exact Nat.lt_of_lt_of_le hP.row.lt hgb
  have AF := hid0 (addfence_any H4 B4.size (HT.out.below B4) (fun _ => ⟨0, by rw [hPP]; decide, by rw [hPP]; decide⟩) 9)
  replace H4 := hid0 H4
  replace M4 := hid0 M4
  replace B4 := hid0 B4
  clear X H3 M3 C3 hbb hgb kr gr H2 G2
  go_wp2_with fail
  refine AF.out.mono ?_
  rintro e w5 ⟨j, hcj, hcase⟩
  rw [show (BS.mk s.o s.f s.pl s.gp s.rO s.rF v' s.vF (ins [] 0 (4, (k : Int), nb)) s.LF s.P).LF = [] from hLF] at hcj hcase
  obtain rfl := cut_nil hcj
  rcases hcase with ⟨h, _⟩ | ⟨_, h, _⟩ | ⟨_, _, rfl, p, nb5, v5, hp1, hp2, hp3, hnb5, hN5, H5, C5⟩
  · exact absurd h (by simp [there])
  · rw [show (BS.mk s.o s.f s.pl s.gp s.rO s.rF v' s.vF (ins [] 0 (4, (k : Int), nb)) s.LF s.P).rF = 1 from hrF] at h; cases h
  obtain rfl : p = 0 := by
    rw [show (BS.mk s.o s.f s.pl s.gp s.rO s.rF v' s.vF (ins [] 0 (4, (k : Int), nb)) s.LF s.P).P = List.replicate 1 false from hPP] at hp1
    simpa using hp1
  have hS : m.S = List.replicate 1 false := by rw [hm, hrF]
  have M5 : MvIs w5 k 4 m := by
    obtain ⟨PW, hP⟩ := M4.out.set
    have on5 := H4.out.ons
    exact ⟨M4.out.blk.chg C5 (on5.ne M4.out.blk (by decide)), PW, hP.chg C5 (on5.ne hP.blk (by decide)) (fun e => by
      rcases e with e | e
      · exact H4.out.fe.ons.ne hP.row (by decide) e
      · exact Nat.ne_of_lt hgp e.symm)⟩
  have B5 : Below w.heap.size w w5 := B4.out.trans (C5.below B4.out.size H4.out.aP_le)
  have hV : Mvs w5 [(4, (k : Int), nb)] (fun _ => m) := fun x hx => by
    simp only [List.mem_cons, List.not_mem_nil, or_false] at hx
    subst hx
    exact M5
  have EN := hid0 (enter_any (M := fun _ => m) H5 hV (fun y hy => ⟨0, by
      have : y = (9, ((0 : Nat) : Int), nb5) := by simpa [hLF, ins] using hy
      rw [this], fun x hx => by rw [hS]; decide⟩) 4 9)
  replace H5 := hid0 H5
  replace M5 := hid0 M5
  replace B5 := hid0 B5
  clear AF H4 M4 B4 C5 hN5 hp2 hp3 hp1 hnb5 hV
  go_wp2_with fail
  refine EN.out.mono ?_
  rintro e w6 ⟨i, j, hci, hcj, hcase⟩
  have hcj2 : Cut [(9, ((0 : Nat) : Int), nb5)] 9 j := by
    have := hcj
    exact this
  obtain rfl := cut_one _ _ _ (show Cut [(4, (k : Int), nb)] 4 i from hci)
  obtain rfl := cut_one _ _ _ hcj2
  have t1 : there (ins [] 0 (4, (k : Int), nb)) 4 0 = true := by simp [there, ins]
  have t2 : there (ins [] 0 (9, ((0 : Nat) : Int), nb5)) 9 0 = true := by simp [there, ins]
  have tv : TI.valAt (ins [] 0 (9, ((0 : Nat) : Int), nb5)) 0 = ((0 : Nat) : Int) := rfl
  have hb0 : hasB m.S ((0 : Nat) : Int) = false := by rw [hS]; decide
  rcases hcase with ⟨h, _⟩ | ⟨_, h, _⟩ | ⟨_, _, rfl, ⟨W6, hS6⟩, C6⟩
  · rw [t1, t2] at h; cases h
  · rw [tv, hb0] at h; cases h
  rw [tv] at hS6
  have on6 : On [22] (fun j => j = m.gb) w5 := by
    obtain ⟨PW, hP⟩ := M5.out.set
    exact on_one hP.row
  obtain ⟨PW, hP⟩ := M5.out.set
  have H6 := H5.out.word hP.row C6 (by exact Nat.ne_of_gt hgp)
  have M6 : MvIs w6 k 4 { m with S := m.S.set 0 true } := ⟨M5.out.blk.chg C6 (on6.ne M5.out.blk (by decide)), W6, hS6⟩
  have B6 : Below w.heap.size w w6 := B5.out.trans (C6.below B5.out.size (fun j e => by
    have e : j = m.gb := e
    rw [e]
    obtain ⟨PW, hP⟩ := H5.out.pl
    have := H5.out.b0.2
    exact Nat.le_trans this (Nat.le_of_lt hgp)))
  have hV : Mvs w6 [(4, (k : Int), nb)] (fun _ => { m with S := m.S.set 0 true }) := fun x hx => by
    simp only [List.mem_cons, List.not_mem_nil, or_false] at hx
    subst hx
    exact M6
  have IN : Hid (Calls Tryd.prog 29 #[pT b, .int .u32 4, .int .u32 9] w6 fun e w' => e = .returned (.bool true) ∧ Gr w6 w') := by
    refine (in_any (M := fun _ => { m with S := m.S.set 0 true }) H6 hV 4 9).mono ?_
    rintro e w' ⟨i, j, hci, hcj, rfl, hg⟩
    refine ⟨?_, hg⟩
    have hcj2 : Cut [(9, ((0 : Nat) : Int), nb5)] 9 j := by
      have := hcj
      exact this
    obtain rfl := cut_one _ _ _ (show Cut [(4, (k : Int), nb)] 4 i from hci)
    obtain rfl := cut_one _ _ _ hcj2
    have hb1 : hasB (m.S.set 0 true) ((0 : Nat) : Int) = true := by rw [hS]; decide
    rw [t1, t2, tv]
    show Ending.returned (.bool (true && true && hasB (m.S.set 0 true) ((0 : Nat) : Int))) = _
    rw [hb1]
    rfl
  have LN := hid0 (fun W (g : Gr w6 W) => blen_any (H6.gr g))
  replace B6 := hid0 B6
  clear EN H5 M5 B5 C6 hS6 H6 M6 hV on6 hP hci hcj hcj2 t1 t2 tv hb0 hS hgp
  go_wp2_with (first
    | (go_at_call 29; refine IN.out.mono ?_; rintro e w7 ⟨rfl, g7⟩)
    | (go_at_call 30; refine (LN.out _ (by assumption)).mono ?_; rintro e w7 ⟨rfl, hw⟩; cases hw))
  go_ret
  exact ⟨rfl, B6.out.trans (g7.below.mono B6.out.size)⟩
end Go.Proofs.YtgdmbcfjjdngdaaDoor
