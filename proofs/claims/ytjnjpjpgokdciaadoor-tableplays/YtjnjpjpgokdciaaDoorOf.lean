/- of, Get, Next. -/
import Derived.Test.YtjnjpjpgokdciaaDoorTi
set_option linter.unusedSimpArgs false
set_option linter.unusedVariables false
namespace Go.Proofs.YtjnjpjpgokdciaaDoor
open Go.RowKit Go.Sort Go.Shelf

theorem sB0 : sB 0 = ⟨#[]⟩ := rfl
theorem of_any (n : Int) (w : World) : Calls Tryd.prog 16 #[.int .i64 n] w fun e w' => e = .returned (vV n) ∧ Gr w w' := by
  have k := Bk.new w 32 (vL n)
  have g := (Gr.refl w).alloc (.cells (vL n).toArray 32)
  have q0 := k.at 0
  have q1 := k.at 1
  simp only [List.getElem?_cons_zero, List.getElem?_cons_succ] at q0 q1
  have q0 := hid0 q0
  have q1 := hid0 q1
  have g := hid0 g
  clear k
  by_cases hn : n = 0
  · subst hn
    go_enter Tryd.func16, Tryd.ntmps16
    go_wp2
    have q0 := q0.out
    have q1 := q1.out
    simp only [vL, sB0] at q0 q1
    refine bodyPost_ret (v := vV 0) (by simp [results, Tryd.results16, go_sem, q0, q1, sB0]) rfl ⟨rfl, g.out⟩
  · have e : sB n = ⟨#[118]⟩ := if_neg hn
    go_enter Tryd.func16, Tryd.ntmps16
    go_wp2
    have q0 := q0.out
    have q1 := q1.out
    have g := g.out
    simp only [vL, e] at q0 q1 g
    refine bodyPost_ret (v := vV n) (by simp [results, Tryd.results16, go_sem, q0, q1, e]) rfl ⟨rfl, g⟩
section
variable {B : Nat} {w : World} {t room : Nat} {v : Value} {L : List En}
/-- A result that lies in a block of the call's own. -/
theorem vcells {w : World} {b : Nat} {n : Int} (k : Bk w b 32 (vL n)) : w.cell? ⟨b, 0, none⟩ = some (.int .i64 n) ∧ w.cell? ⟨b, 1, none⟩ = some (.string (sB n)) := ⟨k.at 0, k.at 1⟩
theorem Bk.setv {w : World} {b : Nat} {n m : Int} (k : Bk w b 32 (vL n)) : Bk ((w.setCell ⟨b, 0, none⟩ (.int .i64 m)).setCell ⟨b, 1, none⟩ (.string (sB m))) b 32 (vL m) := (k.set 0 _).set 1 _
theorem Gr.setv {w W : World} {b : Nat} {m : Int} (g : Gr w W) (hb : w.heap.size ≤ b) : Gr w ((W.setCell ⟨b, 0, none⟩ (.int .i64 m)).setCell ⟨b, 1, none⟩ (.string (sB m))) := (g.setCell hb _).setCell hb _
def valAt (L : List En) (i : Nat) : Int := (L.getD i (0, 0, 0)).2.1
def GetR (B : Nat) (L : List En) (id : Int) (w : World) (e : Ending) (w' : World) : Prop := ∃ i, Cut L id i ∧ (there L id i = true ∧ e = .returned (.tuple #[vV (valAt L i), .bool true]) ∨ there L id i = false ∧ e = .returned (.tuple #[vV 0, .bool false])) ∧ Gr w w'
set_option maxHeartbeats 1000000 in
theorem get_any (h : TabIs B w t room v L) (id : Int) : Calls Tryd.prog 35 #[pT t, .int .u32 id] w (GetR B L id w) := by
  have k : Bk (w.alloc (.cells #[.int .i64 0, .string ⟨#[]⟩] 32)) w.heap.size 32 (vL 0) := Bk.new w 32 (vL 0)
  have g := (Gr.refl w).alloc (.cells #[.int .i64 0, .string ⟨#[]⟩] 32)
  have H := h.gr g
  have F := hid0 (find_any H id)
  replace H := hid0 H
  replace k := hid0 k
  replace g := hid0 g
  clear h
  go_enter Tryd.func35, Tryd.ntmps35
  go_upto_region 1 with fail
  have hb : w.heap.size ≤ w.heap.size := Nat.le_refl _
  generalize hbb : w.heap.size = b at k hb ⊢
  generalize w.alloc _ = W at *
  go_wp2_with fail
  refine F.out.mono ?_
  rintro e w1 ⟨i, hc, rfl, hw⟩
  cases hw
  have HC := hid0 hc
  clear hc F
  have f0 := k.out.frozen 0
  have f1 := k.out.frozen 1
  obtain ⟨q0, q1⟩ := vcells k.out
  cases hth : there L id i with
  | false =>
    have kN := Bk.new W 32 (vL 0)
    have gN := (Gr.refl W).alloc (.cells #[.int .i64 0, .string ⟨#[]⟩] 32)
    clear f0 f1 q0 q1
    replace k : Hid (Bk (W.alloc (.cells #[.int .i64 0, .string ⟨#[]⟩] 32)) b 32 (vL 0)) := k.out.gr gN
    replace g := hid0 (g.out.trans gN)
    replace kN : Hid (Bk (W.alloc (.cells #[.int .i64 0, .string ⟨#[]⟩] 32)) W.heap.size 32 (vL 0)) := kN
    clear gN H
    go_upto_region 4 with fail
    generalize W.heap.size = b2 at *
    generalize W.alloc _ = W2 at *
    obtain ⟨q0, q1⟩ := vcells kN.out
    obtain ⟨r0, r1⟩ := vcells k.out
    have f0 := k.out.frozen 0
    have f1 := k.out.frozen 1
    go_wp2
    have k2 := k.out.setv (m := 0)
    have g2 := hid0 (g.out.setv (m := 0) (b := b) (by omega))
    generalize World.setCell _ _ _ = X at *
    obtain ⟨q0, q1⟩ := vcells k2
    refine bodyPost_ret (v := .tuple #[vV 0, .bool false]) (by simp [results, Tryd.results35, go_sem, q0, q1]) rfl ⟨i, HC.out, .inr ⟨hth, rfl⟩, g2.out⟩
  | true =>
    obtain ⟨x, hx, ex⟩ := there_yes hth
    have hm := List.mem_of_getElem? hx
    have c2 := H.out.c2
    have rk := H.out.ents x hm
    obtain ⟨g1, cp, rfl, hB1, hR⟩ : ∃ g cp, v = .slice (some ⟨g, 0, none⟩) L.length cp ∧ B ≤ g ∧ RowG W g cp L := by
      rcases H.out.sl with ⟨_, rfl⟩ | h
      · simp at hx
      · exact h
    have cc := hR.cell hx
    have r1 := rk.at 1
    have r2 := rk.at 2
    have hi := (List.getElem?_eq_some_iff.1 hx).1
    simp only [List.getElem?_cons_zero, List.getElem?_cons_succ] at r1 r2
    have hi' : (i : Int) < (L.length : Int) := by omega
    have ev : Hid (valAt L i = x.2.1) := by simp [Hid, valAt, List.getD, hx]
    clear hR rk hm H hx
    go_wp2
    have k2 := k.out.setv (m := x.2.1)
    have g2 := hid0 (g.out.setv (m := x.2.1) (b := b) (by omega))
    generalize World.setCell _ _ _ = X at *
    obtain ⟨q0, q1⟩ := vcells k2
    refine bodyPost_ret (v := .tuple #[vV x.2.1, .bool true]) (by simp [results, Tryd.results35, go_sem, q0, q1]) rfl ⟨i, HC.out, .inl ⟨hth, by rw [ev.out]⟩, g2.out⟩
/-- What Next answers: the entry at place i, or none. -/
def NextR (L : List En) (id : Int) (all : Bool) (w : World) (e : Ending) (w' : World) : Prop := ∃ c i, Cut L id c ∧ i = (if all then 0 else if there L id c then c + 1 else c) ∧ ((∃ x, L[i]? = some x ∧ e = .returned (.tuple #[.int .u32 x.1, vV x.2.1, .bool true])) ∨ (L.length = i ∧ e = .returned (.tuple #[.int .u32 0, vV 0, .bool false]))) ∧ Gr w w'
set_option maxHeartbeats 2000000 in
theorem next_any (h : TabIs B w t room v L) (id : Int) (all : Bool) : Calls Tryd.prog 17 #[pT t, .int .u32 id, .bool all] w (NextR L id all w) := by
  have k : Bk (w.alloc (.cells #[.int .i64 0, .string ⟨#[]⟩] 32)) w.heap.size 32 (vL 0) := Bk.new w 32 (vL 0)
  have g := (Gr.refl w).alloc (.cells #[.int .i64 0, .string ⟨#[]⟩] 32)
  have H := h.gr g
  have F := hid0 (find_any H id)
  have LN := hid0 (len_any H)
  have hL : L.length ≤ 65536 := Nat.le_trans h.len h.most
  replace H := hid0 H
  replace k := hid0 k
  replace g := hid0 g
  clear h
  go_enter Tryd.func17, Tryd.ntmps17
  go_upto_region 1 with fail
  have hb : w.heap.size ≤ w.heap.size := Nat.le_refl _
  generalize hbb : w.heap.size = b at k hb ⊢
  generalize w.alloc _ = W at *
  go_wp2_with fail
  refine F.out.mono ?_
  rintro e w1 ⟨c, hc, rfl, hw⟩
  cases hw
  have HC := hid0 hc
  have hcl := hc.le
  clear hc F
  obtain ⟨i, hi⟩ : ∃ i, i = (if all then 0 else if there L id c then c + 1 else c) := ⟨_, rfl⟩
  have HI := hid0 hi
  have hiL : i ≤ L.length := by
    rw [hi]
    split
    · omega
    · split
      · rename_i h
        obtain ⟨x, hx, _⟩ := there_yes h
        have := (List.getElem?_eq_some_iff.1 hx).1
        omega
      · exact hcl
  clear hi hiL HI i
  have hcl' : there L id c = true → c < L.length := fun h => by
    obtain ⟨x, hx, _⟩ := there_yes h
    exact (List.getElem?_eq_some_iff.1 hx).1
  cases all with
  | true =>
    generalize hth : there L id c = th at *
    have HI : Hid (0 = (if true then 0 else if th then c + 1 else c)) := rfl
    by_cases hlt : 0 < L.length
    · obtain ⟨x, hx⟩ : ∃ x, L[0]? = some x := ⟨_, List.getElem?_eq_getElem hlt⟩
      have hm := List.mem_of_getElem? hx
      have rk := H.out.ents x hm
      obtain ⟨g1, cp, rfl, hB1, hR⟩ : ∃ g cp, v = .slice (some ⟨g, 0, none⟩) L.length cp ∧ B ≤ g ∧ RowG W g cp L := by
        rcases H.out.sl with ⟨_, rfl⟩ | h
        · simp at hx
        · exact h
      have c2 := fun m => below_cell H.out.c2 ((Gr.refl W).drewN m).below
      have cc := fun m => below_cell (hR.cell hx) ((Gr.refl W).drewN m).below
      have r0 := fun m => below_cell (rk.at 0) ((Gr.refl W).drewN m).below
      have r1 := fun m => below_cell (rk.at 1) ((Gr.refl W).drewN m).below
      have r2 := fun m => below_cell (rk.at 2) ((Gr.refl W).drewN m).below
      try simp only [List.getElem?_cons_zero, List.getElem?_cons_succ] at r0 r1 r2
      have hne : ((0 : Int) == (L.length : Int)) = false := by simp; omega
      have hi' : (0 : Int) < (L.length : Int) := by omega
      have HX := hid0 hx
      have f0 := fun m => (k.out.gr ((Gr.refl W).drewN m)).frozen 0
      have f1 := fun m => (k.out.gr ((Gr.refl W).drewN m)).frozen 1
      have q0 := fun m => below_cell (vcells k.out).1 ((Gr.refl W).drewN m).below
      have q1 := fun m => below_cell (vcells k.out).2 ((Gr.refl W).drewN m).below
      clear hR rk hm H hx
      go_wp2_with fail
      refine LN.out.mono ?_
      rintro e w1 ⟨rfl, hw⟩
      cases hw
      clear LN
      go_wp2_with fail
      obtain ⟨nF, hnF⟩ : ∃ nF : Nat, 5 ≤ nF := ⟨5, by omega⟩
      refine (wpIn_wide (n := nF)).1 ?_
      refine region_head_lit 21 (by kernel_rfl) (by kernel_rfl) (by simp) (by kernel_rfl) ?_
      simp only [List.take_succ_cons, List.take_zero, List.drop_succ_cons, List.drop_zero]
      repeat (gi_big_quiet_step (fail))
      refine wpQuietIn_nil ?_
      intro _ hw'
      obtain ⟨q, rfl⟩ := hw'
      gi_wp2
      go_wp2
      have k2 := (k.out.gr ((Gr.refl W).drewN q)).setv (m := x.2.1)
      have g2 := hid0 ((g.out.trans ((Gr.refl W).drewN q)).setv (m := x.2.1) (b := b) (by omega))
      generalize World.setCell _ _ _ = X at *
      obtain ⟨q0, q1⟩ := vcells k2
      refine bodyPost_ret (v := .tuple #[.int .u32 x.1, vV x.2.1, .bool true]) (by simp [results, Tryd.results17, go_sem, q0, q1]) rfl ⟨c, _, HC.out, (rfl), .inl ⟨x, HX.out, rfl⟩, g2.out⟩
    · have ei : 0 = L.length := by omega
      have heq : ((0 : Int) == (L.length : Int)) = true := by simp; omega
      have EI := hid0 ei
      clear ei
      go_wp2_with fail
      refine LN.out.mono ?_
      rintro e w1 ⟨rfl, hw⟩
      cases hw
      clear LN
      have kN := Bk.new W 32 (vL 0)
      have gN := (Gr.refl W).alloc (.cells #[.int .i64 0, .string ⟨#[]⟩] 32)
      replace k : Hid (Bk (W.alloc (.cells #[.int .i64 0, .string ⟨#[]⟩] 32)) b 32 (vL 0)) := k.out.gr gN
      replace g := hid0 (g.out.trans gN)
      replace kN : Hid (Bk (W.alloc (.cells #[.int .i64 0, .string ⟨#[]⟩] 32)) W.heap.size 32 (vL 0)) := kN
      clear gN H
      go_upto_region 8 with fail
      generalize W.heap.size = b2 at *
      generalize W.alloc _ = W2 at *
      have q0 := fun m => below_cell (vcells kN.out).1 ((Gr.refl W2).drewN m).below
      have q1 := fun m => below_cell (vcells kN.out).2 ((Gr.refl W2).drewN m).below
      have r0 := fun m => below_cell (vcells k.out).1 ((Gr.refl W2).drewN m).below
      have r1 := fun m => below_cell (vcells k.out).2 ((Gr.refl W2).drewN m).below
      have f0 := fun m => (k.out.gr ((Gr.refl W2).drewN m)).frozen 0
      have f1 := fun m => (k.out.gr ((Gr.refl W2).drewN m)).frozen 1
      obtain ⟨nF, hnF⟩ : ∃ nF : Nat, 5 ≤ nF := ⟨5, by omega⟩
      refine (wpIn_wide (n := nF)).1 ?_
      refine region_head_lit 2 (by kernel_rfl) (by kernel_rfl) (by simp) (by kernel_rfl) ?_
      simp only [List.take_succ_cons, List.take_zero, List.drop_succ_cons, List.drop_zero]
      repeat (gi_big_quiet_step (fail))
      refine wpQuietIn_nil ?_
      intro _ hw'
      obtain ⟨q, rfl⟩ := hw'
      gi_wp2
      go_wp2
      have k2 := (k.out.gr ((Gr.refl W2).drewN q)).setv (m := 0)
      have g2 := hid0 ((g.out.trans ((Gr.refl W2).drewN q)).setv (m := 0) (b := b) (by omega))
      generalize World.setCell _ _ _ = X at *
      obtain ⟨q0, q1⟩ := vcells k2
      refine bodyPost_ret (v := .tuple #[.int .u32 0, vV 0, .bool false]) (by simp [results, Tryd.results17, go_sem, q0, q1]) rfl ⟨c, _, HC.out, (rfl), .inr ⟨EI.out.symm, rfl⟩, g2.out⟩
  | false =>
    cases hth : there L id c with
    | true =>
      have hcl2 := hcl' hth

      have HI : Hid ((c + 1) = (if false then 0 else if true then c + 1 else c)) := rfl
      by_cases hlt : (c + 1) < L.length
      · obtain ⟨x, hx⟩ : ∃ x, L[(c + 1)]? = some x := ⟨_, List.getElem?_eq_getElem hlt⟩
        have hm := List.mem_of_getElem? hx
        have rk := H.out.ents x hm
        obtain ⟨g1, cp, rfl, hB1, hR⟩ : ∃ g cp, v = .slice (some ⟨g, 0, none⟩) L.length cp ∧ B ≤ g ∧ RowG W g cp L := by
          rcases H.out.sl with ⟨_, rfl⟩ | h
          · simp at hx
          · exact h
        have c2 := fun m => below_cell H.out.c2 ((Gr.refl W).drewN m).below
        have cc := fun m => below_cell (hR.cell hx) ((Gr.refl W).drewN m).below
        have r0 := fun m => below_cell (rk.at 0) ((Gr.refl W).drewN m).below
        have r1 := fun m => below_cell (rk.at 1) ((Gr.refl W).drewN m).below
        have r2 := fun m => below_cell (rk.at 2) ((Gr.refl W).drewN m).below
        try simp only [List.getElem?_cons_zero, List.getElem?_cons_succ] at r0 r1 r2
        have hne : (((c : Int) + 1 : Int) == (L.length : Int)) = false := by simp; omega
        have hi' : ((c : Int) + 1 : Int) < (L.length : Int) := by omega
        have HX := hid0 hx
        have f0 := fun m => (k.out.gr ((Gr.refl W).drewN m)).frozen 0
        have f1 := fun m => (k.out.gr ((Gr.refl W).drewN m)).frozen 1
        have q0 := fun m => below_cell (vcells k.out).1 ((Gr.refl W).drewN m).below
        have q1 := fun m => below_cell (vcells k.out).2 ((Gr.refl W).drewN m).below
        clear hR rk hm H hx
        go_wp2_with fail
        refine LN.out.mono ?_
        rintro e w1 ⟨rfl, hw⟩
        cases hw
        clear LN
        go_wp2_with fail
        obtain ⟨nF, hnF⟩ : ∃ nF : Nat, 5 ≤ nF := ⟨5, by omega⟩
        refine (wpIn_wide (n := nF)).1 ?_
        refine region_head_lit 21 (by kernel_rfl) (by kernel_rfl) (by simp) (by kernel_rfl) ?_
        simp only [List.take_succ_cons, List.take_zero, List.drop_succ_cons, List.drop_zero]
        repeat (gi_big_quiet_step (fail))
        refine wpQuietIn_nil ?_
        intro _ hw'
        obtain ⟨q, rfl⟩ := hw'
        gi_wp2
        go_wp2
        have k2 := (k.out.gr ((Gr.refl W).drewN q)).setv (m := x.2.1)
        have g2 := hid0 ((g.out.trans ((Gr.refl W).drewN q)).setv (m := x.2.1) (b := b) (by omega))
        generalize World.setCell _ _ _ = X at *
        obtain ⟨q0, q1⟩ := vcells k2
        refine bodyPost_ret (v := .tuple #[.int .u32 x.1, vV x.2.1, .bool true]) (by simp [results, Tryd.results17, go_sem, q0, q1]) rfl ⟨c, _, HC.out, (by rw [hth]; rfl), .inl ⟨x, HX.out, rfl⟩, g2.out⟩
      · have ei : (c + 1) = L.length := by omega
        have heq : (((c : Int) + 1 : Int) == (L.length : Int)) = true := by simp; omega
        have EI := hid0 ei
        clear ei
        go_wp2_with fail
        refine LN.out.mono ?_
        rintro e w1 ⟨rfl, hw⟩
        cases hw
        clear LN
        have kN := Bk.new W 32 (vL 0)
        have gN := (Gr.refl W).alloc (.cells #[.int .i64 0, .string ⟨#[]⟩] 32)
        replace k : Hid (Bk (W.alloc (.cells #[.int .i64 0, .string ⟨#[]⟩] 32)) b 32 (vL 0)) := k.out.gr gN
        replace g := hid0 (g.out.trans gN)
        replace kN : Hid (Bk (W.alloc (.cells #[.int .i64 0, .string ⟨#[]⟩] 32)) W.heap.size 32 (vL 0)) := kN
        clear gN H
        go_upto_region 8 with fail
        generalize W.heap.size = b2 at *
        generalize W.alloc _ = W2 at *
        have q0 := fun m => below_cell (vcells kN.out).1 ((Gr.refl W2).drewN m).below
        have q1 := fun m => below_cell (vcells kN.out).2 ((Gr.refl W2).drewN m).below
        have r0 := fun m => below_cell (vcells k.out).1 ((Gr.refl W2).drewN m).below
        have r1 := fun m => below_cell (vcells k.out).2 ((Gr.refl W2).drewN m).below
        have f0 := fun m => (k.out.gr ((Gr.refl W2).drewN m)).frozen 0
        have f1 := fun m => (k.out.gr ((Gr.refl W2).drewN m)).frozen 1
        obtain ⟨nF, hnF⟩ : ∃ nF : Nat, 5 ≤ nF := ⟨5, by omega⟩
        refine (wpIn_wide (n := nF)).1 ?_
        refine region_head_lit 2 (by kernel_rfl) (by kernel_rfl) (by simp) (by kernel_rfl) ?_
        simp only [List.take_succ_cons, List.take_zero, List.drop_succ_cons, List.drop_zero]
        repeat (gi_big_quiet_step (fail))
        refine wpQuietIn_nil ?_
        intro _ hw'
        obtain ⟨q, rfl⟩ := hw'
        gi_wp2
        go_wp2
        have k2 := (k.out.gr ((Gr.refl W2).drewN q)).setv (m := 0)
        have g2 := hid0 ((g.out.trans ((Gr.refl W2).drewN q)).setv (m := 0) (b := b) (by omega))
        generalize World.setCell _ _ _ = X at *
        obtain ⟨q0, q1⟩ := vcells k2
        refine bodyPost_ret (v := .tuple #[.int .u32 0, vV 0, .bool false]) (by simp [results, Tryd.results17, go_sem, q0, q1]) rfl ⟨c, _, HC.out, (by rw [hth]; rfl), .inr ⟨EI.out.symm, rfl⟩, g2.out⟩

    | false =>

      have HI : Hid (c = (if false then 0 else if false then c + 1 else c)) := rfl
      by_cases hlt : c < L.length
      · obtain ⟨x, hx⟩ : ∃ x, L[c]? = some x := ⟨_, List.getElem?_eq_getElem hlt⟩
        have hm := List.mem_of_getElem? hx
        have rk := H.out.ents x hm
        obtain ⟨g1, cp, rfl, hB1, hR⟩ : ∃ g cp, v = .slice (some ⟨g, 0, none⟩) L.length cp ∧ B ≤ g ∧ RowG W g cp L := by
          rcases H.out.sl with ⟨_, rfl⟩ | h
          · simp at hx
          · exact h
        have c2 := fun m => below_cell H.out.c2 ((Gr.refl W).drewN m).below
        have cc := fun m => below_cell (hR.cell hx) ((Gr.refl W).drewN m).below
        have r0 := fun m => below_cell (rk.at 0) ((Gr.refl W).drewN m).below
        have r1 := fun m => below_cell (rk.at 1) ((Gr.refl W).drewN m).below
        have r2 := fun m => below_cell (rk.at 2) ((Gr.refl W).drewN m).below
        try simp only [List.getElem?_cons_zero, List.getElem?_cons_succ] at r0 r1 r2
        have hne : (((c : Int) : Int) == (L.length : Int)) = false := by simp; omega
        have hi' : ((c : Int) : Int) < (L.length : Int) := by omega
        have HX := hid0 hx
        have f0 := fun m => (k.out.gr ((Gr.refl W).drewN m)).frozen 0
        have f1 := fun m => (k.out.gr ((Gr.refl W).drewN m)).frozen 1
        have q0 := fun m => below_cell (vcells k.out).1 ((Gr.refl W).drewN m).below
        have q1 := fun m => below_cell (vcells k.out).2 ((Gr.refl W).drewN m).below
        clear hR rk hm H hx
        go_wp2_with fail
        refine LN.out.mono ?_
        rintro e w1 ⟨rfl, hw⟩
        cases hw
        clear LN
        go_wp2_with fail
        obtain ⟨nF, hnF⟩ : ∃ nF : Nat, 5 ≤ nF := ⟨5, by omega⟩
        refine (wpIn_wide (n := nF)).1 ?_
        refine region_head_lit 21 (by kernel_rfl) (by kernel_rfl) (by simp) (by kernel_rfl) ?_
        simp only [List.take_succ_cons, List.take_zero, List.drop_succ_cons, List.drop_zero]
        repeat (gi_big_quiet_step (fail))
        refine wpQuietIn_nil ?_
        intro _ hw'
        obtain ⟨q, rfl⟩ := hw'
        gi_wp2
        go_wp2
        have k2 := (k.out.gr ((Gr.refl W).drewN q)).setv (m := x.2.1)
        have g2 := hid0 ((g.out.trans ((Gr.refl W).drewN q)).setv (m := x.2.1) (b := b) (by omega))
        generalize World.setCell _ _ _ = X at *
        obtain ⟨q0, q1⟩ := vcells k2
        refine bodyPost_ret (v := .tuple #[.int .u32 x.1, vV x.2.1, .bool true]) (by simp [results, Tryd.results17, go_sem, q0, q1]) rfl ⟨c, _, HC.out, (by rw [hth]; rfl), .inl ⟨x, HX.out, rfl⟩, g2.out⟩
      · have ei : c = L.length := by omega
        have heq : (((c : Int) : Int) == (L.length : Int)) = true := by simp; omega
        have EI := hid0 ei
        clear ei
        go_wp2_with fail
        refine LN.out.mono ?_
        rintro e w1 ⟨rfl, hw⟩
        cases hw
        clear LN
        have kN := Bk.new W 32 (vL 0)
        have gN := (Gr.refl W).alloc (.cells #[.int .i64 0, .string ⟨#[]⟩] 32)
        replace k : Hid (Bk (W.alloc (.cells #[.int .i64 0, .string ⟨#[]⟩] 32)) b 32 (vL 0)) := k.out.gr gN
        replace g := hid0 (g.out.trans gN)
        replace kN : Hid (Bk (W.alloc (.cells #[.int .i64 0, .string ⟨#[]⟩] 32)) W.heap.size 32 (vL 0)) := kN
        clear gN H
        go_upto_region 8 with fail
        generalize W.heap.size = b2 at *
        generalize W.alloc _ = W2 at *
        have q0 := fun m => below_cell (vcells kN.out).1 ((Gr.refl W2).drewN m).below
        have q1 := fun m => below_cell (vcells kN.out).2 ((Gr.refl W2).drewN m).below
        have r0 := fun m => below_cell (vcells k.out).1 ((Gr.refl W2).drewN m).below
        have r1 := fun m => below_cell (vcells k.out).2 ((Gr.refl W2).drewN m).below
        have f0 := fun m => (k.out.gr ((Gr.refl W2).drewN m)).frozen 0
        have f1 := fun m => (k.out.gr ((Gr.refl W2).drewN m)).frozen 1
        obtain ⟨nF, hnF⟩ : ∃ nF : Nat, 5 ≤ nF := ⟨5, by omega⟩
        refine (wpIn_wide (n := nF)).1 ?_
        refine region_head_lit 2 (by kernel_rfl) (by kernel_rfl) (by simp) (by kernel_rfl) ?_
        simp only [List.take_succ_cons, List.take_zero, List.drop_succ_cons, List.drop_zero]
        repeat (gi_big_quiet_step (fail))
        refine wpQuietIn_nil ?_
        intro _ hw'
        obtain ⟨q, rfl⟩ := hw'
        gi_wp2
        go_wp2
        have k2 := (k.out.gr ((Gr.refl W2).drewN q)).setv (m := 0)
        have g2 := hid0 ((g.out.trans ((Gr.refl W2).drewN q)).setv (m := 0) (b := b) (by omega))
        generalize World.setCell _ _ _ = X at *
        obtain ⟨q0, q1⟩ := vcells k2
        refine bodyPost_ret (v := .tuple #[.int .u32 0, vV 0, .bool false]) (by simp [results, Tryd.results17, go_sem, q0, q1]) rfl ⟨c, _, HC.out, (by rw [hth]; rfl), .inr ⟨EI.out.symm, rfl⟩, g2.out⟩
end
end Go.Proofs.YtjnjpjpgokdciaaDoor
