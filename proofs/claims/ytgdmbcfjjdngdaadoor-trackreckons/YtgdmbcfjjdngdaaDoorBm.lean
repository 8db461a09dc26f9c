/- A set of small numbers in memory; NewBits, absent, may, mask. -/
import Derived.Test.YtgdmbcfjjdngdaaDoorBp
import Derived.Test.YtgdmbcfjjdngdaaDoorPl
import Derived.IntWalk
import Derived.Laws.OwnMore
set_option linter.unusedSimpArgs false
set_option linter.unusedVariables false
namespace Go.Proofs.YtgdmbcfjjdngdaaDoor
open Go.RowKit Go.Sort Go.Shelf
theorem bk_ty {w : World} {b t t' : Nat} {l l' : List Value} (h : Bk w b t l) (k : Bk w b t' l') : t = t' := by
  unfold Bk at h k
  rw [h] at k
  simp only [Option.some.injEq, Obj.cells.injEq] at k
  exact k.2.1

abbrev wV (x : Nat) : Value := .int .u64 (x : Int)
/-- The set b, whose words W lie in block g, holds the truths T. -/
structure BitsIs (w : World) (b g : Nat) (T : List Bool) (W : List Nat) : Prop where
  blk : Bk w b 118 [.bool true, .int .i64 (T.length : Int), .slice (some ⟨g, 0, none⟩) W.length W.length]
  row : Bk w g 22 (W.map wV)
  rep : Rep T W
  most : T.length ≤ 65536
section
variable {w w' : World} {b g : Nat} {T : List Bool} {W : List Nat}
theorem BitsIs.gr (h : BitsIs w b g T W) (k : Gr w w') : BitsIs w' b g T W := ⟨h.blk.gr k, h.row.gr k, h.rep, h.most⟩
theorem BitsIs.chg {p : Nat → Prop} (h : BitsIs w b g T W) (k : Chg p w w') (h1 : ¬ p b) (h2 : ¬ p g) : BitsIs w' b g T W := ⟨h.blk.chg k h1, h.row.chg k h2, h.rep, h.most⟩
theorem BitsIs.c0 (h : BitsIs w b g T W) : w.cell? ⟨b, 0, none⟩ = some (.bool true) := h.blk.at 0
theorem BitsIs.c1 (h : BitsIs w b g T W) : w.cell? ⟨b, 1, none⟩ = some (.int .i64 (T.length : Int)) := h.blk.at 1
theorem BitsIs.c2 (h : BitsIs w b g T W) : w.cell? ⟨b, 2, none⟩ = some (.slice (some ⟨g, 0, none⟩) W.length W.length) := h.blk.at 2
theorem BitsIs.word (h : BitsIs w b g T W) {k : Nat} (hk : k < W.length) : w.cell? ⟨g, k, none⟩ = some (.int .u64 ((W.getD k 0 : Nat) : Int)) := by
  rw [h.row.at k, List.getElem?_map, List.getElem?_eq_getElem hk, List.getD_eq_getElem?_getD, List.getElem?_eq_getElem hk]
  rfl
end
theorem babsent_no (w : World) : Calls Tryd.prog 69 #[.pointer none] w fun e w' => e = .returned (.bool true) ∧ w' = w := by
  go_enter Tryd.func69, Tryd.ntmps69
  go_wp2
  go_ret
  exact ⟨rfl, rfl⟩
theorem babsent_zero (t : Nat) (x y : Value) (w : World) (h : Bk w t 118 [.bool false, x, y]) : Calls Tryd.prog 69 #[pT t] w fun e w' => e = .returned (.bool true) ∧ w' = w := by
  have c0 := h.at 0
  simp only [List.getElem?_cons_zero] at c0
  go_enter Tryd.func69, Tryd.ntmps69
  go_wp2
  go_ret
  exact ⟨rfl, rfl⟩
theorem babsent_yes (t : Nat) (w : World) (c0 : w.cell? ⟨t, 0, none⟩ = some (.bool true)) : Calls Tryd.prog 69 #[pT t] w fun e w' => e = .returned (.bool false) ∧ w' = w := by
  go_enter Tryd.func69, Tryd.ntmps69
  go_wp2
  go_ret
  exact ⟨rfl, rfl⟩
/-- A set that NewBits did not make. -/
def NoBits (w : World) (v : Value) : Prop := v = .pointer none ∨ ∃ t x y, v = pT t ∧ Bk w t 118 [.bool false, x, y]
theorem NoBits.gr {w w' : World} {v : Value} (h : NoBits w v) (g : Gr w w') : NoBits w' v := by
  rcases h with h | ⟨t, x, y, h, k⟩
  · exact .inl h
  · exact .inr ⟨t, x, y, h, k.gr g⟩
theorem babsent_nil (v : Value) (w : World) (h : NoBits w v) : Calls Tryd.prog 69 #[v] w fun e w' => e = .returned (.bool true) ∧ w' = w := by
  rcases h with rfl | ⟨t, x, y, rfl, h⟩
  · exact babsent_no w
  · exact babsent_zero t x y w h
theorem may_nil (v : Value) (i : Int) (w : World) (h : NoBits w v) : Calls Tryd.prog 71 #[v, .int .i64 i] w fun e w' => e = .returned (.bool false) ∧ w' = w := by
  have A := hid0 (babsent_nil v w h)
  clear h
  go_enter Tryd.func71, Tryd.ntmps71
  go_wp2_with (go_at_call 69; refine A.out.mono ?_; rintro e w1 ⟨rfl, hw⟩; cases hw)
  go_ret
  exact ⟨rfl, rfl⟩
section
variable {w : World} {b g : Nat} {T : List Bool} {W : List Nat}
theorem may_any (h : BitsIs w b g T W) (i : Int) : Calls Tryd.prog 71 #[pT b, .int .i64 i] w fun e w' => e = .returned (.bool (decide (0 ≤ i) && decide (i < (T.length : Int)))) ∧ w' = w := by
  have A := hid0 (babsent_yes b w h.c0)
  have c1 := h.c1
  clear h
  generalize (T.length : Int) = n at *
  by_cases h1 : 0 ≤ i
  · have d1 : decide (i ≥ 0) = true := decide_eq_true h1
    have d2 : decide (0 ≤ i) = true := decide_eq_true h1
    go_enter Tryd.func71, Tryd.ntmps71
    go_wp2_with (go_at_call 69; refine A.out.mono ?_; rintro e w1 ⟨rfl, hw⟩; cases hw)
    go_ret
    exact ⟨by simp [h1], rfl⟩
  · have d1 : decide (i ≥ 0) = false := decide_eq_false h1
    have d2 : decide (0 ≤ i) = false := decide_eq_false h1
    go_enter Tryd.func71, Tryd.ntmps71
    go_wp2_with (go_at_call 69; refine A.out.mono ?_; rintro e w1 ⟨rfl, hw⟩; cases hw)
    go_ret
    exact ⟨by simp; omega, rfl⟩
end
theorem mask_any (k : Nat) (hk : k ≤ 65536) (w : World) : Calls Tryd.prog 75 #[.int .i64 (k : Int)] w fun e w' => e = .returned (.int .u64 ((2 ^ (k % 64) : Nat) : Int)) ∧ w' = w := by
  have e : IntKind.u64.wrap (2 ^ (k % 64)) = ((2 ^ (k % 64) : Nat) : Int) := by
    have := pow_lt64 (Nat.mod_lt k (show 0 < 64 by omega))
    have e2 : ((2 ^ (k % 64) : Nat) : Int) = (2 : Int) ^ (k % 64) := by simp
    rw [IntKind.wrap_u64, ← e2]
    generalize 2 ^ (k % 64) = M at *
    omega
  go_enter Tryd.func75, Tryd.ntmps75
  go_wp2
  go_ret
  exact ⟨congrArg (fun z => Ending.returned (.int .u64 z)) e, rfl⟩
theorem bits_andNot_u64_nat (a b : Nat) (ha : a < 18446744073709551616) (hb : b < 18446744073709551616) :
    bits .andNot .u64 (a : Int) (b : Int) = ((a &&& (18446744073709551615 - b) : Nat) : Int) := by
  have hx : a &&& (18446744073709551615 - b) < 2 ^ 64 := Nat.and_lt_two_pow _ (Nat.lt_of_le_of_lt (Nat.sub_le _ _) (by decide))
  have h1 : (BitVec.ofInt 64 (a : Int)).toNat = a := by
    rw [BitVec.ofInt_natCast, BitVec.toNat_ofNat]; exact Nat.mod_eq_of_lt (by omega)
  have h2 : (BitVec.ofInt 64 (b : Int)).toNat = b := by
    rw [BitVec.ofInt_natCast, BitVec.toNat_ofNat]; exact Nat.mod_eq_of_lt (by omega)
  show IntKind.u64.wrap ((BitVec.ofInt 64 (a : Int) &&& ~~~ BitVec.ofInt 64 (b : Int)).toNat : Int) = _
  rw [BitVec.toNat_and, BitVec.toNat_not, h1, h2, IntKind.wrap_u64]
  have e : 2 ^ 64 - 1 - b = 18446744073709551615 - b := by omega
  rw [e]
  omega
theorem calm {P : Program} {f : FuncId} {args : Array Value} {v : Value} {W : World} (h : ∀ w, Gr W w → Calls P f args w fun e w' => e = .returned v ∧ w' = w) (m : Nat) (os : Array Obj) : Calls P f args (grow (W.drewN m) os) fun e w' => e = .returned v ∧ ∃ p : GrownBy, w' = grow (W.drewN p.n) p.os :=
  (h _ ⟨m, os, rfl⟩).mono fun _ _ ⟨h1, h2⟩ => ⟨h1, ⟨m, os⟩, h2⟩
theorem calmG {P : Program} {f : FuncId} {args : Array Value} {v : Value} {W : World} (h : ∀ w, Gr W w → Calls P f args w fun e w' => e = .returned v ∧ Gr w w') (m : Nat) (os : Array Obj) : Calls P f args (grow (W.drewN m) os) fun e w' => e = .returned v ∧ ∃ p : GrownBy, w' = grow (W.drewN p.n) p.os :=
  (h _ ⟨m, os, rfl⟩).mono fun _ _ ⟨h1, h2⟩ => ⟨h1, by
    obtain ⟨q, o2, e⟩ := (show Gr W _ from ⟨m, os, rfl⟩).trans h2
    exact ⟨⟨q, o2⟩, e⟩⟩
/-- Is i in it? -/
def hasB (T : List Bool) (i : Int) : Bool := decide (0 ≤ i) && T.getD i.toNat false
section
variable {w : World} {b g : Nat} {T : List Bool} {W : List Nat}
theorem has_in (h : BitsIs w b g T W) (k : Nat) (hk : k < T.length) : Calls Tryd.prog 53 #[pT b, .int .i64 (k : Int)] w fun e w' => e = .returned (.bool (T.getD k false)) ∧ Gr w w' := by
  have hm := h.most
  have hkl : k / 64 < W.length := by have := h.rep.len; omega
  have MY : Hid (∀ n os, Calls Tryd.prog 71 #[pT b, .int .i64 (k : Int)] (grow (w.drewN n) os) fun e w' => e = .returned (.bool true) ∧ ∃ p : GrownBy, w' = grow (w.drewN p.n) p.os) := fun n os => calm (fun w' g' => by
    have := may_any (h.gr g') (k : Int)
    rwa [show (decide (0 ≤ (k : Int)) && decide ((k : Int) < (T.length : Int))) = true by simp; omega] at this) n os
  have MK : Hid (∀ n os, Calls Tryd.prog 75 #[.int .i64 (k : Int)] (grow (w.drewN n) os) fun e w' => e = .returned (.int .u64 ((2 ^ (k % 64) : Nat) : Int)) ∧ ∃ p : GrownBy, w' = grow (w.drewN p.n) p.os) := fun n os => calm (fun w' g' => mask_any k (by omega) w') n os
  have hb : bits .and .u64 ((W.getD (k / 64) 0 : Nat) : Int) ((2 ^ (k % 64) : Nat) : Int) = ((W.getD (k / 64) 0 &&& 2 ^ (k % 64) : Nat) : Int) := bits_and_u64_nat _ _ (h.rep.word _) (pow_lt64 (Nat.mod_lt _ (by omega)))
  have hne : (W.getD (k / 64) 0 &&& 2 ^ (k % 64) ≠ 0) ↔ T.getD k false = true := by rw [and_pow_ne, ← h.rep.is k]; rfl
  have c2 := cell_gr h.c2
  have cw := cell_gr (h.word hkl)
  clear h
  generalize W.getD (k / 64) 0 &&& 2 ^ (k % 64) = Y at *
  generalize W.getD (k / 64) 0 = X at *
  generalize 2 ^ (k % 64) = M at *
  generalize T.getD k false = D at *
  have hD : Hid (((Y : Int) != 0) = D) := by
    cases D with
    | true => have := hne.2 rfl; show ((Y : Int) != 0) = true; simp; exact this
    | false => have : ¬ (Y ≠ 0) := fun e => by have := hne.1 e; cases this
               show ((Y : Int) != 0) = false; simp; omega
  clear hne
  have hkl' : (k : Int) / 64 < (W.length : Int) := by omega
  go_enter Tryd.func53, Tryd.ntmps53
  go_upto_region 1 with fail
  refine wp_region_quiet_grown (by kernel_rfl) (by kernel_rfl) ?_
  repeat (go_big_quiet_step (first | exact MY.out _ _ | exact MK.out _ _))
  refine wpQuiet_nil ?_
  intro _ hw'
  obtain ⟨⟨nq, osq⟩, hw''⟩ := hw'
  subst hw''
  have gg : Gr w (grow (w.drewN nq) osq) := ⟨nq, osq, rfl⟩
  go_wp2
  go_ret
  exact ⟨by rw [← hD.out]; rfl, gg⟩
theorem has_out (h : BitsIs w b g T W) (i : Int) (hi : i < 0 ∨ (T.length : Int) ≤ i) : Calls Tryd.prog 53 #[pT b, .int .i64 i] w fun e w' => e = .returned (.bool false) ∧ Gr w w' := by
  have MY : Hid (∀ n os, Calls Tryd.prog 71 #[pT b, .int .i64 i] (grow (w.drewN n) os) fun e w' => e = .returned (.bool false) ∧ ∃ p : GrownBy, w' = grow (w.drewN p.n) p.os) := fun n os => calm (fun w' g' => by
    have := may_any (h.gr g') i
    rwa [show (decide (0 ≤ i) && decide (i < (T.length : Int))) = false by simp; omega] at this) n os
  clear h
  go_enter Tryd.func53, Tryd.ntmps53
  go_upto_region 1 with fail
  refine wp_region_quiet_grown (by kernel_rfl) (by kernel_rfl) ?_
  repeat (go_big_quiet_step (exact MY.out _ _))
  refine wpQuiet_nil ?_
  intro _ hw'
  obtain ⟨⟨nq, osq⟩, hw''⟩ := hw'
  subst hw''
  have gg : Gr w (grow (w.drewN nq) osq) := ⟨nq, osq, rfl⟩
  go_wp2
  go_ret
  exact ⟨rfl, gg⟩
theorem hasB_out {i : Int} (hi : i < 0 ∨ (T.length : Int) ≤ i) : hasB T i = false := by
  unfold hasB
  rcases hi with h | h
  · rw [decide_eq_false (by omega)]; rfl
  · rw [List.getD_eq_getElem?_getD, List.getElem?_eq_none (by omega)]; simp
theorem hasB_nat (k : Nat) : hasB T (k : Int) = T.getD k false := by unfold hasB; rw [decide_eq_true (by omega : (0 : Int) ≤ (k : Int)), Bool.true_and, Int.toNat_natCast]
theorem has_any (h : BitsIs w b g T W) (i : Int) : Calls Tryd.prog 53 #[pT b, .int .i64 i] w fun e w' => e = .returned (.bool (hasB T i)) ∧ Gr w w' := by
  by_cases hi : i < 0 ∨ (T.length : Int) ≤ i
  · rw [hasB_out hi]; exact has_out h i hi
  · obtain ⟨k, rfl⟩ : ∃ k : Nat, i = k := ⟨i.toNat, by omega⟩
    rw [hasB_nat]
    exact has_in h k (by omega)
theorem calmD {P : Program} {f : FuncId} {args : Array Value} {v : Value} {W : World} (h : ∀ w, Gr W w → Calls P f args w fun e w' => e = .returned v ∧ w' = w) (m : Nat) : Calls P f args (W.drewN m) fun e w' => e = .returned v ∧ ∃ m, w' = W.drewN m :=
  (h _ ((Gr.refl W).drewN m)).mono fun _ _ ⟨h1, h2⟩ => ⟨h1, m, h2⟩
theorem BitsIs.put (h : BitsIs w b g T W) {T' : List Bool} {k x : Nat} (hr : Rep T' (W.set k x)) (hl : T'.length = T.length) : BitsIs (w.setCell ⟨g, k, none⟩ (.int .u64 (x : Int))) b g T' (W.set k x) := by
  have hbg : b ≠ g := fun e => by subst e; have := bk_ty h.blk h.row; cases this
  refine ⟨?_, ?_, hr, by rw [hl]; exact h.most⟩
  · rw [hl, List.length_set]
    exact h.blk.other (a := ⟨g, k, none⟩) hbg _
  · rw [List.map_set]
    exact h.row.set k _
set_option maxHeartbeats 1000000 in
theorem add_yes (h : BitsIs w b g T W) (k : Nat) (hk : k < T.length) (hn : T.getD k false = false) : Calls Tryd.prog 51 #[pT b, .int .i64 (k : Int)] w fun e w' => e = .returned (.bool true) ∧ (∃ W', BitsIs w' b g (T.set k true) W') ∧ Chg (fun j => j = g) w w' := by
  have hm := h.most
  have hkl : k / 64 < W.length := by have := h.rep.len; omega
  have MY := hid0 (may_any h (k : Int))
  rw [show (decide (0 ≤ (k : Int)) && decide ((k : Int) < (T.length : Int))) = true by simp; omega] at MY
  have HS := hid0 (has_in h k hk)
  rw [hn] at HS
  have H := hid0 h
  clear h
  go_enter Tryd.func51, Tryd.ntmps51
  go_wp2_with (first | (go_at_call 71; refine MY.out.mono ?_; rintro e w1 ⟨rfl, hw⟩; cases hw) | fail)
  go_upto_region 3 with (go_at_call 53; refine HS.out.mono ?_; rintro e w1 ⟨rfl, hG⟩)
  have H1 := hid0 (H.out.gr hG)
  have MK : Hid (∀ m, Calls Tryd.prog 75 #[.int .i64 (k : Int)] (w1.drewN m) fun e w' => e = .returned (.int .u64 ((2 ^ (k % 64) : Nat) : Int)) ∧ ∃ m, w' = w1.drewN m) := fun m => calmD (fun w' g' => mask_any k (by omega) w') m
  have hb : bits .or .u64 ((W.getD (k / 64) 0 : Nat) : Int) ((2 ^ (k % 64) : Nat) : Int) = ((W.getD (k / 64) 0 ||| 2 ^ (k % 64) : Nat) : Int) := bits_or_u64_nat _ _ (H.out.rep.word _) (pow_lt64 (Nat.mod_lt _ (by omega)))
  have c2 := fun m => below_cell H1.out.c2 ((Gr.refl w1).drewN m).below
  have cw := fun m => below_cell (H1.out.word hkl) ((Gr.refl w1).drewN m).below
  have fw := fun m => (H1.out.row.gr ((Gr.refl w1).drewN m)).frozen (k / 64)
  have RA := hid0 (fun m => ((H1.out.gr ((Gr.refl w1).drewN m)).put (H.out.rep.add hk) (by simp)))
  have CA := hid0 (fun m => (Chg.of_gr (p := fun j => j = g) (hG.drewN m)).trans (Chg.set (p := fun j => j = g) (w1.drewN m) (a := ⟨g, k / 64, none⟩) rfl (.int .u64 ((W.getD (k / 64) 0 ||| 2 ^ (k % 64) : Nat) : Int))))
  have hkl' : (k : Int) / 64 < (W.length : Int) := by omega
  clear MY HS H H1 hG hn
  generalize W.getD (k / 64) 0 ||| 2 ^ (k % 64) = Y at *
  generalize W.getD (k / 64) 0 = X at *
  generalize 2 ^ (k % 64) = M at *
  obtain ⟨nF, hnF⟩ : ∃ nF : Nat, 5 ≤ nF := ⟨5, by omega⟩
  refine (wpIn_wide (n := nF)).1 ?_
  refine region_head_lit 12 (by kernel_rfl) (by kernel_rfl) (by simp) (by kernel_rfl) ?_
  simp only [List.take_succ_cons, List.take_zero, List.drop_succ_cons, List.drop_zero]
  repeat (gi_big_quiet_step (fail))
  refine BigFrame.wpQuietIn_want (by intro w _ f hf; exact trivial) (by rfl) ?_
  intro K hK
  gi_big_quiet_op
  gi_big_quiet_call (exact ⟨fun _ => by omega, callsIn_wide.2 (MK.out _)⟩)
  repeat (gi_big_quiet_step (fail))
  refine wpQuietIn_nil ?_
  intro _ hw'
  obtain ⟨q, rfl⟩ := hw'
  gi_wp2
  go_wp2
  go_ret
  exact ⟨rfl, ⟨_, RA.out q⟩, CA.out q⟩
set_option maxHeartbeats 1000000 in
theorem del_yes (h : BitsIs w b g T W) (k : Nat) (hk : k < T.length) (hn : T.getD k false = true) : Calls Tryd.prog 56 #[pT b, .int .i64 (k : Int)] w fun e w' => e = .returned (.bool true) ∧ (∃ W', BitsIs w' b g (T.set k false) W') ∧ Chg (fun j => j = g) w w' := by
  have hm := h.most
  have hkl : k / 64 < W.length := by have := h.rep.len; omega
  have HS := hid0 (has_in h k hk)
  rw [hn] at HS
  have H := hid0 h
  clear h
  go_enter Tryd.func56, Tryd.ntmps56
  go_upto_region 3 with (go_at_call 53; refine HS.out.mono ?_; rintro e w1 ⟨rfl, hG⟩)
  have H1 := hid0 (H.out.gr hG)
  have MK : Hid (∀ m, Calls Tryd.prog 75 #[.int .i64 (k : Int)] (w1.drewN m) fun e w' => e = .returned (.int .u64 ((2 ^ (k % 64) : Nat) : Int)) ∧ ∃ m, w' = w1.drewN m) := fun m => calmD (fun w' g' => mask_any k (by omega) w') m
  have hb : bits .andNot .u64 ((W.getD (k / 64) 0 : Nat) : Int) ((2 ^ (k % 64) : Nat) : Int) = ((W.getD (k / 64) 0 &&& (18446744073709551615 - 2 ^ (k % 64)) : Nat) : Int) := bits_andNot_u64_nat _ _ (H.out.rep.word _) (pow_lt64 (Nat.mod_lt _ (by omega)))
  have c2 := fun m => below_cell H1.out.c2 ((Gr.refl w1).drewN m).below
  have cw := fun m => below_cell (H1.out.word hkl) ((Gr.refl w1).drewN m).below
  have fw := fun m => (H1.out.row.gr ((Gr.refl w1).drewN m)).frozen (k / 64)
  have RA := hid0 (fun m => ((H1.out.gr ((Gr.refl w1).drewN m)).put (H.out.rep.del hk) (by simp)))
  have CA := hid0 (fun m => (Chg.of_gr (p := fun j => j = g) (hG.drewN m)).trans (Chg.set (p := fun j => j = g) (w1.drewN m) (a := ⟨g, k / 64, none⟩) rfl (.int .u64 ((W.getD (k / 64) 0 &&& (18446744073709551615 - 2 ^ (k % 64)) : Nat) : Int))))
  have hkl' : (k : Int) / 64 < (W.length : Int) := by omega
  clear HS H H1 hG hn
  generalize W.getD (k / 64) 0 &&& (18446744073709551615 - 2 ^ (k % 64)) = Y at *
  generalize W.getD (k / 64) 0 = X at *
  generalize 2 ^ (k % 64) = M at *
  obtain ⟨nF, hnF⟩ : ∃ nF : Nat, 5 ≤ nF := ⟨5, by omega⟩
  refine (wpIn_wide (n := nF)).1 ?_
  refine region_head_lit 12 (by kernel_rfl) (by kernel_rfl) (by simp) (by kernel_rfl) ?_
  simp only [List.take_succ_cons, List.take_zero, List.drop_succ_cons, List.drop_zero]
  repeat (gi_big_quiet_step (fail))
  refine BigFrame.wpQuietIn_want (by intro w _ f hf; exact trivial) (by rfl) ?_
  intro K hK
  gi_big_quiet_op
  gi_big_quiet_call (exact ⟨fun _ => by omega, callsIn_wide.2 (MK.out _)⟩)
  repeat (gi_big_quiet_step (fail))
  refine wpQuietIn_nil ?_
  intro _ hw'
  obtain ⟨q, rfl⟩ := hw'
  gi_wp2
  go_wp2
  go_ret
  exact ⟨rfl, ⟨_, RA.out q⟩, CA.out q⟩
theorem add_no (h : BitsIs w b g T W) (i : Int) (hi : (i < 0 ∨ (T.length : Int) ≤ i) ∨ hasB T i = true) : Calls Tryd.prog 51 #[pT b, .int .i64 i] w fun e w' => e = .returned (.bool false) ∧ Gr w w' := by
  have MY := hid0 (may_any h i)
  have HS := hid0 (has_any h i)
  clear h
  by_cases ho : i < 0 ∨ (T.length : Int) ≤ i
  · rw [show (decide (0 ≤ i) && decide (i < (T.length : Int))) = false by simp; omega] at MY
    clear hi ho HS
    go_enter Tryd.func51, Tryd.ntmps51
    go_wp2_with (go_at_call 71; refine MY.out.mono ?_; rintro e w1 ⟨rfl, hw⟩; cases hw)
    go_ret
    exact ⟨rfl, Gr.refl _⟩
  · rw [show (decide (0 ≤ i) && decide (i < (T.length : Int))) = true by simp; omega] at MY
    rw [hi.resolve_left ho] at HS
    clear hi ho
    go_enter Tryd.func51, Tryd.ntmps51
    go_wp2_with (first | (go_at_call 71; refine MY.out.mono ?_; rintro e w1 ⟨rfl, hw⟩; cases hw) | (go_at_call 53; refine HS.out.mono ?_; rintro e w1 ⟨rfl, hG⟩))
    go_ret
    exact ⟨rfl, hG⟩
theorem del_no (h : BitsIs w b g T W) (i : Int) (hi : hasB T i = false) : Calls Tryd.prog 56 #[pT b, .int .i64 i] w fun e w' => e = .returned (.bool false) ∧ Gr w w' := by
  have HS := hid0 (has_any h i)
  rw [hi] at HS
  clear h hi
  go_enter Tryd.func56, Tryd.ntmps56
  go_wp2_with (go_at_call 53; refine HS.out.mono ?_; rintro e w1 ⟨rfl, hG⟩)
  go_ret
  exact ⟨rfl, hG⟩
end
end Go.Proofs.YtgdmbcfjjdngdaaDoor
