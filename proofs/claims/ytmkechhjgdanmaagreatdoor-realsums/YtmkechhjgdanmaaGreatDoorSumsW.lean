/- The law RealSums, walked: for any words and any way the call returns true, and the memory that was there is as it was. -/
import Derived.Test.YtmkechhjgdanmaaGreatDoorSumsC
import Derived.Test.YtmkechhjgdanmaaGreatDoorLives
import Derived.OneCell
namespace Go.Proofs.YtmkechhjgdanmaaGreatDoor
open Go.RowKit Go.Sort

theorem own_set {w : World} {X n g cap i x : Nat} {m : List Nat} (h : w.ownsRow X 23 1 (.slice (some ⟨g, 0, none⟩) n cap) n (fls m)) (_hi : i < n) :
    (w.setCell ⟨g, i, none⟩ (.float .f64 x)).ownsRow X 23 1 (.slice (some ⟨g, 0, none⟩) n cap) n (fls (m.set i x)) := by
  obtain ⟨h1, h2⟩ := h
  rcases h2 with ⟨h2, _⟩ | ⟨b, c, cur, h3, h4, h5, h6, h7, h8, h9⟩
  · cases h2
  · cases h3
    refine ⟨by rw [fls_len] at *; rw [List.length_set]; exact h1, .inr ⟨g, cap, cur.setIfInBounds i (.float .f64 x), rfl, h4, ?_, h6, h7, by rw [Array.size_setIfInBounds]; exact h8, ?_⟩⟩
    · have hb := lt_of_block h5
      have h' : w.heap[g] = .cells cur 23 (0, 0) := by simpa [Array.getElem?_eq_getElem hb] using h5
      show (w.heap.modify g _)[g]? = _
      rw [Array.getElem?_eq_getElem (by simpa using hb), Array.getElem_modify_self, h']
      rfl
    · rw [Array.toList_setIfInBounds, List.take_set, h9]
      simp [fls, List.map_set]
/-- A row of n + 1 words, as a slice of n. -/
theorem Fs.of_row {w : World} {X n g cap : Nat} {m : List Nat} (h : w.ownsRow X 23 1 (.slice (some ⟨g, 0, none⟩) (n + 1) cap) (n + 1) (fls m)) (hm : m.length = n + 1) : Fs w (.slice (some ⟨g, 0, none⟩) (m.take n).length cap) (m.take n) := by
  refine .inr ⟨g, cap, rfl, fun i hi => ?_⟩
  have hi' : i < n := by rw [List.length_take] at hi; omega
  rw [own_cell h i (by omega)]
  have : i < m.length := by omega
  simp [fls, List.getD, hi', this]
theorem row_cell {w : World} {X n g cap : Nat} {m : List Nat} (h : w.ownsRow X 23 1 (.slice (some ⟨g, 0, none⟩) n cap) n (fls m)) (hm : m.length = n) (i : Nat) (hi : i < n) : w.cell? ⟨g, i, none⟩ = some (.float .f64 (m.getD i 0)) ∧ w.frozen? ⟨g, i, none⟩ = false := by
  refine ⟨?_, ?_⟩
  · rw [own_cell h i hi]
    have : i < m.length := by omega
    simp [fls, List.getD, this]
  · rcases h.2 with ⟨h2, _⟩ | ⟨b, c, cur, h3, h4, h5, h6⟩
    · cases h2
    · cases h3; simp [World.frozen?, h5]
theorem own_ge {w : World} {X e size n g o cap : Nat} {xs : List Value} (h : w.ownsRow X e size (.slice (some ⟨g, o, none⟩) n cap) n xs) : X ≤ g := by
  rcases h.2 with ⟨h2, _⟩ | ⟨b, c, cur, h3, h4, _⟩
  · cases h2
  · cases h3; exact h4
theorem take_lt {m : List Nat} (h : ∀ i, m.getD i 0 < 18446744073709551616) (n : Nat) : ∀ i, (m.take n).getD i 0 < 18446744073709551616 := fun i => by
  by_cases hi : i < n
  · have := h i
    simpa [List.getD, hi] using this
  · have : (m.take n).getD i 0 = 0 := by
      rw [List.getD_eq_getElem?_getD, List.getElem?_eq_none (by rw [List.length_take]; omega)]; rfl
    rw [this]; decide
set_option maxRecDepth 20000 in
set_option maxHeartbeats 6400000 in
theorem sums_walk (v : Value) (l : List Nat) (dx dy : Int) (w : World) (hv : Zs w .u64 v (l.map fun (b : Nat) => (b : Int))) (hl : ∀ i, l.getD i 0 < 18446744073709551616) (hn : l.length * 8 ≤ 140737488351232)
    (hx : -9223372036854775808 ≤ dx ∧ dx ≤ 9223372036854775807) (hy : -9223372036854775808 ≤ dy ∧ dy ≤ 9223372036854775807) (hP : LvP w) (hF : LvF w) :
    Calls Tryz.prog 5 #[v, .int .i64 dx, .int .i64 dy] w fun e w' => e = .returned (.bool true) ∧ Below w.heap.size w w' := by
  obtain ⟨lr, llr, hl1, hl2⟩ := lengths dx dy hx hy
  have L1 := hid' hl1
  have L2 := hid' hl2
  have N1 := hid' (fun w' (g : Below w.heap.size w w') => numbers_any v l w' (by
    obtain ⟨ao, cap, rfl, hc⟩ := hv
    exact ⟨ao, cap, rfl, fun i hi => by
      obtain ⟨b, off, e, h⟩ := hc i hi
      exact ⟨b, off, e, below_cell h g⟩⟩) hn)
  have HP := hid' hP
  have HF := hid' hF
  have HL := hid' hl
  have olr : FloatKind.f64.format.order lr lr = some .eq := self_num (by omega) (by unfold isN; omega)
  have hmL : Hid (∀ i, (l ++ [4635118810238550016]).getD i 0 < 18446744073709551616) := fun i => by
    by_cases hi : i < l.length
    · have := hl i
      simpa [List.getD, List.getElem?_append_left hi] using this
    · by_cases hi2 : i = l.length
      · subst hi2; simp [List.getD]
      · have : (l ++ [4635118810238550016]).getD i 0 = 0 := by
          rw [List.getD_eq_getElem?_getD, List.getElem?_eq_none (by simp; omega)]; rfl
        rw [this]; decide
  clear hv hl hl1 hl2 hx hy hP hF llr
  go_enter Tryz.func5, Tryz.ntmps5
  go_upto_region 2 with (go_at_call 25; refine (N1.out _ (Below.refl _ _)).mono ?_; rintro e w1 ⟨g1, cap1, rfl, o1, b1⟩)
  go_upto_region 3 with (go_at_call 25; refine (N1.out _ b1).mono ?_; rintro e w2 ⟨g2, cap2, rfl, o2, b2⟩)
  have hg12 : g1 ≠ g2 := by
    have h1 := own_lt o1
    rcases o2.2 with ⟨h, _⟩ | ⟨b, c, cur, h3, h4, h5, h6⟩
    · cases h
    · cases h3; omega
  have hcap1 : l.length + 1 ≤ cap1 := by
    rcases o1.2 with ⟨h, _⟩ | ⟨b, c, cur, h3, h4, h5, h6⟩
    · cases h
    · cases h3; exact h6.1
  have o1' := own_below o1 b2
  have hb12 : Below w.heap.size w w2 := b1.trans (b2.mono b1.size)
  have ho2X : w2.ownsRow w.heap.size 23 1 (.slice (some ⟨g2, 0, none⟩) (l.length + 1) cap2) (l.length + 1) (fls (l ++ [4635118810238550016])) := by
    rcases o2.2 with ⟨h, _⟩ | ⟨b, c, cur, h3, h4, h5⟩
    · cases h
    · exact ⟨o2.1, .inr ⟨b, c, cur, h3, Nat.le_trans b1.size h4, h5⟩⟩
  have O1 := hid' o1'
  have O2 := hid' ho2X
  have HB := hid' hb12
  clear o1 o2 b1 b2 o1' ho2X hb12 N1
  have htk : (l ++ [4635118810238550016]).take l.length = l := by simp
  have hF1 : Fs w2 (.slice (some ⟨g1, 0, none⟩) l.length cap1) l := by
    have h := Fs.of_row O1.out (by simp)
    rw [htk] at h; exact h
  have hF2 : Fs w2 (.slice (some ⟨g2, 0, none⟩) l.length cap2) l := by
    have h := Fs.of_row O2.out (by simp)
    rw [htk] at h; exact h
  have S1 := hid' (fun W (g : Gr w2 W) => sum_any _ l W (hF1.mono g.below) HL.out (by omega))
  have M1 := hid' (fun W (g : Gr w2 W) => mean_any _ _ l W (hF1.mono g.below) HL.out (by omega))
  have S2 := hid' (fun W (g : Gr w2 W) => rsum_any _ l W (hF2.mono g.below) HL.out (by omega))
  have M2 := hid' (fun W (g : Gr w2 W) => rmean_any _ _ l W (hF2.mono g.below) HL.out (by omega))
  have C77 : Hid (∀ W, Gr w2 W → W.cell? ⟨g1, l.length, none⟩ = some (.float .f64 4635118810238550016)) := fun W g => by
    have h := (row_cell O1.out (by simp) l.length (by omega)).1
    have e : (l ++ [4635118810238550016]).getD l.length 0 = 4635118810238550016 := by simp [List.getD]
    rw [e] at h
    exact below_cell h g.below
  have SS : Hid (∀ r r', sumR l r → sumR l r' → sim r r') := fun r r' h h' => sumR_sim rfl (fun _ => .inl rfl) h h'
  have MM : Hid (∀ r r', meanR l r → meanR l r' → sim r r') := fun r r' h h' => meanR_sim rfl (fun _ => .inl rfl) h h'
  have o77 : FloatKind.f64.format.order 4635118810238550016 4635118810238550016 = some .eq := by decide
  clear htk hF1 hF2
  go_upto_region 4 with (go_at_call 26; refine (S1.out _ (Gr.refl _)).mono ?_; rintro e w3 ⟨r1, rfl, hr1, g3⟩)
  go_upto_region 5 with (go_at_call 27; refine (M1.out _ g3).mono ?_; rintro e w4 ⟨m1, rfl, hm1, g4⟩)
  have G4 := hid' (g3.trans g4)
  have q1 := sumR_lt hr1
  have q2 := meanR_lt hm1
  have R1 := hid' hr1
  have R2 := hid' hm1
  clear g3 g4 hr1 hm1 S1 M1
  go_upto_region 7 with (first
    | (go_at_call 28; refine (S2.out _ G4.out).mono ?_; rintro e w5 ⟨r2, rfl, hr2, g5⟩; have s1 := SS.out _ _ R1.out hr2)
    | (go_at_call 29; refine (M2.out _ (G4.out.trans g5)).mono ?_; rintro e w6 ⟨m2, rfl, hm2, g6⟩; have s2 := MM.out _ _ R2.out hm2; have c7 := C77.out _ ((G4.out.trans g5).trans g6))
    | (go_at_call 18; refine (alike_any _ _ _ (by assumption) (by assumption)).mono ?_; rintro e wz ⟨rfl, rfl⟩))
  have G6 := hid' ((G4.out.trans g5).trans g6)
  clear g5 g6 hr2 hm2 s1 s2 c7 G4 S2 M2 C77 SS MM R1 R2 q1 q2 HL
  have I0 : Hid (∃ m : List Nat, m.length = l.length + 1 ∧ (∀ k, m.getD k 0 < 18446744073709551616) ∧ wz.ownsRow w.heap.size 23 1 (.slice (some ⟨g1, 0, none⟩) (l.length + 1) cap1) (l.length + 1) (fls m) ∧ wz.ownsRow w.heap.size 23 1 (.slice (some ⟨g2, 0, none⟩) (l.length + 1) cap2) (l.length + 1) (fls m) ∧ RowKit.Below w.heap.size w wz) :=
    ⟨_, by simp, hmL.out, own_below O1.out G6.out.below, own_below O2.out G6.out.below, HB.out.trans (G6.out.below.mono HB.out.size)⟩
  clear O1 O2 HB G6 hmL
  have sf := run_store_f
  go_wp2
  go_loopw [11] (fun v11 wr => ∃ (i : Nat), i ≤ l.length ∧ v11 = .int .i64 i ∧ Hid (∃ m : List Nat, m.length = l.length + 1 ∧ (∀ k, m.getD k 0 < 18446744073709551616) ∧ wr.ownsRow w.heap.size 23 1 (.slice (some ⟨g1, 0, none⟩) (l.length + 1) cap1) (l.length + 1) (fls m) ∧ wr.ownsRow w.heap.size 23 1 (.slice (some ⟨g2, 0, none⟩) (l.length + 1) cap2) (l.length + 1) (fls m) ∧ Below w.heap.size w wr)) (fun v11 _ => l.length - (intOf v11).toNat)
  case atStart => exact ⟨0, by omega, rfl, I0⟩
  case round =>
    clear I0
    obtain ⟨i, hi, rfl, hI⟩ := hrel
    obtain ⟨m, hm, hml, o1, o2, hb⟩ := hI.out
    clear hI
    by_cases hlt : i < l.length
    · have r1 := fun n os => below_cell (row_cell o1 hm i (by omega)).1 (Gr.below ⟨n, os, rfl⟩)
      have r2 := fun n os => below_cell (row_cell o2 hm i (by omega)).1 (Gr.below ⟨n, os, rfl⟩)
      have O1 := hid' o1
      have O2 := hid' o2
      have HB := hid' hb
      have HM := hid' hm
      have HML := hid' hml
      clear o1 o2 hb hm hml
      generalize hgx : m.getD i 0 = x at *
      clear hgx
      have e30 : ∀ w, (callFunc 30 #[.float .f64 x]).run Tryz.prog w = .ok (.value (.int .u64 (x : Int))) w := run30 x
      go_wp2
      refine wp_region_quiet_grown (by kernel_rfl) (by kernel_rfl) ?_
      repeat (go_big_quiet_step ((fail)))
      refine wpQuiet_nil ?_
      intro _ hw'
      obtain ⟨⟨nq, osq⟩, hw''⟩ := hw'
      subst hw''
      have g3 : Gr wr (grow (wr.drewN nq) osq) := ⟨nq, osq, rfl⟩
      replace O1 := hid' (own_below O1.out g3.below)
      replace O2 := hid' (own_below O2.out g3.below)
      replace HB := hid' (HB.out.trans (g3.below.mono HB.out.size))
      clear r1 r2 e30 g3
      show Exit.then _ _ Exit.normal _ (grow (wr.drewN nq) osq)
      generalize grow (wr.drewN nq) osq = W3 at *
      have c1 := (row_cell O1.out HM.out i (by omega)).1
      have f1 := (row_cell O1.out HM.out i (by omega)).2
      have c2 := (row_cell O2.out HM.out i (by omega)).1
      have f2 := (row_cell O2.out HM.out i (by omega)).2
      have hx1 := own_ge O1.out
      have hx2 := own_ge O2.out
      have I2 : Hid (∃ m : List Nat, m.length = l.length + 1 ∧ (∀ k, m.getD k 0 < 18446744073709551616) ∧ ((W3.setCell ⟨g1, i, none⟩ (.float .f64 (floatOfInt .f64 (i : Int)))).setCell ⟨g2, i, none⟩ (.float .f64 (floatOfInt .f64 (i : Int)))).ownsRow w.heap.size 23 1 (.slice (some ⟨g1, 0, none⟩) (l.length + 1) cap1) (l.length + 1) (fls m) ∧ ((W3.setCell ⟨g1, i, none⟩ (.float .f64 (floatOfInt .f64 (i : Int)))).setCell ⟨g2, i, none⟩ (.float .f64 (floatOfInt .f64 (i : Int)))).ownsRow w.heap.size 23 1 (.slice (some ⟨g2, 0, none⟩) (l.length + 1) cap2) (l.length + 1) (fls m) ∧ RowKit.Below w.heap.size w ((W3.setCell ⟨g1, i, none⟩ (.float .f64 (floatOfInt .f64 (i : Int)))).setCell ⟨g2, i, none⟩ (.float .f64 (floatOfInt .f64 (i : Int))))) := by
        refine ⟨m.set i (floatOfInt .f64 (i : Int)), by rw [List.length_set]; exact HM.out, fun k => ?_, ?_, ?_, ?_⟩
        · by_cases hk : i = k
          · subst hk
            have : i < m.length := by have := HM.out; omega
            simp [List.getD, this]
            exact floatOfInt_lt _
          · have := HML.out k
            simpa [List.getD, List.getElem?_set_ne hk] using this
        · exact ownsRow_setCell_other (own_set O1.out (by omega)) (a := ⟨g2, i, none⟩) (fun e => hg12 (Option.some.inj e)) _
        · exact own_set (ownsRow_setCell_other O2.out (a := ⟨g1, i, none⟩) (fun e => hg12 (Option.some.inj e).symm) _) (by omega)
        · exact (HB.out.setCell (p := ⟨g1, i, none⟩) hx1 _).setCell (p := ⟨g2, i, none⟩) hx2 _
      clear O1 O2 HB HM HML hx1 hx2
      have hg21 : g2 ≠ g1 := Ne.symm hg12
      go_wp2
      go_roundw
      case rel => exact ⟨i + 1, by omega, by go_num, I2⟩
      case measure => simp [intOf]; omega
    · obtain rfl : i = l.length := by omega
      have hF1 : Fs wr (.slice (some ⟨g1, 0, none⟩) l.length cap1) (m.take l.length) := by
        have h := Fs.of_row o1 hm
        rw [List.length_take, hm, show min l.length (l.length + 1) = l.length from by omega] at h
        exact h
      have hF2 : Fs wr (.slice (some ⟨g2, 0, none⟩) l.length cap2) (m.take l.length) := by
        have h := Fs.of_row o2 hm
        rw [List.length_take, hm, show min l.length (l.length + 1) = l.length from by omega] at h
        exact h
      have hlt2 := take_lt hml l.length
      have htl : (m.take l.length).length ≤ 281474976710656 := by rw [List.length_take]; omega
      have S1 := hid' (sum_any _ _ wr hF1 hlt2 htl)
      have S2 := hid' (fun W (g : Gr wr W) => rsum_any _ _ W (hF2.mono g.below) hlt2 htl)
      have SS : Hid (∀ r r', sumR (m.take l.length) r → sumR (m.take l.length) r' → r < 18446744073709551616 ∧ sim r r') := fun r r' h h' => ⟨sumR_lt h, sumR_sim rfl (fun _ => .inl rfl) h h'⟩
      have HB := hid' hb
      have LL := hid' (fun W (g : RowKit.Below w.heap.size w W) => lives_any W (HP.out.mono g) (HF.out.mono g))
      clear hF1 hF2 hlt2 htl o1 o2 hb hml hm
      go_wp2_with (first
        | (go_at_call 26; refine S1.out.mono ?_; rintro e w7 ⟨r1, rfl, hr1, g7⟩)
        | (go_at_call 28; refine (S2.out _ g7).mono ?_; rintro e w8 ⟨r2, rfl, hr2, g8⟩; obtain ⟨q1, s1⟩ := SS.out _ _ hr1 hr2)
        | (go_at_call 18; refine (alike_any _ _ _ (by assumption) (by assumption)).mono ?_; rintro e w9 ⟨rfl, rfl⟩)
        | (go_at_call 31; refine (L1.out _).mono ?_; rintro e w9 ⟨rfl, rfl⟩)
        | (go_at_call 32; refine (L2.out _).mono ?_; rintro e w9 ⟨rfl, rfl⟩)
        | (go_at_call 22; refine (LL.out _ (HB.out.trans ((g7.trans g8).below.mono HB.out.size))).mono ?_; rintro e w10 ⟨rfl, l10⟩))
      go_ret
      refine ⟨rfl, ?_⟩
      have hh := HB.out.trans ((g7.trans g8).below.mono HB.out.size)
      exact hh.trans (l10.mono hh.size)
end Go.Proofs.YtmkechhjgdanmaaGreatDoor
