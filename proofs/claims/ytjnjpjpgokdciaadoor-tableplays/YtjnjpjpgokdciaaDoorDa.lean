/- The law's done: All, left behind so many and again; any other kind. -/
import Derived.Test.YtjnjpjpgokdciaaDoorDn
set_option linter.unusedSimpArgs false
set_option linter.unusedVariables false
namespace Go.Proofs.YtjnjpjpgokdciaaDoor
open Go.RowKit Go.Sort Go.Shelf

theorem leftLE_zero (L : List En) : leftLE 0 L = L := by unfold leftLE; rw [if_neg (by omega)]
theorem leftLE_take (m : Int) (L : List En) : ∃ k, leftLE m L = L.take k := by
  unfold leftLE
  split
  · exact ⟨_, rfl⟩
  · exact ⟨L.length, (List.take_of_length_le (Nat.le_refl _)).symm⟩
theorem leftLE_len (m : Int) (L : List En) : (if 1 ≤ m ∧ m < (L.length : Int) then m.toNat else L.length) = (leftLE m L).length := by
  unfold leftLE
  by_cases h1 : 1 ≤ m
  · by_cases h2 : m < (L.length : Int)
    · rw [if_pos ⟨h1, h2⟩, if_pos ⟨h1, by omega⟩, List.length_take]; omega
    · rw [if_neg (by omega)]
      split
      · rw [List.length_take]; omega
      · rfl
  · rw [if_neg (by omega), if_neg (by omega)]
theorem pairs_any (b : Nat) (v : Value) (L : List En) (m : Int) (w : World) (hK : TKept w b v L) :
    Calls Tryd.prog 13 #[.func (.func 39) #[] #[pT b], .int .i64 m] w fun e w' => ∃ ao cap, e = .returned (.slice ao (leftLE m L).length cap) ∧ Ps w' ao (leftLE m L) ∧ Below w.heap.size w w' := by
  refine callsIn_wide.1 ((pairs_in 20 (by omega) 39 _ _ (by have := hK.few; omega) m (tK b v L) w ?_ (enters_of Tryd.func39 (by kernel_rfl) rfl) (tall1_seq 19 (by omega) b v L w hK)).mono ?_)
  · intro k hk
    exact hK.lt hk
  · rintro e w' ⟨u, rfl, h3, h4⟩
    obtain ⟨ao, cap, rfl, h5, _⟩ := OwnP.ps h3
    exact ⟨ao, cap, rfl, h5, h4⟩
section
variable {B : Nat} {w w' : World} {t r room : Nat} {v vr : Value} {L : List En}
theorem TabIs.belowT (h : TabIs B w t room v L) (k : Below w.heap.size w w') : TabIs B w' t room v L := h.chg (p := fun _ => False) (.of_below k) (fun e => e) (fun _ _ e => e) (fun _ _ e => e)
theorem Pr.below (h : Pr B w t r room v vr L) (k : Below w.heap.size w w') : Pr B w' t r room v vr L := ⟨h.tab.belowT k, h.ref.below k, h.r0⟩
set_option maxRecDepth 100000 in
set_option maxHeartbeats 4000000 in
theorem done_all (h : Pr B w t r room v vr L) (hB : B ≤ w.heap.size) (o a : Bool) (id n : Int) : Calls Tryd.prog 11 #[pT t, pT r, stV 4 o id n a] w (DoneR B t r room v vr w) := by
  have kx := Bk.new w 41 (stL 4 o id n a)
  have gx := (Gr.refl w).alloc (.cells (stL 4 o id n a).toArray 41)
  have H := h.gr gx
  clear h
  go_enter Tryd.func11, Tryd.ntmps11
  go_upto_region 19 with fail
  generalize w.heap.size = bx at *
  generalize w.alloc _ = A at *
  have C1 := hid0 (tall_any H.tab)
  have HH := hid0 H
  have GX := hid0 gx
  have KX := hid0 kx
  clear H gx kx
  go_wp2_with (go_at_call 9; refine C1.out.mono ?_)
  rintro e w1 ⟨bt, v0, rfl, K1, B1, _⟩
  obtain ⟨ao, cap, rfl, hP, hcap, _⟩ := HH.out.ref.own.ps
  have hfew : L.length ≤ 65536 := Nat.le_trans HH.out.tab.len HH.out.tab.most
  have hmm : L.length ≤ 1000000 := by omega
  obtain ⟨P, eP⟩ : ∃ P, P = leftLE n L := ⟨_, rfl⟩
  have hPm : P.length ≤ 1000000 := by
    obtain ⟨k, hk⟩ := leftLE_take n L
    rw [eP, hk, List.length_take]
    omega
  have F1 : Hid (∀ V, Calls Tryd.prog 44 #[.slice ao L.length cap, .int .i64 n] V fun e w' => (∃ c', e = .returned (.slice ao P.length c')) ∧ w' = V) := fun V => by
    have := firstp_any ao L.length cap n V hcap
    rw [leftLE_len, ← eP] at this
    exact this
  have T1 := hid0 (fun V (g : Below w1.heap.size w1 V) => K1.below g)
  have PA1 : Hid (∀ V, Below w1.heap.size w1 V → Calls Tryd.prog 13 #[.func (.func 39) #[] #[pT bt], .int .i64 n] V fun e w' => ∃ ao cap, e = .returned (.slice ao P.length cap) ∧ Ps w' ao P ∧ Below V.heap.size V w') := fun V g => by
    rw [eP]
    exact pairs_any bt v0 L n V (K1.below g)
  have PA2 : Hid (∀ V, Below w1.heap.size w1 V → Calls Tryd.prog 13 #[.func (.func 39) #[] #[pT bt], .int .i64 0] V fun e w' => ∃ ao cap, e = .returned (.slice ao L.length cap) ∧ Ps w' ao L ∧ Below V.heap.size V w') := fun V g => by
    have := pairs_any bt v0 L 0 V (K1.below g)
    rw [leftLE_zero] at this
    exact this
  have PS : Hid (∀ V, Below w1.heap.size w1 V → Ps V ao L ∧ Ps V ao P) := fun V g => by
    have h1 : Ps V ao L := hP.below (B1.trans (g.mono B1.size))
    refine ⟨h1, ?_⟩
    obtain ⟨k, hk⟩ := leftLE_take n L
    rw [eP, hk]
    exact h1.take k
  have PR : Hid (∀ V, Below w1.heap.size w1 V → Pr B V t r room v (.slice ao L.length cap) L) := fun V g => HH.out.below (B1.trans (g.mono B1.size))
  have SS : Hid (∀ V, Below w1.heap.size w1 V → Bk V bx 41 (stL 4 o id n a) ∧ Bk V r 37 [.int .i64 (room : Int), .slice ao L.length cap]) := fun V g => ⟨KX.out.mono (B1.trans (g.mono B1.size)) KX.out.lt, (PR.out V g).ref.blk⟩
  have FN : Hid (∀ V, Below w1.heap.size w1 V → DoneR B t r room v (.slice ao L.length cap) w (.returned (.bool true)) V) := fun V g =>
    ⟨rfl, v, .slice ao L.length cap, L, PR.out V g, (Chg.of_gr GX.out).trans (.of_below (B1.trans (g.mono B1.size))), fun _ e => .inl e, fun _ e => .inl e⟩
  clear C1 K1 B1 hP T1 HH KX GX hB hfew eP
  have gD := (Gr.refl w1).drew.below
  have s0 := SS.out _ gD
  have S0 : Hid (Below w1.heap.size w1 w1.drew) := gD
  have f3 : ∀ V, (Bk V bx 41 (stL 4 o id n a) ∧ Bk V r 37 [.int .i64 (room : Int), .slice ao L.length cap]) → V.cell? ⟨bx, 3, none⟩ = some (.int .i64 n) := fun V hV => hV.1.at 3
  have r0 : ∀ V, (Bk V bx 41 (stL 4 o id n a) ∧ Bk V r 37 [.int .i64 (room : Int), .slice ao L.length cap]) → V.cell? ⟨r, 0, none⟩ = some (.int .i64 (room : Int)) := fun V hV => hV.2.at 0
  have r1 : ∀ V, (Bk V bx 41 (stL 4 o id n a) ∧ Bk V r 37 [.int .i64 (room : Int), .slice ao L.length cap]) → V.cell? ⟨r, 1, none⟩ = some (.slice ao L.length cap) := fun V hV => hV.2.at 1
  clear gD
  go_upto_region 20 with fail
  go_region_held3 (fun V => Bk V bx 41 (stL 4 o id n a) ∧ Bk V r 37 [.int .i64 (room : Int), .slice ao L.length cap])
    (first
      | assumption
      | exact SS.out _ S0.out)
    (first
      | (go_at_call 46; refine (room_any (PR.out v5 D5.out).tab).mono ?_; rintro e v7 ⟨rfl, hw⟩; cases hw)
      | (go_at_call 45; refine (len_any (PR.out v5 D5.out).tab).mono ?_; rintro e v6 ⟨rfl, hw⟩; cases hw)
      | (go_at_call 12; refine (same_pairs _ _ _ _ L v4 I4.out (PS.out v4 D4.out).1 hmm).mono ?_; rintro e v5 ⟨rfl, g5⟩; have D5 := hid0 (D4.out.trans (g5.below.mono D4.out.size)); have s5 := SS.out v5 D5.out)
      | (go_at_call 13; refine (PA2.out v3 D3.out).mono ?_; rintro e v4 ⟨a4, c4, rfl, i4, b4⟩; have I4 := hid0 i4; have D4 := hid0 (D3.out.trans (b4.mono D3.out.size)); have s4 := SS.out v4 D4.out)
      | (go_at_call 12; refine (same_pairs _ _ _ _ P v1 I1.out (PS.out v1 D1.out).2 hPm).mono ?_; rintro e v3 ⟨rfl, g3⟩; have D3 := hid0 (D1.out.trans (g3.below.mono D1.out.size)); have s3 := SS.out v3 D3.out)
      | (go_at_call 44; refine (F1.out v1).mono ?_; rintro e v2 ⟨⟨c2, rfl⟩, hw⟩; cases hw)
      | (go_at_call 13; refine (PA1.out _ S0.out).mono ?_; rintro e v1 ⟨a1, c1, rfl, i1, b1⟩; have I1 := hid0 i1; have D1 := hid0 (S0.out.trans (b1.mono S0.out.size)); have s1 := SS.out v1 D1.out))
  have F := hid0 (FN.out v5 D5.out)
  clear FN PA1 PA2 PS PR SS F1
  go_wp2
  go_ret
  exact F.out
set_option maxRecDepth 100000 in
theorem done_other (h : Pr B w t r room v vr L) (d : Int) (hd : d ≠ 0 ∧ d ≠ 1 ∧ d ≠ 2 ∧ d ≠ 3 ∧ d ≠ 4) (o a : Bool) (id n : Int) : Calls Tryd.prog 11 #[pT t, pT r, stV d o id n a] w (DoneR B t r room v vr w) := by
  have kx := Bk.new w 41 (stL d o id n a)
  have gx := (Gr.refl w).alloc (.cells (stL d o id n a).toArray 41)
  have H := hid0 (h.gr gx)
  have G := hid0 gx
  clear h gx
  obtain ⟨h0, h1, h2, h3, h4⟩ := hd
  have x0 := kx.at 0
  simp only [List.getElem?_cons_zero] at x0
  go_enter Tryd.func11, Tryd.ntmps11
  go_wp2
  go_ret
  exact ⟨rfl, v, vr, L, H.out, .of_gr G.out, fun _ e => .inl e, fun _ e => .inl e⟩
theorem done_any (h : Pr B w t r room v vr L) (hB : B ≤ w.heap.size) (d : Int) (o a : Bool) (id n : Int) : Calls Tryd.prog 11 #[pT t, pT r, stV d o id n a] w (DoneR B t r room v vr w) := by
  by_cases h0 : d = 0
  · subst h0; exact done_put h hB o a id n
  by_cases h1 : d = 1
  · subst h1; exact done_get h hB o a id n
  by_cases h2 : d = 2
  · subst h2; exact done_del h hB o a id n
  by_cases h3 : d = 3
  · subst h3; exact done_next h hB o a id n
  by_cases h4 : d = 4
  · subst h4; exact done_all h hB o a id n
  exact done_other h d ⟨h0, h1, h2, h3, h4⟩ o a id n
end
end Go.Proofs.YtjnjpjpgokdciaaDoor
