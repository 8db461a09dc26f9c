/- The reference's First is the first cells of the line. -/
import Derived.Test.YtmoddfikhipagaaRf
set_option linter.unusedSimpArgs false
set_option linter.unusedVariables false
namespace Go.Proofs.Ytmoddfikhipagaa
open Go.RowKit Go.Sort

theorem take_of_pre {L u : List C2} (h : u <+: L) (hl : u.length = 401) : L.take 401 = u := by
  obtain ⟨t, rfl⟩ := h
  rw [← hl, List.take_left]
/-- What is gathered when i columns are done and j cells of the next. -/
def gath (P Q : C2) (s : Int) (k i j : Nat) : List C2 := (colsL P Q s k i).flatMap colC ++ runL (colP P Q s k i).1 (0, 1) j
theorem gath_succ (P Q : C2) (s : Int) (k i j : Nat) : gath P Q s k i (j + 1) = gath P Q s k i j ++ [rAt (colP P Q s k i).1 (0, 1) j] := by unfold gath; rw [runL_succ, List.append_assoc]
theorem gath_next (P Q : C2) (s : Int) (k i : Nat) : gath P Q s k i (((colP P Q s k i).2.2 - (colP P Q s k i).1.2).toNat + 1) = gath P Q s k (i + 1) 0 := by
  unfold gath
  rw [colsL_succ, List.flatMap_append, List.flatMap_cons, List.flatMap_nil, List.append_nil]
  show _ ++ colC _ = _ ++ colC _ ++ runL _ _ 0
  simp [runL]
theorem gath_pre (P Q : C2) (s : Int) (k i j : Nat) (hi : i ≤ k) (hj : j ≤ ((colP P Q s k i).2.2 - (colP P Q s k i).1.2).toNat + 1) : gath P Q s k i j <+: (colsL P Q s k (k + 1)).flatMap colC := by
  obtain ⟨t, ht⟩ := colsL_pre P Q s k (show i + 1 ≤ k + 1 by omega)
  obtain ⟨t2, ht2⟩ := runL_pre (colP P Q s k i).1 (0, 1) hj
  refine ⟨t2 ++ t.flatMap colC, ?_⟩
  rw [← ht, colsL_succ]
  unfold gath
  simp only [List.flatMap_append, List.flatMap_cons, List.flatMap_nil, List.append_nil, List.append_assoc]
  rw [← List.append_assoc (runL _ _ _) t2, ht2]
  rfl

theorem bk_not_row {W : World} {b : Nat} {t e : TypeId} {l : List Value} (h : Bk W b t l) (hte : t ≠ e) {base size n : Nat} {v : Value} {xs : List Value} (hr : W.ownsRow base e size v n xs) : some b ≠ v.ownBlock := by
  intro e'
  obtain ⟨_, cur, hc⟩ := own_lt hr e'.symm
  unfold Bk at h
  rw [h] at hc
  simp at hc
  exact hte hc.2
theorem col_x {p q : C2} {s : Int} {k i : Nat} (hk : q.1 / s = p.1 / s + k) (hi : i ≤ k) : (colP p q s k i).1.1 = p.1 / s + i := by
  have hx1 := ent_x p q s i
  have hx2 : (leaP p q s k i).1 = p.1 / s + i := by
    unfold leaP
    split
    · simp [befP]; omega
    · have : i = k := by omega
      subst this
      exact hk
  unfold colP byH
  split
  · exact hx2
  · exact hx1
theorem col_le (p q : C2) (s : Int) (k i : Nat) : (colP p q s k i).1.2 ≤ (colP p q s k i).2.2 := by
  unfold colP byH
  split
  · dsimp only; omega
  · dsimp only; omega
/-- What the reference has gathered. -/
def Gat (w : World) (P Q : C2) (g : List C2) (v : Value) (wr : World) : Prop :=
  wr.ownsRow w.heap.size 26 2 v g.length (flat g) ∧ g.length ≤ 401 ∧ Below w.heap.size w wr ∧ Bk wr w.heap.size 23 [.int .i32 P.1, .int .i32 P.2] ∧ Bk wr (w.heap.size + 1) 23 [.int .i32 Q.1, .int .i32 Q.2]

set_option maxRecDepth 20000 in
set_option maxHeartbeats 8000000 in
theorem rfirst_ok (p q : C2) (s : Int) (hok : (szB s && plB p.1 p.2 && plB q.1 q.2) = true) (w : World) :
    Calls Try.prog 19 #[cv p, cv q, .int .i64 s, .int .i64 401] w fun e w' => ∃ v, e = .returned v ∧ w'.ownsRow w.heap.size 26 2 v ((lineL p q s).take 401).length (flat ((lineL p q s).take 401)) ∧ Below w.heap.size w w' := by
  have eL : lineL p q s = (colsL (ordP p q).1 (ordP p q).2 s (kOf (ordP p q).1 (ordP p q).2 s) (kOf (ordP p q).1 (ordP p q).2 s + 1)).flatMap colC := by unfold lineL; rw [if_pos hok]
  simp only [Bool.and_eq_true] at hok
  obtain ⟨⟨o1, o2⟩, o3⟩ := hok
  obtain ⟨hs, hs2⟩ := szB_iff.1 o1
  obtain ⟨lP, lQ⟩ := ord_lat (lat_of o2) (lat_of o3)
  have hpq := ord_le p q
  have hk := kOf_eq hpq hs
  have S1 : Hid (∀ w, Calls Try.prog 24 #[.int .i64 s] w fun e w' => e = .returned (.bool true) ∧ w' = w) := fun w => by have := fits_any s w; rw [o1] at this; exact this
  have S2 : Hid (∀ w, Calls Try.prog 25 #[pt p.1 p.2] w fun e w' => e = .returned (.bool true) ∧ Gr w w') := fun w => by have := in_any p.1 p.2 w; rw [o2] at this; exact this
  have S3 : Hid (∀ w, Calls Try.prog 25 #[pt q.1 q.2] w fun e w' => e = .returned (.bool true) ∧ Gr w w') := fun w => by have := in_any q.1 q.2 w; rw [o3] at this; exact this
  have HO : Hid ((q.1 < p.1 → (ordP p q) = (q, p)) ∧ (¬ q.1 < p.1 → (ordP p q) = (p, q))) := ⟨fun h => by unfold ordP; rw [if_pos h], fun h => by unfold ordP; rw [if_neg h]⟩
  generalize hPQ : ordP p q = PQ at *
  obtain ⟨P, Q⟩ := PQ
  dsimp only at *
  generalize hkk : kOf P Q s = k at *
  generalize hLL : lineL p q s = L at *
  clear hPQ hkk hLL o1 o2 o3
  have HLn := hid0 eL
  clear eL
  obtain ⟨M, hMM⟩ : ∃ M, M = L.take 401 := ⟨_, rfl⟩
  have HM := hid0 hMM
  rw [← hMM]
  clear hMM
  obtain ⟨i0, hI0, hz0, hz1, hz2⟩ := info_parts Try.info26
  have b4 := (Bk.new w 23 [.int .i32 p.1, .int .i32 p.2]).alloc (.cells #[.int .i32 q.1, .int .i32 q.2] 23)
  have b5 := Bk.new (w.alloc (.cells #[.int .i32 p.1, .int .i32 p.2] 23)) 23 [.int .i32 q.1, .int .i32 q.2]
  have g0 : Gr w ((w.alloc (.cells #[.int .i32 p.1, .int .i32 p.2] 23)).alloc (.cells #[.int .i32 q.1, .int .i32 q.2] 23)) := ((Gr.refl _).alloc _).alloc _
  rw [World.size_alloc] at b5
  go_enter Try.func19, Try.ntmps19
  go_upto_region 2 with fail
  generalize (w.alloc (.cells #[.int .i32 p.1, .int .i32 p.2] 23)).alloc (.cells #[.int .i32 q.1, .int .i32 q.2] 23) = W at *
  obtain ⟨p0, p1⟩ := b4.two
  go_upto_region 4 with (first
    | (go_at_call 24; refine (S1.out _).mono ?_; rintro e w1 ⟨rfl, rfl⟩; clear S1)
    | (go_at_call 25; refine (S2.out _).mono ?_; rintro e w2 ⟨rfl, g2⟩; clear S2; obtain ⟨q0, q1⟩ := (b5.gr g2).two)
    | (go_at_call 25; refine (S3.out _).mono ?_; rintro e w3 ⟨rfl, g3⟩; clear S3))
  replace b4 := (b4.gr g2).gr g3
  replace b5 := (b5.gr g2).gr g3
  replace g0 := (g0.trans g2).trans g3
  clear g2 g3 p0 p1 q0 q1
  obtain ⟨p0, p1⟩ := b4.two
  obtain ⟨q0, q1⟩ := b5.two
  have z0 := b4.frozen 0
  have z1 := b4.frozen 1
  have z2 := b5.frozen 0
  have z3 := b5.frozen 1
  have n1 : w.heap.size + 1 ≠ w.heap.size := by omega
  have n2 : w.heap.size ≠ w.heap.size + 1 := by omega
  have D1 := hid0 (down_any Q.1 s hs (in64_of (by unfold latP at lQ; omega) (by unfold latP at lQ; omega)))
  have D2 := hid0 (down_any P.1 s hs (in64_of (by unfold latP at lP; omega) (by unfold latP at lP; omega)))
  have wQ : wrap64 Q.1 = Q.1 := w64_in (in64_of (by unfold latP at lQ; omega) (by unfold latP at lQ; omega))
  have wP : wrap64 P.1 = P.1 := w64_in (in64_of (by unfold latP at lP; omega) (by unfold latP at lP; omega))
  by_cases hlt : q.1 < p.1
  · have ePQ := HO.out.1 hlt
    have eP : P = q := congrArg Prod.fst ePQ
    have eQ : Q = p := congrArg Prod.snd ePQ
    clear ePQ HO
    go_upto_region 6 with fail
    have c4 : Bk ((((w3.setCell ⟨w.heap.size, 0, none⟩ (.int .i32 q.1)).setCell ⟨w.heap.size, 1, none⟩ (.int .i32 q.2)).setCell ⟨w.heap.size + 1, 0, none⟩ (.int .i32 p.1)).setCell ⟨w.heap.size + 1, 1, none⟩ (.int .i32 p.2)) w.heap.size 23 [.int .i32 P.1, .int .i32 P.2] := by
      rw [eP]; exact (((b4.set 0 _).set 1 _).other (a := ⟨w.heap.size + 1, 0, none⟩) n2 _).other (a := ⟨w.heap.size + 1, 1, none⟩) n2 _
    have c5 : Bk ((((w3.setCell ⟨w.heap.size, 0, none⟩ (.int .i32 q.1)).setCell ⟨w.heap.size, 1, none⟩ (.int .i32 q.2)).setCell ⟨w.heap.size + 1, 0, none⟩ (.int .i32 p.1)).setCell ⟨w.heap.size + 1, 1, none⟩ (.int .i32 p.2)) (w.heap.size + 1) 23 [.int .i32 Q.1, .int .i32 Q.2] := by
      rw [eQ]; exact (((b5.other (a := ⟨w.heap.size, 0, none⟩) n1 _).other (a := ⟨w.heap.size, 1, none⟩) n1 _).set 0 _).set 1 _
    have gF := (((g0.setCell (p := ⟨w.heap.size, 0, none⟩) (Nat.le_refl _) (.int .i32 q.1)).setCell (p := ⟨w.heap.size, 1, none⟩) (Nat.le_refl _) (.int .i32 q.2)).setCell (p := ⟨w.heap.size + 1, 0, none⟩) (by simp) (.int .i32 p.1)).setCell (p := ⟨w.heap.size + 1, 1, none⟩) (by simp) (.int .i32 p.2)
    clear b4 b5 g0 p0 p1 q0 q1 z0 z1 z2 z3 n1 n2 eP eQ
    generalize (((w3.setCell ⟨w.heap.size, 0, none⟩ (.int .i32 q.1)).setCell ⟨w.heap.size, 1, none⟩ (.int .i32 q.2)).setCell ⟨w.heap.size + 1, 0, none⟩ (.int .i32 p.1)).setCell ⟨w.heap.size + 1, 1, none⟩ (.int .i32 p.2) = W5 at *
    obtain ⟨p0, p1⟩ := c4.two
    obtain ⟨q0, q1⟩ := c5.two
    go_wp2_with (first
      | (go_at_call 32; refine (D1.out _).mono ?_; rintro e w9 ⟨rfl, rfl⟩; clear D1)
      | (go_at_call 32; refine (D2.out _).mono ?_; rintro e w9 ⟨rfl, rfl⟩; clear D2))
    clear p0 p1 q0 q1
    go_loopw [9, 11] (fun v x wr => ∃ i : Nat, i ≤ k + 1 ∧ x = .int .i64 (P.1 / s + i) ∧ Gat w P Q (gath P Q s k i 0) v wr) (fun _ x _ => (P.1 / s + k + 1 - intOf x).toNat)
    case atStart => exact ⟨0, by omega, by simp, World.ownsRow_nil _ _ _ _, by simp [gath, colsL, runL], gF.below, c4, c5⟩
    case round =>
      clear c4 c5 gF
      obtain ⟨i, hi, rfl, hown, hlen, hBel, c4, c5⟩ := hrel
      by_cases hik : i ≤ k
      · have COL := hid0 (column_any P Q s k i lP lQ hs hs2 hpq hk hik)
        have hcond : P.1 / s + i ≤ Q.1 / s := by rw [hk]; omega
        have hR := col_ok lP lQ hs hk hik
        have hx := col_x hk hik
        have hle := col_le P Q s k i
        have HG := hid0 (fun j => gath_succ P Q s k i j)
        have HN := hid0 (gath_next P Q s k i)
        have HPre := hid0 (fun j => gath_pre P Q s k i j hik)
        have HRs := hid0 hR.small
        rw [← HLn.out] at HPre
        obtain ⟨H, hH⟩ : ∃ H, H = ((colP P Q s k i).2.2 - (colP P Q s k i).1.2).toNat := ⟨_, rfl⟩
        rw [← hH] at HN HPre HRs
        obtain ⟨lo, hlo⟩ : ∃ lo, lo = (colP P Q s k i).1 := ⟨_, rfl⟩
        rw [← hlo] at COL hx hle HG hH HRs
        generalize (colP P Q s k i).2.2 = hi' at *
        have HQ := hid0 (And.intro hH (And.intro hx (And.intro hle hcond)))
        clear hH hlo hR hx
        obtain ⟨p0, p1⟩ := c4.two
        obtain ⟨q0, q1⟩ := c5.two
        have HI := hid0 (And.intro hi hik)
        clear hi hik
        generalize hX : P.1 / s + (i : Int) = X at *
        generalize hY : Q.1 / s = Y at *
        go_wp2_with (go_at_call 41; refine (COL.out _).mono ?_; rintro e w2 ⟨rfl, g2⟩; clear COL)
        clear p0 p1 q0 q1
        go_loopw [9, 14] (fun v y wr2 => ∃ j : Nat, j ≤ H + 1 ∧ y = .int .i64 (lo.2 + j) ∧ Gat w P Q (gath P Q s k i j) v wr2) (fun _ y _ => (hi' + 1 - intOf y).toNat)
        case atStart =>
          exact ⟨0, by omega, by simp, own_keep hown g2.grownBy (fun g _ e => by cases e), hlen, hBel.trans (g2.below.mono hBel.size), c4.gr g2, c5.gr g2⟩
        case round =>
          clear c4 c5 hown hlen hBel
          obtain ⟨j, hj, rfl, hown, hlen, hBel, c4, c5⟩ := hrel
          obtain ⟨ao, cap, rfl, hPt, _⟩ := Pts.of_own hown
          obtain ⟨eH, ex, hle', hcond'⟩ := HQ.out
          by_cases hjH : j ≤ H
          · have hj1 : lo.2 + (j : Int) ≤ hi' := by omega
            have hpre := HPre.out j (by omega)
            by_cases h401 : (gath P Q s k i j).length = 401
            · have et : M = gath P Q s k i j := by rw [HM.out]; exact take_of_pre hpre h401
              have hown2 := hown
              rw [h401] at hown2
              have HE := hid0 (And.intro et (And.intro hown2 (And.intro hBel h401)))
              have h4 : ((gath P Q s k i j).length : Int) ≥ 401 := by omega
              clear et hpre hown hown2 hBel hPt
              go_wp2
              go_ret
              obtain ⟨et, hown, hBel, h401'⟩ := HE.out
              exact ⟨_, rfl, by rw [et, h401']; exact hown, hBel⟩
            · have hn4 : (gath P Q s k i j).length ≤ 400 := by omega
              have hn5 : ¬ ((gath P Q s k i j).length : Int) ≥ 401 := by omega
              have hG := HG.out j
              have h32 := HRs.out j hjH
              have ec : (rAt lo (0, 1) j).1 = X ∧ (rAt lo (0, 1) j).2 = lo.2 + j := by simp only [rAt]; omega
              have e1 : wrap32 X = (rAt lo (0, 1) j).1 := by rw [← ec.1]; exact w32_eq h32.1
              have e2 : wrap32 (lo.2 + j) = (rAt lo (0, 1) j).2 := by rw [← ec.2]; exact w32_eq h32.2
              have e3 : wrap64 (lo.2 + (j : Int) + 1) = lo.2 + ((j + 1 : Nat) : Int) := by
                have := h32.2
                rw [ec.2] at this
                rw [w64_in (by unfold in32 at this; unfold in64; omega)]
                omega
              have HH := hid0 (And.intro hG (And.intro hj1 hjH))
              clear ec h32 hG hPt hpre h401
              generalize rAt lo (0, 1) j = c at *
              generalize gath P Q s k i j = g at *
              have hw0 := hBel.size
              have hb8 : g.length + 1 ≤ maxLen := by unfold maxLen; omega
              go_wp2_with (at_builtin; refine wpList_append_own _ rfl (.tmp 69) (.tmp 75) 38 rfl w.heap.size 26 i0 (.agg #[.int .i32 0, .int .i32 0]) 2 8 Try.underlying38 hI0 hz0 hz1 hz2 rfl (by decide) (.slice ao g.length cap) g.length (flat g) rfl (hown.alloc _) ⟨wr.heap.size, 0, none⟩ 1 1 [.int .i32 c.1, .int .i32 c.2] rfl rfl (two_new _ _ _) (by simp [Value.oneCell']) hb8 (by omega) (by simp; omega) ?_; intro sv w8 hown' hgrow _)
              have nb4 := bk_not_row c4 (by decide) hown
              have nb5 := bk_not_row c5 (by decide) hown
              have d4 := (c4.alloc (.cells #[.int .i32 c.1, .int .i32 c.2] 26)).same (hgrow.block _ (by have := c4.lt; simp; omega) nb4)
              have d5 := (c5.alloc (.cells #[.int .i32 c.1, .int .i32 c.2] 26)).same (hgrow.block _ (by have := c5.lt; simp; omega) nb5)
              have hB8 : Below w.heap.size w w8 := ((hBel.alloc hw0 _).grown hgrow (by simp; omega) (fun g' e' => by
                rcases hown.2 with ⟨h, _⟩ | ⟨gg, cc, cu, h, hb, _⟩
                · rw [h] at e'; cases e'
                · rw [h] at e'
                  simp [Value.ownBlock] at e'
                  omega))
              obtain ⟨hG, hj1, hjH⟩ := HH.out
              go_roundw
              case rel =>
                refine ⟨j + 1, by omega, by rw [e3], ?_, ?_, hB8, d4, d5⟩
                · rw [hG, flat_one, List.length_append]; exact hown'
                · rw [hG, List.length_append]; simp; omega
              case measure => rw [e3]; simp only [intOf]; omega
          · have hj1 : ¬ lo.2 + (j : Int) ≤ hi' := by omega
            have ej : j = H + 1 := by omega
            have hN := HN.out
            rw [← ej] at hN
            have HH := hid0 (And.intro hN (And.intro hown (And.intro hlen hBel)))
            have hXb : wrap64 (X + 1) = X + 1 := by
              have h1 := (HRs.out 0 (by omega)).1
              have h2 : (rAt lo (0, 1) 0).1 = lo.1 := by simp [rAt]
              rw [h2, ex] at h1
              exact w64_in (by unfold in32 at h1; unfold in64; omega)
            clear hN hown hlen hBel hPt
            generalize gath P Q s k i j = g at *
            go_wp2
            go_roundw
            case rel =>
              obtain ⟨hN, hown, hlen, hBel⟩ := HH.out
              have := HI.out
              refine ⟨i + 1, by omega, by rw [hXb, ← hX]; exact congrArg (Value.int .i64) (by omega), ?_⟩
              rw [← hN]
              exact ⟨hown, hlen, hBel, c4, c5⟩
            case measure => have := HI.out; rw [hXb]; simp only [intOf]; omega
      · have ei : i = k + 1 := by omega
        have hc : ¬ P.1 / s + (i : Int) ≤ Q.1 / s := by rw [hk]; omega
        have hg : gath P Q s k i 0 = L := by rw [ei, HLn.out]; simp [gath, runL]
        have hM : M = gath P Q s k i 0 := by rw [HM.out, hg]; exact List.take_of_length_le (by rw [← hg]; omega)
        have HE := hid0 (And.intro hM (And.intro hown hBel))
        clear hg hM hown hBel ei hlen
        generalize P.1 / s + (i : Int) = X at *
        go_wp2
        go_ret
        obtain ⟨hM, hown, hBel⟩ := HE.out
        exact ⟨_, rfl, by rw [hM]; exact hown, hBel⟩
  · have ePQ := HO.out.2 (by omega)
    have eP : P = p := congrArg Prod.fst ePQ
    have eQ : Q = q := congrArg Prod.snd ePQ
    clear ePQ HO
    go_upto_region 6 with fail
    have c4 : Bk w3 w.heap.size 23 [.int .i32 P.1, .int .i32 P.2] := by rw [eP]; exact b4
    have c5 : Bk w3 (w.heap.size + 1) 23 [.int .i32 Q.1, .int .i32 Q.2] := by rw [eQ]; exact b5
    have gF := g0
    clear b4 b5 g0 p0 p1 q0 q1 z0 z1 z2 z3 n1 n2 eP eQ
    generalize w3 = W5 at *
    obtain ⟨p0, p1⟩ := c4.two
    obtain ⟨q0, q1⟩ := c5.two
    go_wp2_with (first
      | (go_at_call 32; refine (D1.out _).mono ?_; rintro e w9 ⟨rfl, rfl⟩; clear D1)
      | (go_at_call 32; refine (D2.out _).mono ?_; rintro e w9 ⟨rfl, rfl⟩; clear D2))
    clear p0 p1 q0 q1
    go_loopw [9, 11] (fun v x wr => ∃ i : Nat, i ≤ k + 1 ∧ x = .int .i64 (P.1 / s + i) ∧ Gat w P Q (gath P Q s k i 0) v wr) (fun _ x _ => (P.1 / s + k + 1 - intOf x).toNat)
    case atStart => exact ⟨0, by omega, by simp, World.ownsRow_nil _ _ _ _, by simp [gath, colsL, runL], gF.below, c4, c5⟩
    case round =>
      clear c4 c5 gF
      obtain ⟨i, hi, rfl, hown, hlen, hBel, c4, c5⟩ := hrel
      by_cases hik : i ≤ k
      · have COL := hid0 (column_any P Q s k i lP lQ hs hs2 hpq hk hik)
        have hcond : P.1 / s + i ≤ Q.1 / s := by rw [hk]; omega
        have hR := col_ok lP lQ hs hk hik
        have hx := col_x hk hik
        have hle := col_le P Q s k i
        have HG := hid0 (fun j => gath_succ P Q s k i j)
        have HN := hid0 (gath_next P Q s k i)
        have HPre := hid0 (fun j => gath_pre P Q s k i j hik)
        have HRs := hid0 hR.small
        rw [← HLn.out] at HPre
        obtain ⟨H, hH⟩ : ∃ H, H = ((colP P Q s k i).2.2 - (colP P Q s k i).1.2).toNat := ⟨_, rfl⟩
        rw [← hH] at HN HPre HRs
        obtain ⟨lo, hlo⟩ : ∃ lo, lo = (colP P Q s k i).1 := ⟨_, rfl⟩
        rw [← hlo] at COL hx hle HG hH HRs
        generalize (colP P Q s k i).2.2 = hi' at *
        have HQ := hid0 (And.intro hH (And.intro hx (And.intro hle hcond)))
        clear hH hlo hR hx
        obtain ⟨p0, p1⟩ := c4.two
        obtain ⟨q0, q1⟩ := c5.two
        have HI := hid0 (And.intro hi hik)
        clear hi hik
        generalize hX : P.1 / s + (i : Int) = X at *
        generalize hY : Q.1 / s = Y at *
        go_wp2_with (go_at_call 41; refine (COL.out _).mono ?_; rintro e w2 ⟨rfl, g2⟩; clear COL)
        clear p0 p1 q0 q1
        go_loopw [9, 14] (fun v y wr2 => ∃ j : Nat, j ≤ H + 1 ∧ y = .int .i64 (lo.2 + j) ∧ Gat w P Q (gath P Q s k i j) v wr2) (fun _ y _ => (hi' + 1 - intOf y).toNat)
        case atStart =>
          exact ⟨0, by omega, by simp, own_keep hown g2.grownBy (fun g _ e => by cases e), hlen, hBel.trans (g2.below.mono hBel.size), c4.gr g2, c5.gr g2⟩
        case round =>
          clear c4 c5 hown hlen hBel
          obtain ⟨j, hj, rfl, hown, hlen, hBel, c4, c5⟩ := hrel
          obtain ⟨ao, cap, rfl, hPt, _⟩ := Pts.of_own hown
          obtain ⟨eH, ex, hle', hcond'⟩ := HQ.out
          by_cases hjH : j ≤ H
          · have hj1 : lo.2 + (j : Int) ≤ hi' := by omega
            have hpre := HPre.out j (by omega)
            by_cases h401 : (gath P Q s k i j).length = 401
            · have et : M = gath P Q s k i j := by rw [HM.out]; exact take_of_pre hpre h401
              have hown2 := hown
              rw [h401] at hown2
              have HE := hid0 (And.intro et (And.intro hown2 (And.intro hBel h401)))
              have h4 : ((gath P Q s k i j).length : Int) ≥ 401 := by omega
              clear et hpre hown hown2 hBel hPt
              go_wp2
              go_ret
              obtain ⟨et, hown, hBel, h401'⟩ := HE.out
              exact ⟨_, rfl, by rw [et, h401']; exact hown, hBel⟩
            · have hn4 : (gath P Q s k i j).length ≤ 400 := by omega
              have hn5 : ¬ ((gath P Q s k i j).length : Int) ≥ 401 := by omega
              have hG := HG.out j
              have h32 := HRs.out j hjH
              have ec : (rAt lo (0, 1) j).1 = X ∧ (rAt lo (0, 1) j).2 = lo.2 + j := by simp only [rAt]; omega
              have e1 : wrap32 X = (rAt lo (0, 1) j).1 := by rw [← ec.1]; exact w32_eq h32.1
              have e2 : wrap32 (lo.2 + j) = (rAt lo (0, 1) j).2 := by rw [← ec.2]; exact w32_eq h32.2
              have e3 : wrap64 (lo.2 + (j : Int) + 1) = lo.2 + ((j + 1 : Nat) : Int) := by
                have := h32.2
                rw [ec.2] at this
                rw [w64_in (by unfold in32 at this; unfold in64; omega)]
                omega
              have HH := hid0 (And.intro hG (And.intro hj1 hjH))
              clear ec h32 hG hPt hpre h401
              generalize rAt lo (0, 1) j = c at *
              generalize gath P Q s k i j = g at *
              have hw0 := hBel.size
              have hb8 : g.length + 1 ≤ maxLen := by unfold maxLen; omega
              go_wp2_with (at_builtin; refine wpList_append_own _ rfl (.tmp 69) (.tmp 75) 38 rfl w.heap.size 26 i0 (.agg #[.int .i32 0, .int .i32 0]) 2 8 Try.underlying38 hI0 hz0 hz1 hz2 rfl (by decide) (.slice ao g.length cap) g.length (flat g) rfl (hown.alloc _) ⟨wr.heap.size, 0, none⟩ 1 1 [.int .i32 c.1, .int .i32 c.2] rfl rfl (two_new _ _ _) (by simp [Value.oneCell']) hb8 (by omega) (by simp; omega) ?_; intro sv w8 hown' hgrow _)
              have nb4 := bk_not_row c4 (by decide) hown
              have nb5 := bk_not_row c5 (by decide) hown
              have d4 := (c4.alloc (.cells #[.int .i32 c.1, .int .i32 c.2] 26)).same (hgrow.block _ (by have := c4.lt; simp; omega) nb4)
              have d5 := (c5.alloc (.cells #[.int .i32 c.1, .int .i32 c.2] 26)).same (hgrow.block _ (by have := c5.lt; simp; omega) nb5)
              have hB8 : Below w.heap.size w w8 := ((hBel.alloc hw0 _).grown hgrow (by simp; omega) (fun g' e' => by
                rcases hown.2 with ⟨h, _⟩ | ⟨gg, cc, cu, h, hb, _⟩
                · rw [h] at e'; cases e'
                · rw [h] at e'
                  simp [Value.ownBlock] at e'
                  omega))
              obtain ⟨hG, hj1, hjH⟩ := HH.out
              go_roundw
              case rel =>
                refine ⟨j + 1, by omega, by rw [e3], ?_, ?_, hB8, d4, d5⟩
                · rw [hG, flat_one, List.length_append]; exact hown'
                · rw [hG, List.length_append]; simp; omega
              case measure => rw [e3]; simp only [intOf]; omega
          · have hj1 : ¬ lo.2 + (j : Int) ≤ hi' := by omega
            have ej : j = H + 1 := by omega
            have hN := HN.out
            rw [← ej] at hN
            have HH := hid0 (And.intro hN (And.intro hown (And.intro hlen hBel)))
            have hXb : wrap64 (X + 1) = X + 1 := by
              have h1 := (HRs.out 0 (by omega)).1
              have h2 : (rAt lo (0, 1) 0).1 = lo.1 := by simp [rAt]
              rw [h2, ex] at h1
              exact w64_in (by unfold in32 at h1; unfold in64; omega)
            clear hN hown hlen hBel hPt
            generalize gath P Q s k i j = g at *
            go_wp2
            go_roundw
            case rel =>
              obtain ⟨hN, hown, hlen, hBel⟩ := HH.out
              have := HI.out
              refine ⟨i + 1, by omega, by rw [hXb, ← hX]; exact congrArg (Value.int .i64) (by omega), ?_⟩
              rw [← hN]
              exact ⟨hown, hlen, hBel, c4, c5⟩
            case measure => have := HI.out; rw [hXb]; simp only [intOf]; omega
      · have ei : i = k + 1 := by omega
        have hc : ¬ P.1 / s + (i : Int) ≤ Q.1 / s := by rw [hk]; omega
        have hg : gath P Q s k i 0 = L := by rw [ei, HLn.out]; simp [gath, runL]
        have hM : M = gath P Q s k i 0 := by rw [HM.out, hg]; exact List.take_of_length_le (by rw [← hg]; omega)
        have HE := hid0 (And.intro hM (And.intro hown hBel))
        clear hg hM hown hBel ei hlen
        generalize P.1 / s + (i : Int) = X at *
        go_wp2
        go_ret
        obtain ⟨hM, hown, hBel⟩ := HE.out
        exact ⟨_, rfl, by rw [hM]; exact hown, hBel⟩

set_option maxRecDepth 20000 in
set_option maxHeartbeats 4000000 in
theorem rfirst_no (p q : C2) (s : Int) (hok : (szB s && plB p.1 p.2 && plB q.1 q.2) = false) (w : World) :
    Calls Try.prog 19 #[cv p, cv q, .int .i64 s, .int .i64 401] w fun e w' => e = .returned (.slice none 0 0) ∧ Gr w w' := by
  have S1 := hid0 (fits_any s)
  have S2 := hid0 (in_any p.1 p.2)
  have S3 := hid0 (in_any q.1 q.2)
  generalize szB s = t1 at *
  generalize plB p.1 p.2 = t2 at *
  generalize plB q.1 q.2 = t3 at *
  have b4 := (Bk.new w 23 [.int .i32 p.1, .int .i32 p.2]).alloc (.cells #[.int .i32 q.1, .int .i32 q.2] 23)
  have b5 := Bk.new (w.alloc (.cells #[.int .i32 p.1, .int .i32 p.2] 23)) 23 [.int .i32 q.1, .int .i32 q.2]
  have g0 : Gr w ((w.alloc (.cells #[.int .i32 p.1, .int .i32 p.2] 23)).alloc (.cells #[.int .i32 q.1, .int .i32 q.2] 23)) := ((Gr.refl _).alloc _).alloc _
  rw [World.size_alloc] at b5
  have HB := hid0 b5
  clear b5
  go_enter Try.func19, Try.ntmps19
  go_upto_region 2 with fail
  generalize (w.alloc (.cells #[.int .i32 p.1, .int .i32 p.2] 23)).alloc (.cells #[.int .i32 q.1, .int .i32 q.2] 23) = W at *
  obtain ⟨p0, p1⟩ := b4.two
  cases t1
  · go_wp2_with (go_at_call 24; refine (S1.out _).mono ?_; rintro e w1 ⟨rfl, rfl⟩)
    go_ret
    exact ⟨rfl, g0⟩
  · cases t2
    · go_wp2_with (first
        | (go_at_call 24; refine (S1.out _).mono ?_; rintro e w1 ⟨rfl, rfl⟩; clear S1)
        | (go_at_call 25; refine (S2.out _).mono ?_; rintro e w2 ⟨rfl, g2⟩; clear S2))
      go_ret
      exact ⟨rfl, g0.trans g2⟩
    · cases t3
      · go_wp2_with (first
          | (go_at_call 24; refine (S1.out _).mono ?_; rintro e w1 ⟨rfl, rfl⟩; clear S1)
          | (go_at_call 25; refine (S2.out _).mono ?_; rintro e w2 ⟨rfl, g2⟩; clear S2; obtain ⟨q0, q1⟩ := (HB.out.gr g2).two)
          | (go_at_call 25; refine (S3.out _).mono ?_; rintro e w3 ⟨rfl, g3⟩; clear S3))
        go_ret
        exact ⟨rfl, (g0.trans g2).trans g3⟩
      · cases hok
theorem rfirst_any (p q : C2) (s : Int) (w : World) :
    Calls Try.prog 19 #[cv p, cv q, .int .i64 s, .int .i64 401] w fun e w' => ∃ v, e = .returned v ∧ w'.ownsRow w.heap.size 26 2 v ((lineL p q s).take 401).length (flat ((lineL p q s).take 401)) ∧ Below w.heap.size w w' := by
  cases hok : (szB s && plB p.1 p.2 && plB q.1 q.2) with
  | true => exact rfirst_ok p q s hok w
  | false =>
    have e : lineL p q s = [] := by unfold lineL; rw [hok]; rfl
    rw [e]
    refine (rfirst_no p q s hok w).mono ?_
    rintro e w' ⟨rfl, g⟩
    exact ⟨_, rfl, World.ownsRow_nil _ _ _ _, g.below⟩
end Go.Proofs.Ytmoddfikhipagaa
