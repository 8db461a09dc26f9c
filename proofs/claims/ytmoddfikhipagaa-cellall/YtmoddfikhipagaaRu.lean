/- The reference's Cover. -/
import Derived.Test.YtmoddfikhipagaaRk
import Derived.Test.YtmoddfikhipagaaRl
set_option linter.unusedSimpArgs false
set_option linter.unusedVariables false
namespace Go.Proofs.Ytmoddfikhipagaa
open Go.RowKit Go.Sort Go.Shelf

theorem own_low {W : World} {base base' : Nat} {e : TypeId} {size : Nat} {v : Value} {n : Nat} {xs : List Value} (h : W.ownsRow base e size v n xs) (hb : base' ≤ base) : W.ownsRow base' e size v n xs := by
  refine ⟨h.1, ?_⟩
  rcases h.2 with h | ⟨g, c, u, h1, h2, h3⟩
  · exact .inl h
  · exact .inr ⟨g, c, u, h1, Nat.le_trans hb h2, h3⟩
def gathC (f : C2) (kx i j : Nat) : List C2 := (runL f (0, 1) i).flatMap (rowC kx) ++ runL (rAt f (0, 1) i) (1, 0) j
theorem gathC_succ (f : C2) (kx i j : Nat) : gathC f kx i (j + 1) = gathC f kx i j ++ [rAt (rAt f (0, 1) i) (1, 0) j] := by unfold gathC; rw [runL_succ, List.append_assoc]
theorem gathC_next (f : C2) (kx i : Nat) : gathC f kx i (kx + 1) = gathC f kx (i + 1) 0 := by
  unfold gathC
  rw [runL_succ f (0, 1) i, List.flatMap_append, List.flatMap_cons, List.flatMap_nil, List.append_nil]
  show _ ++ rowC _ _ = _ ++ rowC _ _ ++ runL _ _ 0
  simp [runL]
theorem gathC_pre (f : C2) (kx ky i j : Nat) (hi : i ≤ ky) (hj : j ≤ kx + 1) : gathC f kx i j <+: (runL f (0, 1) (ky + 1)).flatMap (rowC kx) := by
  obtain ⟨t, ht⟩ := runL_pre f (0, 1) (show i + 1 ≤ ky + 1 by omega)
  obtain ⟨t2, ht2⟩ := runL_pre (rAt f (0, 1) i) (1, 0) hj
  refine ⟨t2 ++ t.flatMap (rowC kx), ?_⟩
  rw [← ht, runL_succ]
  unfold gathC
  simp only [List.flatMap_append, List.flatMap_cons, List.flatMap_nil, List.append_nil, List.append_assoc]
  rw [← List.append_assoc (runL _ _ _) t2, ht2]
  rfl
/-- What the reference has gathered. -/
def GatC (w : World) (B b8 b10 : Nat) (X Y Z U : Int) (g : List C2) (v : Value) (wr : World) : Prop :=
  wr.ownsRow B 26 2 v g.length (flat g) ∧ g.length ≤ 401 ∧ Below w.heap.size w wr ∧ B ≤ wr.heap.size ∧ Bk wr b8 26 [.int .i32 X, .int .i32 Y] ∧ Bk wr b10 26 [.int .i32 Z, .int .i32 U]

set_option maxRecDepth 20000 in
set_option maxHeartbeats 8000000 in
theorem rcover_yes (a b c d s X Y Z U : Int) (kx ky : Nat) (L M : List C2) (w : World)
    (S1 : Hid (∀ w, Calls Try.prog 24 #[.int .i64 s] w fun e w' => e = .returned (.bool true) ∧ w' = w)) (S2 : Hid (∀ w, Calls Try.prog 35 #[bx a b c d] w fun e w' => e = .returned (.bool true) ∧ Gr w w'))
    (O1 : Hid (∀ w, Calls Try.prog 8 #[pt a b, .int .i64 s] w fun e w' => e = .returned (.tuple #[pt X Y, .int .i64 0]) ∧ Gr w w')) (O2 : Hid (∀ w, Calls Try.prog 8 #[pt c d, .int .i64 s] w fun e w' => e = .returned (.tuple #[pt Z U, .int .i64 0]) ∧ Gr w w'))
    (hZ : Z = X + kx) (hU : U = Y + ky) (lX : -1073741823 ≤ X) (lY : -1073741823 ≤ Y) (lZ : Z ≤ 1073741823) (lU : U ≤ 1073741823)
    (HLn : Hid (L = (runL (X, Y) (0, 1) (ky + 1)).flatMap (rowC kx))) (HM : Hid (M = L.take 401)) :
    Calls Try.prog 14 #[bx a b c d, .int .i64 s, .int .i64 401] w fun e w' => ∃ v, e = .returned v ∧ w'.ownsRow w.heap.size 26 2 v M.length (flat M) ∧ Below w.heap.size w w' := by
  obtain ⟨i0, hI0, hz0, hz1, hz2⟩ := info_parts Try.info26
  have kb := Bk.new w 25 [.int .i32 a, .int .i32 b, .int .i32 c, .int .i32 d]
  have gW : Gr w (w.alloc (.cells #[.int .i32 a, .int .i32 b, .int .i32 c, .int .i32 d] 25)) := (Gr.refl _).alloc _
  have HB := hid0 (And.intro hZ (And.intro hU (And.intro lX (And.intro lY (And.intro lZ lU)))))
  clear hZ hU lX lY lZ lU
  go_enter Try.func14, Try.ntmps14
  go_upto_region 2 with fail
  generalize w.alloc (.cells #[.int .i32 a, .int .i32 b, .int .i32 c, .int .i32 d] 25) = W0 at *
  obtain ⟨p0, p1, p2, p3⟩ := kb.four
  go_upto_region 4 with (first
    | (go_at_call 24; refine (S1.out _).mono ?_; rintro e w1 ⟨rfl, rfl⟩; clear S1)
    | (go_at_call 35; refine (S2.out _).mono ?_; rintro e W ⟨rfl, g2⟩; clear S2))
  replace kb := kb.gr g2
  replace gW := gW.trans g2
  clear p0 p1 p2 p3 g2
  obtain ⟨p0, p1, p2, p3⟩ := kb.four
  go_upto_region 5 with (go_at_call 8; refine (O1.out _).mono ?_; rintro e w4 ⟨rfl, g4⟩; clear O1)
  have c8 := Bk.new w4 26 [.int .i32 X, .int .i32 Y]
  have gX := (gW.trans g4).alloc (.cells #[.int .i32 X, .int .i32 Y] 26)
  have kbX := (kb.gr g4).alloc (.cells #[.int .i32 X, .int .i32 Y] 26)
  clear p0 p1 p2 p3 kb gW
  generalize w4.alloc (.cells #[.int .i32 X, .int .i32 Y] 26) = W5 at *
  obtain ⟨b8, hb8⟩ : ∃ b8, b8 = w4.heap.size := ⟨_, rfl⟩
  rw [← hb8] at c8 ⊢
  clear hb8
  obtain ⟨p0, p1, p2, p3⟩ := kbX.four
  go_upto_region 6 with (go_at_call 8; refine (O2.out _).mono ?_; rintro e w6 ⟨rfl, g6⟩; clear O2)
  have c10 := Bk.new w6 26 [.int .i32 Z, .int .i32 U]
  have gF := (gX.trans g6).alloc (.cells #[.int .i32 Z, .int .i32 U] 26)
  have d8 := (c8.gr g6).alloc (.cells #[.int .i32 Z, .int .i32 U] 26)
  clear p0 p1 p2 p3 kbX gX c8 g6 g4
  generalize w6.alloc (.cells #[.int .i32 Z, .int .i32 U] 26) = W7 at *
  obtain ⟨b10, hb10⟩ : ∃ b10, b10 = w6.heap.size := ⟨_, rfl⟩
  rw [← hb10] at c10 ⊢
  clear hb10
  have h8 := d8.lt
  have h10 := c10.lt
  obtain ⟨B, hBB⟩ : ∃ B, B = W7.heap.size := ⟨_, rfl⟩
  rw [← hBB] at h8 h10
  have hBw : w.heap.size ≤ B := by rw [hBB]; exact gF.size
  have hBl : B ≤ W7.heap.size := by omega
  have HBN := hid0 (And.intro h8 (And.intro h10 hBw))
  clear hBB h8 h10 hBw
  obtain ⟨p0, p1⟩ := d8.two
  obtain ⟨q0, q1⟩ := c10.two
  go_wp2
  clear p0 p1 q0 q1
  go_loopw [7, 12] (fun v y wr => ∃ i : Nat, i ≤ ky + 1 ∧ y = .int .i32 (Y + i) ∧ GatC w B b8 b10 X Y Z U (gathC (X, Y) kx i 0) v wr) (fun _ y _ => (Y + ky + 1 - intOf y).toNat)
  case atStart => exact ⟨0, by omega, by simp, World.ownsRow_nil _ _ _ _, by simp [gathC, runL], gF.below, hBl, d8, c10⟩
  case round =>
    clear d8 c10 gF hBl
    obtain ⟨i, hi, rfl, hown, hlen, hBel, hBl, d8, c10⟩ := hrel
    obtain ⟨p0, p1⟩ := d8.two
    obtain ⟨q0, q1⟩ := c10.two
    by_cases hik : i ≤ ky
    · have hcond : Y + i ≤ U := by have := HB.out; omega
      have HI := hid0 (And.intro hi (And.intro hik hcond))
      clear hi hik
      obtain ⟨yy, hyy⟩ : ∃ yy : Int, yy = Y + i := ⟨_, rfl⟩
      rw [← hyy] at hcond ⊢
      have HY := hid0 hyy
      clear hyy
      go_wp2
      clear p0 p1 q0 q1
      go_loopw [7, 13] (fun v x wr2 => ∃ j : Nat, j ≤ kx + 1 ∧ x = .int .i32 (X + j) ∧ GatC w B b8 b10 X Y Z U (gathC (X, Y) kx i j) v wr2) (fun _ x _ => (X + kx + 1 - intOf x).toNat)
      case atStart => exact ⟨0, by omega, by simp, hown, hlen, hBel, hBl, d8, c10⟩
      case round =>
        clear d8 c10 hown hlen hBel hBl
        obtain ⟨j, hj, rfl, hown, hlen, hBel, hBl, d8, c10⟩ := hrel
        obtain ⟨p0, p1⟩ := d8.two
        obtain ⟨q0, q1⟩ := c10.two
        obtain ⟨ao, cap, rfl, hPt, _⟩ := Pts.of_own hown
        obtain ⟨bZ, bU, bX, bY, bZ', bU'⟩ := HB.out
        obtain ⟨hi, hik, hcond⟩ := HI.out
        obtain ⟨n8, n10, hBw⟩ := HBN.out
        by_cases hjH : j ≤ kx
        · have hj1 : X + (j : Int) ≤ Z := by omega
          have hpre : gathC (X, Y) kx i j <+: L := by rw [HLn.out]; exact gathC_pre (X, Y) kx ky i j hik (by omega)
          by_cases h401 : (gathC (X, Y) kx i j).length = 401
          · have et : M = gathC (X, Y) kx i j := by rw [HM.out]; exact take_of_pre hpre h401
            have hown2 := own_low hown hBw
            rw [h401] at hown2
            have HE := hid0 (And.intro et (And.intro hown2 (And.intro hBel h401)))
            have h4 : ((gathC (X, Y) kx i j).length : Int) ≥ 401 := by omega
            clear et hpre hown hown2 hBel hPt bZ bU bX bY bZ' bU'
            go_wp2
            go_ret
            obtain ⟨et, hown, hBel, h401'⟩ := HE.out
            exact ⟨_, rfl, by rw [et, h401']; exact hown, hBel⟩
          · have hn4 : (gathC (X, Y) kx i j).length ≤ 400 := by omega
            have hn5 : ¬ ((gathC (X, Y) kx i j).length : Int) ≥ 401 := by omega
            have hG := gathC_succ (X, Y) kx i j
            have ec : rAt (rAt (X, Y) (0, 1) i) (1, 0) j = (X + j, yy) := by
              rw [HY.out]; simp [rAt]
            rw [ec] at hG
            have e3 : wrap32 (X + (j : Int) + 1) = X + ((j + 1 : Nat) : Int) := by
              rw [w32_eq (by unfold in32; omega)]
              omega
            have HH := hid0 (And.intro hG (And.intro hj1 (And.intro hjH (And.intro n8 (And.intro n10 hBw)))))
            clear ec hG hPt hpre h401 bZ bU bX bY bZ' bU' hi hik n8 n10 hBw
            obtain ⟨xx, hxx⟩ : ∃ xx : Int, xx = X + j := ⟨_, rfl⟩
            rw [← hxx] at e3 HH hj1 ⊢
            have HX := hid0 hxx
            clear hxx
            generalize gathC (X, Y) kx i j = g at *
            have hb8 : g.length + 1 ≤ maxLen := by unfold maxLen; omega
            have hw0 : B ≤ wr.heap.size := hBl
            go_wp2_with (at_builtin; refine wpList_append_own _ rfl (.tmp 57) (.tmp 61) 38 rfl B 26 i0 (.agg #[.int .i32 0, .int .i32 0]) 2 8 Try.underlying38 hI0 hz0 hz1 hz2 rfl (by decide) (.slice ao g.length cap) g.length (flat g) rfl (hown.alloc _) ⟨wr.heap.size, 0, none⟩ 1 1 [.int .i32 xx, .int .i32 yy] rfl rfl (two_new _ _ _) (by simp [Value.oneCell']) hb8 (by omega) (by simp; omega) ?_; intro sv w8 hown' hgrow _)
            obtain ⟨hG, hj1, hjH, n8, n10, hBw⟩ := HH.out
            have hlt : ∀ q : Nat, q < B → some q ≠ (Value.slice ao g.length cap).ownBlock := fun q hq e' => by
              have := (hown.lt q e'.symm).1
              omega
            have e8 := (d8.alloc (.cells #[.int .i32 xx, .int .i32 yy] 26)).same (hgrow.block _ (by have := d8.lt; simp; omega) (hlt _ n8))
            have e10 := (c10.alloc (.cells #[.int .i32 xx, .int .i32 yy] 26)).same (hgrow.block _ (by have := c10.lt; simp; omega) (hlt _ n10))
            have hB8 : Below w.heap.size w w8 := ((hBel.alloc (by omega) _).grown hgrow (by simp; omega) (fun g' e' => by
              rcases hown.2 with ⟨h, _⟩ | ⟨gg, cc, cu, h, hb, _⟩
              · rw [h] at e'; cases e'
              · rw [h] at e'
                simp [Value.ownBlock] at e'
                omega))
            have hBl8 : B ≤ w8.heap.size := by have := hgrow.size; have e9 := World.size_alloc wr (.cells #[.int .i32 xx, .int .i32 yy] 26); omega
            go_roundw
            case rel =>
              refine ⟨j + 1, by omega, by rw [e3], ?_, ?_, hB8, hBl8, e8, e10⟩
              · rw [hG, flat_one, List.length_append]; exact hown'
              · rw [hG, List.length_append]; simp; omega
            case measure => have := HX.out; rw [e3]; simp only [intOf]; omega
        · have hj1 : ¬ X + (j : Int) ≤ Z := by omega
          have ej : j = kx + 1 := by omega
          have hN := gathC_next (X, Y) kx i
          rw [← ej] at hN
          have hYb : wrap32 (yy + 1) = yy + 1 := w32_eq (by have := HY.out; unfold in32; omega)
          have HH := hid0 (And.intro hN (And.intro hown (And.intro hlen (And.intro hBel hBl))))
          clear hN hown hlen hBel hPt bZ bU bX bY bZ' bU' hi hik n8 n10 hBw hBl
          generalize gathC (X, Y) kx i j = g at *
          go_wp2
          go_roundw
          case rel =>
            obtain ⟨hN, hown, hlen, hBel, hBl⟩ := HH.out
            have := HI.out
            refine ⟨i + 1, by omega, by rw [hYb, HY.out]; exact congrArg (Value.int .i32) (by omega), ?_⟩
            rw [← hN]
            exact ⟨hown, hlen, hBel, hBl, d8, c10⟩
          case measure => have := HI.out; have := HY.out; rw [hYb]; simp only [intOf]; omega
    · have ei : i = ky + 1 := by omega
      have hc : ¬ Y + (i : Int) ≤ U := by have := HB.out; omega
      have hg : gathC (X, Y) kx i 0 = L := by rw [ei, HLn.out]; simp [gathC, runL]
      have hM : M = gathC (X, Y) kx i 0 := by rw [HM.out, hg]; exact List.take_of_length_le (by rw [← hg]; omega)
      have HE := hid0 (And.intro hM (And.intro (own_low hown HBN.out.2.2) hBel))
      clear hg hM hown hBel ei hlen
      generalize Y + (i : Int) = yy at *
      go_wp2
      go_ret
      obtain ⟨hM, hown, hBel⟩ := HE.out
      exact ⟨_, rfl, by rw [hM]; exact hown, hBel⟩

set_option maxHeartbeats 4000000 in
theorem rcover_no (a b c d s : Int) (w : World) (hok : (szB s && rtB a b c d) = false) :
    Calls Try.prog 14 #[bx a b c d, .int .i64 s, .int .i64 401] w fun e w' => ∃ v, e = .returned v ∧ w'.ownsRow w.heap.size 26 2 v 0 [] ∧ Below w.heap.size w w' := by
  have S1 := hid0 (fits_any s)
  have S2 := hid0 (right_any a b c d)
  generalize szB s = b1 at *
  generalize rtB a b c d = b2 at *
  have kb := Bk.new w 25 [.int .i32 a, .int .i32 b, .int .i32 c, .int .i32 d]
  have gW : Gr w (w.alloc (.cells #[.int .i32 a, .int .i32 b, .int .i32 c, .int .i32 d] 25)) := (Gr.refl _).alloc _
  go_enter Try.func14, Try.ntmps14
  go_upto_region 2 with fail
  generalize w.alloc (.cells #[.int .i32 a, .int .i32 b, .int .i32 c, .int .i32 d] 25) = W0 at *
  obtain ⟨p0, p1, p2, p3⟩ := kb.four
  cases b1
  · go_wp2_with (go_at_call 24; refine (S1.out _).mono ?_; rintro e w1 ⟨rfl, rfl⟩; clear S1)
    go_ret
    exact ⟨_, rfl, World.ownsRow_nil _ _ _ _, gW.below⟩
  · cases b2
    · go_wp2_with (first
        | (go_at_call 24; refine (S1.out _).mono ?_; rintro e w1 ⟨rfl, rfl⟩; clear S1)
        | (go_at_call 35; refine (S2.out _).mono ?_; rintro e W ⟨rfl, g2⟩; clear S2))
      go_ret
      exact ⟨_, rfl, World.ownsRow_nil _ _ _ _, (gW.trans g2).below⟩
    · cases hok

theorem rcover_any (a b c d s : Int) (w : World) :
    Calls Try.prog 14 #[bx a b c d, .int .i64 s, .int .i64 401] w fun e w' => ∃ v, e = .returned v ∧ w'.ownsRow w.heap.size 26 2 v ((covL a b c d s).take 401).length (flat ((covL a b c d s).take 401)) ∧ Below w.heap.size w w' := by
  cases hok : (szB s && rtB a b c d) with
  | false =>
    have e : covL a b c d s = [] := by unfold covL; rw [hok]; rfl
    rw [e]; exact rcover_no a b c d s w hok
  | true =>
    have hok' := hok
    rw [Bool.and_eq_true] at hok'
    obtain ⟨hz, hr⟩ := hok'
    obtain ⟨ha, hb, hc, hd, hac, hbd⟩ := rt_32 hr
    obtain ⟨hs1, hs2⟩ := szB_iff.1 hz
    have S1 := fits_any s
    rw [hz] at S1
    have S2 := right_any a b c d
    rw [hr] at S2
    have e1 : a / s ≤ c / s := Int.ediv_le_ediv (by omega) hac
    have e2 : b / s ≤ d / s := Int.ediv_le_ediv (by omega) hbd
    obtain ⟨q1, q2, q3, q4⟩ := rtB_iff.1 hr
    have hp1 := plB_iff.1 q1
    have hp2 := plB_iff.1 q2
    have bnd : ∀ x, -1073741823 ≤ x ∧ x ≤ 1073741823 → -1073741823 ≤ x / s ∧ x / s ≤ 1073741823 := by
      intro x hx
      constructor
      · rw [Int.le_ediv_iff_mul_le (by omega)]
        have : -1073741823 * s ≤ -1073741823 * 1 := by omega
        omega
      · rcases Int.lt_or_le x 0 with h | h
        · have := Int.ediv_neg_of_neg_of_pos h (by omega : 0 < s); omega
        · have := Int.ediv_le_self s h; omega
    have ea := bnd a hp1.1
    have eb := bnd b hp1.2
    have ec := bnd c hp2.1
    have ed := bnd d hp2.2
    have eL : covL a b c d s = (runL (a / s, b / s) (0, 1) (kxOf b d s + 1)).flatMap (rowC (kxOf a c s)) := by unfold covL; rw [hok]; rfl
    exact rcover_yes a b c d s (a / s) (b / s) (c / s) (d / s) (kxOf a c s) (kxOf b d s) (covL a b c d s) _ w (hid0 S1) (hid0 S2) (hid0 (rof_yes a b s ha hb hz)) (hid0 (rof_yes c d s hc hd hz)) (by unfold kxOf; omega) (by unfold kxOf; omega) (by omega) (by omega) (by omega) (by omega) (hid0 eL) (hid0 rfl)
end Go.Proofs.Ytmoddfikhipagaa
