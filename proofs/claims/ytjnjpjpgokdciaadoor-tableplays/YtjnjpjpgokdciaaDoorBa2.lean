/- The law's bit: All, left behind so many; any other kind. -/
import Derived.Test.YtjnjpjpgokdciaaDoorBt
set_option linter.unusedSimpArgs false
set_option linter.unusedVariables false
namespace Go.Proofs.YtjnjpjpgokdciaaDoor
open Go.RowKit Go.Sort Go.Shelf

theorem BKept.below {w w' : World} {b : Nat} {v : Value} {W : List Nat} (h : BKept w b v W) (k : Below w.heap.size w w') : BKept w' b v W := h.kp (k.block _ h.cap.lt) (fun g e => k.block _ (h.row.lt e))
theorem RBits.below {w w' : World} {r q : Nat} {T : List Bool} (h : RBits w r q T) (k : Below w.heap.size w w') : RBits w' r q T := ⟨h.blk.mono k h.blk.lt, h.row.mono k h.row.lt⟩
theorem BitsIs.belowS {w w' : World} {b g : Nat} {T : List Bool} {W : List Nat} (h : BitsIs w b g T W) (k : Below w.heap.size w w') : BitsIs w' b g T W := ⟨h.blk.mono k h.blk.lt, h.row.mono k h.row.lt, h.rep, h.most⟩
theorem Tab.belowS {w w' : World} (h : Tab w) (k : Below w.heap.size w w') : Tab w' := fun j hj => below_cell (h j hj) k
theorem Is.take {w : World} {ao : Option Addr} {l : List Nat} (h : Is w ao l) (k : Nat) : Is w ao (l.take k) := fun j x hx => by
  rw [List.getElem?_take] at hx
  split at hx
  · exact h j x hx
  · cases hx
theorem leftLN_zero (L : List Nat) : leftLN 0 L = L := by unfold leftLN; rw [if_neg (by omega)]
theorem leftLN_part {L : List Nat} {k : Nat} (h1 : 0 < k) (h2 : k < L.length) : leftLN (k : Int) L = L.take k := by unfold leftLN; rw [if_pos ⟨by omega, by omega⟩, Int.toNat_natCast]
theorem leftLN_all {L : List Nat} {i : Int} (h : (L.length : Int) ≤ i) : leftLN i L = L := by
  unfold leftLN
  split
  · rw [List.take_of_length_le (by omega)]
  · rfl
theorem memT_len (T : List Bool) : (memT T).length ≤ T.length := memR_len
theorem numbers_w (b : Nat) (v : Value) (W0 : List Nat) (T : List Bool) (m : Int) (w : World) (hK : BKept w b v W0) (hT : Tab w) (hR : Rep T W0) :
    Calls Tryd.prog 33 #[.func (.func 52) #[] #[pT b], .int .i64 m] w fun e w' => ∃ ao cap, e = .returned (.slice ao (leftLN m (memT T)).length cap) ∧ Is w' ao (leftLN m (memT T)) ∧ Below w.heap.size w w' := by
  refine (numbers_any b v W0 m w hK hT).mono ?_
  rintro e w' ⟨u, rfl, h1, h2⟩
  rw [hR.mem] at h1
  obtain ⟨ao, cap, rfl, h3⟩ := OwnI.is h1
  exact ⟨ao, cap, rfl, h3, h2⟩
theorem OwnI.cap {W : World} {B : Nat} {ao : Option Addr} {n cap : Nat} {l : List Nat} (h : OwnI W B (.slice ao n cap) l) : l.length ≤ cap := by
  rcases h.2 with ⟨e, hn⟩ | ⟨g, c, cur, e, hg, hh, hle, _⟩
  · omega
  · cases e; exact hle
theorem rall_w {w : World} {r q : Nat} {T : List Bool} (h : RBits w r q T) (hl : T.length ≤ 65536) : Calls Tryd.prog 23 #[pT r] w fun e w' => ∃ ao cap, e = .returned (.slice ao (memT T).length cap) ∧ Is w' ao (memT T) ∧ Below w.heap.size w w' ∧ (memT T).length ≤ cap := by
  refine (rall_any h hl).mono ?_
  rintro e w' ⟨u, rfl, h1, h2⟩
  obtain ⟨ao, cap, rfl, h3⟩ := OwnI.is h1
  exact ⟨ao, cap, rfl, h3, h2, h1.cap⟩
section
variable {w : World} {b g r q : Nat} {T : List Bool} {W : List Nat}
set_option maxRecDepth 100000 in
set_option maxHeartbeats 2000000 in
theorem bit_all (h : BitsIs w b g T W) (k : RBits w r q T) (hT : Tab w) (vc vs : Value) (on wi i : Int) : Calls Tryd.prog 25 #[pT b, vc, pT r, vs, sV 9 on wi i] w (BitR b g r q w) := by
  have kx := Bk.new w 86 (sL 9 on wi i)
  have gx := (Gr.refl w).alloc (.cells (sL 9 on wi i).toArray 86)
  have H := h.gr gx
  have K := k.gr gx
  have TX := hT.gr gx
  clear h k hT
  go_enter Tryd.func25, Tryd.ntmps25
  go_upto_region 21 with fail
  generalize w.heap.size = bx at *
  generalize w.alloc _ = A at *
  have hm := H.most
  have RP := hid0 H.rep
  have C1 := hid0 (ball_any H)
  have HH := hid0 H
  have KH := hid0 K
  have TH := hid0 TX
  have GH := hid0 gx
  have KX := hid0 kx
  clear H K TX gx kx
  go_wp2_with fail
  refine C1.out.mono ?_
  rintro e w1 ⟨bt_, v, rfl, hK1, hb1, hv1, B1⟩
  have K1 := hid0 hK1
  have D1 := hid0 B1
  have C2 := hid0 (rall_w (KH.out.below B1) hm)
  clear C1 hK1 hb1 hv1 B1
  go_wp2_with fail
  refine C2.out.mono ?_
  rintro e w2 ⟨ao, cap, rfl, I2, B2, hcap⟩
  have IS2 := hid0 I2
  have K2 := hid0 (K1.out.below B2)
  have D2 := hid0 (D1.out.trans (B2.mono D1.out.size))
  have hml := memT_len T
  have hmm : (memT T).length ≤ 1000000 := by omega
  have x3 := ((KX.out.mono D2.out KX.out.lt)).at 3
  simp only [List.getElem?_cons_zero, List.getElem?_cons_succ] at x3
  clear C2 I2 B2 K1 D1
  obtain ⟨L, hL⟩ : ∃ L, L = memT T := ⟨_, rfl⟩
  rw [← hL] at IS2 hml hmm hcap ⊢
  have HL := hid0 hL
  clear hL
  have fin : ∀ (w3 : World), Below A.heap.size A w3 → (∃ T' W', BitsIs w3 b g T' W' ∧ RBits w3 r q T') ∧ Chg (fun k => k = g ∨ k = q) w w3 := fun w3 hB => by
    have hB' : Below A.heap.size A w3 := hB
    exact ⟨⟨T, W, HH.out.belowS hB', KH.out.below hB'⟩, (Chg.of_gr (p := fun k => k = g ∨ k = q) GH.out).trans (Chg.of_below hB')⟩
  have FIN := hid0 fin
  clear fin
  by_cases hi0 : i ≤ 0
  · have d1 : decide (i > 0) = false := decide_eq_false (by omega)
    have d2 : decide (i ≤ 0) = true := decide_eq_true hi0
    have d3 : ¬ i > 0 := by omega
    have C5 := hid0 (numbers_w bt_ v W T 0 w2 K2.out (TH.out.belowS D2.out) RP.out)
    rw [← HL.out, leftLN_zero] at C5
    go_wp2_with fail
    refine C5.out.mono ?_
    rintro e w5 ⟨a5, c5, rfl, I5, B5⟩
    have D5 := hid0 (D2.out.trans (B5.mono (D2.out).size))
    have C6 := hid0 (rall_w (KH.out.below D5.out) hm)
    have IS5 := hid0 I5
    rw [← HL.out] at C6
    clear C5 I5 B5
    go_wp2_with fail
    refine C6.out.mono ?_
    rintro e w6 ⟨a6, c6, rfl, I6, B6, -⟩
    have D6 := hid0 (D5.out.trans (B6.mono D5.out.size))
    have C7 := hid0 (same_ints a5 a6 c5 c6 L w6 (IS5.out.below B6) I6 hmm)
    clear C6 I6 B6 IS5 D5
    go_wp2_with fail
    refine C7.out.mono ?_
    rintro e w7 ⟨rfl, g7⟩
    have F := hid0 (FIN.out w7 (D6.out.trans (g7.below.mono D6.out.size)))
    clear C7 g7 D6 FIN
    go_wp2
    go_ret
    exact ⟨rfl, F.out.1, F.out.2⟩
  · have d1 : decide (i > 0) = true := decide_eq_true (by omega)
    have d2 : decide (i ≤ 0) = false := decide_eq_false hi0
    have d4 : i > 0 := by omega
    by_cases hil : i < (L.length : Int)
    · obtain ⟨kk, rfl⟩ : ∃ kk : Nat, i = kk := ⟨i.toNat, by omega⟩
      have hkl : kk < L.length := by omega
      have hkc : kk ≤ cap := by omega
      have hkc2 : (kk : Int) ≤ (cap : Int) := by omega
      have d3 : decide ((kk : Int) < (L.length : Int)) = true := decide_eq_true hil
      obtain ⟨P, hP⟩ : ∃ P, P = L.take kk := ⟨_, rfl⟩
      have eP : Hid (leftLN (kk : Int) L = P) := by rw [hP]; exact leftLN_part (by omega) hkl
      have IP : Hid (Is w2 ao P) := by rw [hP]; exact IS2.out.take kk
      have hPl : Hid (P.length = kk) := by show _ = _; rw [hP, List.length_take]; omega
      clear hP
      have C3 := hid0 (numbers_w bt_ v W T (kk : Int) w2 K2.out (TH.out.belowS D2.out) RP.out)
      rw [← HL.out, eP.out] at C3
      rw [hPl.out] at C3
      go_wp2_with fail
      refine C3.out.mono ?_
      rintro e w3 ⟨a3, c3, rfl, I3, B3⟩
      have D3 := hid0 (D2.out.trans (B3.mono D2.out.size))
      have K3 := hid0 (K2.out.below B3)
      have C4 := hid0 (same_ints a3 ao c3 cap P w3 I3 (IP.out.below B3) (by have := hPl.out; omega))
      rw [hPl.out] at C4
      clear C3 I3 B3 K2
      go_wp2_with fail
      refine C4.out.mono ?_
      rintro e w4 ⟨rfl, g4⟩
      have D4 := hid0 (D3.out.trans (g4.below.mono D3.out.size))
      have K4 := hid0 (K3.out.gr g4)
      clear C4 g4 D3 K3
      have C5 := hid0 (numbers_w bt_ v W T 0 w4 K4.out (TH.out.belowS D4.out) RP.out)
      rw [← HL.out, leftLN_zero] at C5
      go_wp2_with fail
      refine C5.out.mono ?_
      rintro e w5 ⟨a5, c5, rfl, I5, B5⟩
      have D5 := hid0 (D4.out.trans (B5.mono (D4.out).size))
      have C6 := hid0 (rall_w (KH.out.below D5.out) hm)
      have IS5 := hid0 I5
      rw [← HL.out] at C6
      clear C5 I5 B5
      go_wp2_with fail
      refine C6.out.mono ?_
      rintro e w6 ⟨a6, c6, rfl, I6, B6, -⟩
      have D6 := hid0 (D5.out.trans (B6.mono D5.out.size))
      have C7 := hid0 (same_ints a5 a6 c5 c6 L w6 (IS5.out.below B6) I6 hmm)
      clear C6 I6 B6 IS5 D5
      go_wp2_with fail
      refine C7.out.mono ?_
      rintro e w7 ⟨rfl, g7⟩
      have F := hid0 (FIN.out w7 (D6.out.trans (g7.below.mono D6.out.size)))
      clear C7 g7 D6 FIN
      go_wp2
      go_ret
      exact ⟨rfl, F.out.1, F.out.2⟩
    · have d3 : decide (i < (L.length : Int)) = false := decide_eq_false hil
      have d5 : ¬ i < (L.length : Int) := hil
      have eP : Hid (leftLN i L = L) := leftLN_all (by omega)
      have IP := hid0 IS2.out
      have hPl : Hid (L.length = L.length) := rfl
      have C3 := hid0 (numbers_w bt_ v W T i w2 K2.out (TH.out.belowS D2.out) RP.out)
      rw [← HL.out, eP.out] at C3
      go_wp2_with fail
      refine C3.out.mono ?_
      rintro e w3 ⟨a3, c3, rfl, I3, B3⟩
      have D3 := hid0 (D2.out.trans (B3.mono D2.out.size))
      have K3 := hid0 (K2.out.below B3)
      have C4 := hid0 (same_ints a3 ao c3 cap L w3 I3 (IP.out.below B3) (by exact hmm))
      clear C3 I3 B3 K2
      go_wp2_with fail
      refine C4.out.mono ?_
      rintro e w4 ⟨rfl, g4⟩
      have D4 := hid0 (D3.out.trans (g4.below.mono D3.out.size))
      have K4 := hid0 (K3.out.gr g4)
      clear C4 g4 D3 K3
      have C5 := hid0 (numbers_w bt_ v W T 0 w4 K4.out (TH.out.belowS D4.out) RP.out)
      rw [← HL.out, leftLN_zero] at C5
      go_wp2_with fail
      refine C5.out.mono ?_
      rintro e w5 ⟨a5, c5, rfl, I5, B5⟩
      have D5 := hid0 (D4.out.trans (B5.mono (D4.out).size))
      have C6 := hid0 (rall_w (KH.out.below D5.out) hm)
      have IS5 := hid0 I5
      rw [← HL.out] at C6
      clear C5 I5 B5
      go_wp2_with fail
      refine C6.out.mono ?_
      rintro e w6 ⟨a6, c6, rfl, I6, B6, -⟩
      have D6 := hid0 (D5.out.trans (B6.mono D5.out.size))
      have C7 := hid0 (same_ints a5 a6 c5 c6 L w6 (IS5.out.below B6) I6 hmm)
      clear C6 I6 B6 IS5 D5
      go_wp2_with fail
      refine C7.out.mono ?_
      rintro e w7 ⟨rfl, g7⟩
      have F := hid0 (FIN.out w7 (D6.out.trans (g7.below.mono D6.out.size)))
      clear C7 g7 D6 FIN
      go_wp2
      go_ret
      exact ⟨rfl, F.out.1, F.out.2⟩
end
end Go.Proofs.YtjnjpjpgokdciaaDoor
