/- lives: the closed call of each law. -/
import Derived.Test.YtjnjpjpgokdciaaDoorBf
import Derived.Test.YtjnjpjpgokdciaaDoorDe
import Derived.Test.YtjnjpjpgokdciaaDoorOf
set_option linter.unusedSimpArgs false
set_option linter.unusedVariables false
namespace Go.Proofs.YtjnjpjpgokdciaaDoor
open Go.RowKit Go.Sort Go.Shelf

theorem Tab.below {w w' : World} (h : Tab w) (k : Below w.heap.size w w') : Tab w' := fun j hj => below_cell (h j hj) k
theorem BitsIs.below {w w' : World} {b g B : Nat} {T : List Bool} {W : List Nat} (h : BitsIs w b g T W) (k : Below B w w') (h1 : b < B) (h2 : g < B) : BitsIs w' b g T W := ⟨h.blk.mono k h1, h.row.mono k h2, h.rep, h.most⟩
theorem cut_one (n : Int) (b : Nat) {i : Nat} (h : Cut [(9, n, b)] 9 i) : i = 0 := by
  have := h.is 0 (9, n, b) rfl
  omega
theorem cut_nil {id : Int} {i : Nat} (h : Cut [] id i) : i = 0 := by have := h.le; simpa using this
theorem least69 {r : Int} (h : IsLeast (pT_ ((List.replicate 70 false).set 69 true) 0 true) ((List.replicate 70 false).set 69 true).length r) : r = 69 := by
  refine h.uniq (.inr ⟨69, by decide, rfl, by decide, ?_⟩)
  decide
set_option maxHeartbeats 1000000 in
theorem lives_any (w : World) (hT : Tab w) : Calls Tryd.prog 8 #[] w fun e w' => e = .returned (.bool true) ∧ Below w.heap.size w w' := by
  have NW : Hid (Calls Tryd.prog 6 #[.int .i64 1] w fun e w' => ∃ t, e = .returned (.tuple #[pT t, .int .i64 0]) ∧ TabIs w.heap.size w' t 1 (.slice none 0 0) [] ∧ Gr w w') := by
    have := new_yes 1 w (by omega)
    exact this
  have HT := hid0 hT
  clear hT
  go_enter Tryd.func8, Tryd.ntmps8
  go_wp2_with fail
  refine NW.out.mono ?_
  rintro e w1 ⟨t, rfl, h1, g1⟩
  have T1 := hid0 h1
  have G1 := hid0 g1
  have NB : Hid (Calls Tryd.prog 20 #[.int .i64 70] w1 (NewBitsR 70 w1)) := by
    have := newbits_yes 70 w1 (by omega)
    exact this
  clear NW h1 g1
  go_wp2_with fail
  refine NB.out.mono ?_
  rintro e w2 ⟨b, g, W, rfl, hb, hg, h2, g2⟩
  have B2 := hid0 h2
  have T2 := hid0 (T1.out.gr g2)
  have G2 := hid0 (G1.out.trans g2)
  have O4 := hid0 (of_any 4 w2)
  have hwb : w.heap.size ≤ b := by have := G1.out.size; omega
  have hwg : w.heap.size ≤ g := by have := G1.out.size; omega
  clear NB h2 g2 T1 G1
  go_wp2_with fail
  refine O4.out.mono ?_
  rintro e w3 ⟨rfl, g3⟩
  have B3 := hid0 (B2.out.gr g3)
  have G3 := hid0 (G2.out.trans g3)
  have P := hid0 (put_any (T2.out.gr g3) G3.out.size 9 4)
  have ht3 := (T2.out.gr g3).blk
  have ht0 := T2.out.t0
  clear O4 B2 T2 G2 g3
  go_wp2_with fail
  refine P.out.mono ?_
  rintro e w4 ⟨i, hc, C4, hcase⟩
  obtain rfl := cut_nil hc
  obtain ⟨nb, v', rfl, hT4⟩ : ∃ nb v', e = .returned (.tuple #[vV 0, .int .i64 0]) ∧ TabIs w.heap.size w4 t 1 v' [(9, 4, nb)] := by
    rcases hcase with ⟨h, _⟩ | ⟨_, h, _⟩ | ⟨_, _, h, nb, v', _, hT, _⟩
    · exact absurd h (by simp [there])
    · simp at h
    · exact ⟨nb, v', h, hT⟩
  have hbt : b ≠ t := fun e => by subst e; have := bk_ty B3.out.blk ht3; cases this
  have hgt : g ≠ t := fun e => by subst e; have := bk_ty B3.out.row ht3; cases this
  have B4 := hid0 (B3.out.chg C4 (fun e => by rcases e with e | e; exact hbt e; cases e) (fun e => by rcases e with e | e; exact hgt e; cases e))
  have D4 : Hid (Below w.heap.size w w4) := by
    have h := C4.below (B := w.heap.size) G3.out.size (fun k e => by rcases e with rfl | e; exact ht0; cases e)
    exact G3.out.below.trans h
  have GT := hid0 (get_any hT4 9)
  clear P hc C4 hcase hT4 hbt hgt ht3 B3 G3
  go_wp2_with fail
  refine GT.out.mono ?_
  rintro e w5 ⟨i, hc, hcase, g5⟩
  obtain rfl := cut_one _ _ hc
  obtain rfl : e = .returned (.tuple #[vV 4, .bool true]) := by
    rcases hcase with ⟨_, h⟩ | ⟨h, _⟩
    · exact h
    · exact absurd h (by simp [there])
  have kV := Bk.new w5 32 (vL 4)
  have gV := (Gr.refl w5).alloc (.cells (vL 4).toArray 32)
  have B5 := hid0 ((B4.out.gr g5).gr gV)
  have D5 : Hid (Below w.heap.size w (w5.alloc (.cells (vL 4).toArray 32))) := by
    have h := (g5.trans gV).below.mono D4.out.size
    exact D4.out.trans h
  have hvw : w.heap.size ≤ w5.heap.size := by have := D4.out.size; have := g5.size; omega
  clear GT hc hcase g5 B4 D4 gV
  go_upto_region 7 with fail
  generalize w5.heap.size = vb at *
  generalize w5.alloc _ = A at *
  have gD := (Gr.refl A).drew
  have SD := hid0 (kV.gr gD)
  have BD := hid0 (B5.out.gr gD)
  have DD : Hid (Below w.heap.size w A.drew) := D5.out.trans (gD.below.mono D5.out.size)
  have OD := hid0 (of_any 4 A.drew)
  have hvg : vb ≠ g := fun e => by subst e; have := bk_ty kV B5.out.row; cases this
  have f0 : ∀ V, Bk V vb 32 (vL 4) → V.cell? ⟨vb, 0, none⟩ = some (.int .i64 4) := fun V hV => hV.at 0
  have f1 : ∀ V, Bk V vb 32 (vL 4) → V.cell? ⟨vb, 1, none⟩ = some (.string (sB 4)) := fun V hV => hV.at 1
  clear kV B5 D5 gD
  go_region_held3 (fun V => Bk V vb 32 (vL 4))
    (first
      | assumption
      | exact SD.out)
    (first
      | (go_at_call 31; refine LE.out.mono ?_; rintro e v5 ⟨r, rfl, hr, hw⟩; cases hw; obtain rfl := least69 hr)
      | (go_at_call 36; refine HB.out.mono ?_; rintro e v4 ⟨rfl, g4⟩; have s4 := s3.gr g4; have b4 := b3.gr g4; have d4 := hid0 (d3.out.trans (g4.below.mono d3.out.size)); have LE : Hid (Calls Tryd.prog 31 #[pT b, .int .i64 0] v4 fun e w' => ∃ r, e = .returned (.int .i64 r) ∧ IsLeast (pT_ ((List.replicate 70 false).set 69 true) 0 true) ((List.replicate 70 false).set 69 true).length r ∧ w' = v4) := least_any b4 (HT.out.below d4.out) 0 (by unfold in64; omega))
      | (go_at_call 36; refine HA.out.mono ?_; rintro e v3 ⟨rfl, g3⟩; have s3 := s2.gr g3; have b3 := b2.gr g3; have d3 := hid0 (d2.out.trans (g3.below.mono d2.out.size)); have HB : Hid (Calls Tryd.prog 36 #[pT b, .int .i64 2] v3 fun e w' => e = .returned (.bool false) ∧ Gr v3 w') := has_in b3 2 (by decide))
      | (go_at_call 29; refine AD.out.mono ?_; rintro e v2 ⟨rfl, ⟨W2, b2⟩, c2⟩; have s2 := s1.chg c2 hvg; have d2 := hid0 (d1.out.trans (c2.below d1.out.size (fun k e => by rw [e]; exact hwg))); have HA : Hid (Calls Tryd.prog 36 #[pT b, .int .i64 69] v2 fun e w' => e = .returned (.bool true) ∧ Gr v2 w') := has_in b2 69 (by decide))
      | (go_at_call 16; refine OD.out.mono ?_; rintro e v1 ⟨rfl, g1⟩; have s1 := SD.out.gr g1; have b1 := BD.out.gr g1; have d1 := hid0 (DD.out.trans (g1.below.mono DD.out.size)); have AD : Hid (Calls Tryd.prog 29 #[pT b, .int .i64 69] v1 fun e w' => e = .returned (.bool true) ∧ (∃ W', BitsIs w' b g ((List.replicate 70 false).set 69 true) W') ∧ Chg (fun j => j = g) v1 w') := add_yes b1 69 (by decide) (by decide)))
  go_wp2
  go_ret
  exact ⟨rfl, d4.out⟩
end Go.Proofs.YtjnjpjpgokdciaaDoor
