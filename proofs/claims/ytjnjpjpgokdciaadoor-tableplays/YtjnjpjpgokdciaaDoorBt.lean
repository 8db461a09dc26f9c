/- The law's bit: one call played on a set and on the document's own. -/
import Derived.Test.YtjnjpjpgokdciaaDoorBw
set_option linter.unusedSimpArgs false
set_option linter.unusedVariables false
namespace Go.Proofs.YtjnjpjpgokdciaaDoor
open Go.RowKit Go.Sort Go.Shelf

abbrev sV (d on wi i : Int) : Value := .agg #[.int .i64 d, .int .i64 on, .int .i64 wi, .int .i64 i]
abbrev sL (d on wi i : Int) : List Value := [.int .i64 d, .int .i64 on, .int .i64 wi, .int .i64 i]
def BitR (b g r q : Nat) (w : World) (e : Ending) (w' : World) : Prop := e = .returned (.bool true) ∧ (∃ T' W', BitsIs w' b g T' W' ∧ RBits w' r q T') ∧ Chg (fun k => k = g ∨ k = q) w w'
theorem Chg.lft {g q : Nat} {w w' : World} (h : Chg (fun k => k = g) w w') : Chg (fun k => k = g ∨ k = q) w w' := h.wide (fun _ _ e => .inl e)
theorem Chg.rgt {g q : Nat} {w w' : World} (h : Chg (fun k => k = q) w w') : Chg (fun k => k = g ∨ k = q) w w' := h.wide (fun _ _ e => .inr e)
section
variable {w w' : World} {b g r q : Nat} {T U : List Bool} {W : List Nat}
theorem RBits.aside {b' g' : Nat} {T' : List Bool} {W' : List Nat} (k : RBits w r q T) (h : BitsIs w b' g' T' W') (c : Chg (fun j => j = g') w w') : RBits w' r q T :=
  k.chg c (fun e => by have h1 := k.blk; rw [e] at h1; have := bk_ty h1 h.row; cases this) (fun e => by have h1 := k.row; rw [e] at h1; have := bk_ty h1 h.row; cases this)
theorem BitsIs.aside {r' q' : Nat} {T' : List Bool} (h : BitsIs w b g T W) (k : RBits w r' q' T') (c : Chg (fun j => j = q') w w') : BitsIs w' b g T W :=
  h.chg c (fun e => by have h1 := h.blk; rw [e] at h1; have := bk_ty h1 k.row; cases this) (fun e => by have h1 := h.row; rw [e] at h1; have := bk_ty h1 k.row; cases this)
theorem sbk {bx : Nat} {l : List Value} (kx : Bk w bx 86 l) (h : BitsIs w b g T W) (c : Chg (fun j => j = g) w w') : Bk w' bx 86 l :=
  kx.chg c (fun e => by have h1 := kx; rw [e] at h1; have := bk_ty h1 h.row; cases this)
theorem sbq {bx : Nat} {l : List Value} (kx : Bk w bx 86 l) (h : RBits w r q T) (c : Chg (fun j => j = q) w w') : Bk w' bx 86 l :=
  kx.chg c (fun e => by have h1 := kx; rw [e] at h1; have := bk_ty h1 h.row; cases this)
set_option maxRecDepth 100000 in
theorem bit_add (h : BitsIs w b g T W) (k : RBits w r q T) (vc vs : Value) (on wi i : Int) : Calls Tryd.prog 25 #[pT b, vc, pT r, vs, sV 0 on wi i] w (BitR b g r q w) := by
  have kx := Bk.new w 86 (sL 0 on wi i)
  have gx := (Gr.refl w).alloc (.cells (sL 0 on wi i).toArray 86)
  have H := h.gr gx
  have K := k.gr gx
  clear h k
  go_enter Tryd.func25, Tryd.ntmps25
  go_upto_region 3 with fail
  generalize w.heap.size = bx at *
  generalize w.alloc _ = A at *
  have gD := (Gr.refl A).drew
  have SD := hid0 (kx.gr gD)
  have AD := hid0 (add_w (H.gr gD) i)
  have HD := hid0 (H.gr gD)
  have KD := hid0 (K.gr gD)
  have GD := hid0 (gx.trans gD)
  have f3 : ∀ V, Bk V bx 86 (sL 0 on wi i) → V.cell? ⟨bx, 3, none⟩ = some (.int .i64 i) := fun V hV => hV.at 3
  clear kx gx H K gD
  go_region_held3 (fun V => Bk V bx 86 (sL 0 on wi i))
    (first
      | assumption
      | exact SD.out)
    (first
      | (go_at_call 54; refine RD.out.mono ?_; rintro e v2 ⟨rfl, k2, d2⟩; have s2 := sbq s1 k1.out d2)
      | (go_at_call 29; refine AD.out.mono ?_; rintro e v1 ⟨rfl, ⟨W1, h1⟩, d1⟩; have s1 := sbk SD.out HD.out d1; have k1 := hid0 (KD.out.aside HD.out d1); have RD := hid0 (radd_w k1.out i)))
  have HF := hid0 (h1.aside k1.out d2)
  have KF := hid0 k2
  have CF := hid0 (((Chg.of_gr (p := fun k => k = g ∨ k = q) GD.out).trans d1.lft).trans d2.rgt)
  clear s1 s2 SD AD HD KD GD f3 h1 k1 k2 d1 d2 RD
  go_wp2
  go_ret
  exact ⟨by simp, ⟨_, _, HF.out, KF.out⟩, CF.out⟩
set_option maxRecDepth 100000 in
theorem bit_del (h : BitsIs w b g T W) (k : RBits w r q T) (vc vs : Value) (on wi i : Int) : Calls Tryd.prog 25 #[pT b, vc, pT r, vs, sV 1 on wi i] w (BitR b g r q w) := by
  have kx := Bk.new w 86 (sL 1 on wi i)
  have gx := (Gr.refl w).alloc (.cells (sL 1 on wi i).toArray 86)
  have H := h.gr gx
  have K := k.gr gx
  clear h k
  go_enter Tryd.func25, Tryd.ntmps25
  go_upto_region 5 with fail
  generalize w.heap.size = bx at *
  generalize w.alloc _ = A at *
  have gD := (Gr.refl A).drew
  have SD := hid0 (kx.gr gD)
  have AD := hid0 (del_wb (H.gr gD) i)
  have HD := hid0 (H.gr gD)
  have KD := hid0 (K.gr gD)
  have GD := hid0 (gx.trans gD)
  have f3 : ∀ V, Bk V bx 86 (sL 1 on wi i) → V.cell? ⟨bx, 3, none⟩ = some (.int .i64 i) := fun V hV => hV.at 3
  clear kx gx H K gD
  go_region_held3 (fun V => Bk V bx 86 (sL 1 on wi i))
    (first
      | assumption
      | exact SD.out)
    (first
      | (go_at_call 56; refine RD.out.mono ?_; rintro e v2 ⟨rfl, k2, d2⟩; have s2 := sbq s1 k1.out d2)
      | (go_at_call 55; refine AD.out.mono ?_; rintro e v1 ⟨rfl, ⟨W1, h1⟩, d1⟩; have s1 := sbk SD.out HD.out d1; have k1 := hid0 (KD.out.aside HD.out d1); have RD := hid0 (rdel_w k1.out i)))
  have HF := hid0 (h1.aside k1.out d2)
  have KF := hid0 k2
  have CF := hid0 (((Chg.of_gr (p := fun k => k = g ∨ k = q) GD.out).trans d1.lft).trans d2.rgt)
  clear s1 s2 SD AD HD KD GD f3 h1 k1 k2 d1 d2 RD
  go_wp2
  go_ret
  exact ⟨by simp, ⟨_, _, HF.out, KF.out⟩, CF.out⟩
set_option maxRecDepth 100000 in
theorem bit_has (h : BitsIs w b g T W) (k : RBits w r q T) (vc vs : Value) (on wi i : Int) : Calls Tryd.prog 25 #[pT b, vc, pT r, vs, sV 2 on wi i] w (BitR b g r q w) := by
  have kx := Bk.new w 86 (sL 2 on wi i)
  have gx := (Gr.refl w).alloc (.cells (sL 2 on wi i).toArray 86)
  have H := h.gr gx
  have K := k.gr gx
  clear h k
  go_enter Tryd.func25, Tryd.ntmps25
  go_upto_region 7 with fail
  generalize w.heap.size = bx at *
  generalize w.alloc _ = A at *
  have gD := (Gr.refl A).drew
  have SD := hid0 (kx.gr gD)
  have HD := hid0 (H.gr gD)
  have KD := hid0 (K.gr gD)
  have GD := hid0 (gx.trans gD)
  have hm := H.most
  have AD := hid0 (has_any HD.out i)
  have f3 : ∀ V, Bk V bx 86 (sL 2 on wi i) → V.cell? ⟨bx, 3, none⟩ = some (.int .i64 i) := fun V hV => hV.at 3
  clear kx gx H K gD
  go_region_held3 (fun V => Bk V bx 86 (sL 2 on wi i))
    (first
      | assumption
      | exact SD.out)
    (first
      | (go_at_call 57; refine RD.out.mono ?_; rintro e v2 ⟨rfl, hw⟩; cases hw; have s2 := s1)
      | (go_at_call 36; refine AD.out.mono ?_; rintro e v1 ⟨rfl, g1⟩; have s1 := SD.out.gr g1; have RD := hid0 (rhas_any (KD.out.gr g1) i)))
  have HF := hid0 (HD.out.gr g1)
  have KF := hid0 (KD.out.gr g1)
  have CF := hid0 (Chg.of_gr (p := fun k => k = g ∨ k = q) (GD.out.trans g1))
  clear s1 s2 SD AD HD KD GD f3 RD g1 hm
  go_wp2
  go_ret
  exact ⟨by simp, ⟨_, _, HF.out, KF.out⟩, CF.out⟩
variable {i : Int}
set_option maxRecDepth 100000 in
theorem bit_least (h : BitsIs w b g T W) (k : RBits w r q T) (hT : Tab w) (hi64 : in64 i) (vc vs : Value) (on wi : Int) : Calls Tryd.prog 25 #[pT b, vc, pT r, vs, sV 4 on wi i] w (BitR b g r q w) := by
  have hTx := hT.gr ((Gr.refl w).alloc (.cells (sL 4 on wi i).toArray 86))
  have kx := Bk.new w 86 (sL 4 on wi i)
  have gx := (Gr.refl w).alloc (.cells (sL 4 on wi i).toArray 86)
  have H := h.gr gx
  have K := k.gr gx
  clear h k
  go_enter Tryd.func25, Tryd.ntmps25
  go_upto_region 11 with fail
  generalize w.heap.size = bx at *
  generalize w.alloc _ = A at *
  have gD := (Gr.refl A).drew
  have SD := hid0 (kx.gr gD)
  have HD := hid0 (H.gr gD)
  have KD := hid0 (K.gr gD)
  have GD := hid0 (gx.trans gD)
  have hm := H.most
  have TD := hid0 (hTx.gr gD)
  have AD := hid0 (least_any HD.out TD.out i hi64)
  have f3 : ∀ V, Bk V bx 86 (sL 4 on wi i) → V.cell? ⟨bx, 3, none⟩ = some (.int .i64 i) := fun V hV => hV.at 3
  clear kx gx H K gD
  go_region_held3 (fun V => Bk V bx 86 (sL 4 on wi i))
    (first
      | assumption
      | exact SD.out)
    (first
      | (go_at_call 59; refine RD.out.mono ?_; rintro e v2 ⟨r2, rfl, hl2, hw⟩; cases hw; have hr := hl1.uniq hl2; subst hr; have s2 := s1)
      | (go_at_call 31; refine AD.out.mono ?_; rintro e v1 ⟨r1, rfl, hl1, hw⟩; cases hw; have g1 := Gr.refl A.drew; have s1 := SD.out.gr g1; have RD := hid0 (rleast_any (KD.out.gr g1) hm i true)))
  have HF := hid0 (HD.out.gr g1)
  have KF := hid0 (KD.out.gr g1)
  have CF := hid0 (Chg.of_gr (p := fun k => k = g ∨ k = q) (GD.out.trans g1))
  clear s1 s2 SD AD HD KD GD f3 RD g1 hm
  go_wp2
  go_ret
  exact ⟨by simp, ⟨_, _, HF.out, KF.out⟩, CF.out⟩
set_option maxRecDepth 100000 in
theorem bit_free (h : BitsIs w b g T W) (k : RBits w r q T) (hT : Tab w) (hi64 : in64 i) (vc vs : Value) (on wi : Int) : Calls Tryd.prog 25 #[pT b, vc, pT r, vs, sV 5 on wi i] w (BitR b g r q w) := by
  have hTx := hT.gr ((Gr.refl w).alloc (.cells (sL 5 on wi i).toArray 86))
  have kx := Bk.new w 86 (sL 5 on wi i)
  have gx := (Gr.refl w).alloc (.cells (sL 5 on wi i).toArray 86)
  have H := h.gr gx
  have K := k.gr gx
  clear h k
  go_enter Tryd.func25, Tryd.ntmps25
  go_upto_region 13 with fail
  generalize w.heap.size = bx at *
  generalize w.alloc _ = A at *
  have gD := (Gr.refl A).drew
  have SD := hid0 (kx.gr gD)
  have HD := hid0 (H.gr gD)
  have KD := hid0 (K.gr gD)
  have GD := hid0 (gx.trans gD)
  have hm := H.most
  have TD := hid0 (hTx.gr gD)
  have AD := hid0 (free_any HD.out TD.out i hi64)
  have f3 : ∀ V, Bk V bx 86 (sL 5 on wi i) → V.cell? ⟨bx, 3, none⟩ = some (.int .i64 i) := fun V hV => hV.at 3
  clear kx gx H K gD
  go_region_held3 (fun V => Bk V bx 86 (sL 5 on wi i))
    (first
      | assumption
      | exact SD.out)
    (first
      | (go_at_call 59; refine RD.out.mono ?_; rintro e v2 ⟨r2, rfl, hl2, hw⟩; cases hw; have hr := hl1.uniq hl2; subst hr; have s2 := s1)
      | (go_at_call 32; refine AD.out.mono ?_; rintro e v1 ⟨r1, rfl, hl1, hw⟩; cases hw; have g1 := Gr.refl A.drew; have s1 := SD.out.gr g1; have RD := hid0 (rleast_any (KD.out.gr g1) hm i false)))
  have HF := hid0 (HD.out.gr g1)
  have KF := hid0 (KD.out.gr g1)
  have CF := hid0 (Chg.of_gr (p := fun k => k = g ∨ k = q) (GD.out.trans g1))
  clear s1 s2 SD AD HD KD GD f3 RD g1 hm
  go_wp2
  go_ret
  exact ⟨by simp, ⟨_, _, HF.out, KF.out⟩, CF.out⟩
set_option maxRecDepth 100000 in
theorem bit_count (h : BitsIs w b g T W) (k : RBits w r q T) (vc vs : Value) (on wi : Int) : Calls Tryd.prog 25 #[pT b, vc, pT r, vs, sV 3 on wi i] w (BitR b g r q w) := by
  have kx := Bk.new w 86 (sL 3 on wi i)
  have gx := (Gr.refl w).alloc (.cells (sL 3 on wi i).toArray 86)
  have H := h.gr gx
  have K := k.gr gx
  clear h k
  go_enter Tryd.func25, Tryd.ntmps25
  go_upto_region 9 with fail
  generalize w.heap.size = bx at *
  generalize w.alloc _ = A at *
  have C1 := hid0 (count_any H)
  have C2 := hid0 (rcount_any K H.most)
  have HF := hid0 H
  have KF := hid0 K
  have CF := hid0 (Chg.of_gr (p := fun k => k = g ∨ k = q) gx)
  clear kx gx H K
  generalize cntT T = n at *
  go_wp2_with fail
  refine C1.out.mono ?_
  rintro e w1 ⟨rfl, hw⟩
  cases hw
  go_wp2_with fail
  refine C2.out.mono ?_
  rintro e w1 ⟨rfl, hw⟩
  cases hw
  go_wp2
  go_ret
  exact ⟨by simp, ⟨_, _, HF.out, KF.out⟩, CF.out⟩
set_option maxRecDepth 100000 in
theorem bit_join {c gc s t : Nat} {V : List Nat} (h : BitsIs w b g T W) (k : RBits w r q T) (hc : BitsIs w c gc U V) (ks : RBits w s t U) (on wi : Int) : Calls Tryd.prog 25 #[pT b, pT c, pT r, pT s, sV 6 on wi i] w (BitR b g r q w) := by
  have hcx := hc.gr ((Gr.refl w).alloc (.cells (sL 6 on wi i).toArray 86))
  have ksx := ks.gr ((Gr.refl w).alloc (.cells (sL 6 on wi i).toArray 86))
  clear hc ks
  have kx := Bk.new w 86 (sL 6 on wi i)
  have gx := (Gr.refl w).alloc (.cells (sL 6 on wi i).toArray 86)
  have H := h.gr gx
  have K := k.gr gx
  clear h k
  go_enter Tryd.func25, Tryd.ntmps25
  go_upto_region 15 with fail
  generalize w.heap.size = bx at *
  generalize w.alloc _ = A at *
  have C1 := hid0 (bjoin_w H hcx)
  have HM := H.most
  have HF := hid0 H
  have KF := hid0 K
  have KS := hid0 ksx
  have GF := hid0 gx
  clear kx gx H K hcx ksx
  generalize hz : errZ T U = z at *
  have HZ := hid0 hz
  clear hz
  go_wp2_with fail
  refine C1.out.mono ?_
  rintro e w1 ⟨rfl, ⟨W1, h1⟩, d1⟩
  have C2 := hid0 (with_w0 (KF.out.aside HF.out d1) (KS.out.aside HF.out d1) HM)
  rw [HZ.out] at C2
  have K1 := hid0 (KF.out.aside HF.out d1)
  have H1 := hid0 h1
  have D1 := hid0 d1
  clear C1 h1 d1
  go_wp2_with fail
  refine C2.out.mono ?_
  rintro e w2 ⟨rfl, k2, d2⟩
  have H2 := hid0 (H1.out.aside K1.out d2)
  have K2 := hid0 k2
  have CF := hid0 (((Chg.of_gr (p := fun k => k = g ∨ k = q) GF.out).trans D1.out.lft).trans d2.rgt)
  clear C2 k2 d2 H1 K1 D1 HF KF KS GF HM
  go_wp2
  go_ret
  exact ⟨by simp, ⟨_, _, H2.out, K2.out⟩, CF.out⟩
set_option maxRecDepth 100000 in
theorem bit_cut {c gc s t : Nat} {V : List Nat} (h : BitsIs w b g T W) (k : RBits w r q T) (hc : BitsIs w c gc U V) (ks : RBits w s t U) (on wi : Int) : Calls Tryd.prog 25 #[pT b, pT c, pT r, pT s, sV 7 on wi i] w (BitR b g r q w) := by
  have hcx := hc.gr ((Gr.refl w).alloc (.cells (sL 7 on wi i).toArray 86))
  have ksx := ks.gr ((Gr.refl w).alloc (.cells (sL 7 on wi i).toArray 86))
  clear hc ks
  have kx := Bk.new w 86 (sL 7 on wi i)
  have gx := (Gr.refl w).alloc (.cells (sL 7 on wi i).toArray 86)
  have H := h.gr gx
  have K := k.gr gx
  clear h k
  go_enter Tryd.func25, Tryd.ntmps25
  go_upto_region 17 with fail
  generalize w.heap.size = bx at *
  generalize w.alloc _ = A at *
  have C1 := hid0 (bcut_w H hcx)
  have HM := H.most
  have HF := hid0 H
  have KF := hid0 K
  have KS := hid0 ksx
  have GF := hid0 gx
  clear kx gx H K hcx ksx
  generalize hz : errZ T U = z at *
  have HZ := hid0 hz
  clear hz
  go_wp2_with fail
  refine C1.out.mono ?_
  rintro e w1 ⟨rfl, ⟨W1, h1⟩, d1⟩
  have C2 := hid0 (with_w1 (KF.out.aside HF.out d1) (KS.out.aside HF.out d1) HM)
  rw [HZ.out] at C2
  have K1 := hid0 (KF.out.aside HF.out d1)
  have H1 := hid0 h1
  have D1 := hid0 d1
  clear C1 h1 d1
  go_wp2_with fail
  refine C2.out.mono ?_
  rintro e w2 ⟨rfl, k2, d2⟩
  have H2 := hid0 (H1.out.aside K1.out d2)
  have K2 := hid0 k2
  have CF := hid0 (((Chg.of_gr (p := fun k => k = g ∨ k = q) GF.out).trans D1.out.lft).trans d2.rgt)
  clear C2 k2 d2 H1 K1 D1 HF KF KS GF HM
  go_wp2
  go_ret
  exact ⟨by simp, ⟨_, _, H2.out, K2.out⟩, CF.out⟩
set_option maxRecDepth 100000 in
theorem bit_meet {c gc s t : Nat} {V : List Nat} (h : BitsIs w b g T W) (k : RBits w r q T) (hc : BitsIs w c gc U V) (ks : RBits w s t U) (on wi : Int) : Calls Tryd.prog 25 #[pT b, pT c, pT r, pT s, sV 8 on wi i] w (BitR b g r q w) := by
  have hcx := hc.gr ((Gr.refl w).alloc (.cells (sL 8 on wi i).toArray 86))
  have ksx := ks.gr ((Gr.refl w).alloc (.cells (sL 8 on wi i).toArray 86))
  clear hc ks
  have kx := Bk.new w 86 (sL 8 on wi i)
  have gx := (Gr.refl w).alloc (.cells (sL 8 on wi i).toArray 86)
  have H := h.gr gx
  have K := k.gr gx
  clear h k
  go_enter Tryd.func25, Tryd.ntmps25
  go_upto_region 19 with fail
  generalize w.heap.size = bx at *
  generalize w.alloc _ = A at *
  have C1 := hid0 (bmeet_w H hcx)
  have HM := H.most
  have HF := hid0 H
  have KF := hid0 K
  have KS := hid0 ksx
  have GF := hid0 gx
  clear kx gx H K hcx ksx
  generalize hz : errZ T U = z at *
  have HZ := hid0 hz
  clear hz
  go_wp2_with fail
  refine C1.out.mono ?_
  rintro e w1 ⟨rfl, ⟨W1, h1⟩, d1⟩
  have C2 := hid0 (with_w2 (KF.out.aside HF.out d1) (KS.out.aside HF.out d1) HM)
  rw [HZ.out] at C2
  have K1 := hid0 (KF.out.aside HF.out d1)
  have H1 := hid0 h1
  have D1 := hid0 d1
  clear C1 h1 d1
  go_wp2_with fail
  refine C2.out.mono ?_
  rintro e w2 ⟨rfl, k2, d2⟩
  have H2 := hid0 (H1.out.aside K1.out d2)
  have K2 := hid0 k2
  have CF := hid0 (((Chg.of_gr (p := fun k => k = g ∨ k = q) GF.out).trans D1.out.lft).trans d2.rgt)
  clear C2 k2 d2 H1 K1 D1 HF KF KS GF HM
  go_wp2
  go_ret
  exact ⟨by simp, ⟨_, _, H2.out, K2.out⟩, CF.out⟩
end
end Go.Proofs.YtjnjpjpgokdciaaDoor
