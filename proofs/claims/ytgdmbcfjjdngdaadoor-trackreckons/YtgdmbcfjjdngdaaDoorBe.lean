/- In and Enter of a book. -/
import Derived.Test.YtgdmbcfjjdngdaaDoorBo
set_option linter.unusedSimpArgs false
set_option linter.unusedVariables false
namespace Go.Proofs.YtgdmbcfjjdngdaaDoor
open Go.RowKit Go.Sort Go.Shelf

/-- The objects of a book. -/
def Mvs (w : World) (LO : List En) (M : Nat → Mv) : Prop := ∀ x ∈ LO, MvIs w x.2.1.toNat x.1 (M x.2.1.toNat)
theorem val_at {L : List En} {i : Nat} {x : En} (h : L[i]? = some x) : TM.valAt L i = x.2.1 ∧ TI.valAt L i = x.2.1 := by simp [TM.valAt, TI.valAt, List.getD, h]
section
variable {B : Nat} {w : World} {b : Nat} {s : BS} {M : Nat → Mv}
def InR (s : BS) (M : Nat → Mv) (id fe : Int) (w : World) (e : Ending) (w' : World) : Prop := ∃ i j, Cut s.LO id i ∧ Cut s.LF fe j ∧
  e = .returned (.bool (there s.LO id i && there s.LF fe j && hasB (M (TM.valAt s.LO i).toNat).S (TI.valAt s.LF j))) ∧ Gr w w'
set_option maxHeartbeats 1000000 in
theorem in_any (h : BookIs B w b s) (hM : Mvs w s.LO M) (id fe : Int) : Calls Tryd.prog 29 #[pT b, .int .u32 id, .int .u32 fe] w (InR s M id fe w) := by
  have G := hid0 (both_any h id fe)
  clear h
  go_enter Tryd.func29, Tryd.ntmps29
  go_wp2_with fail
  refine G.out.mono ?_
  rintro e w1 ⟨i, j, hc, hd, hcase, hw⟩
  cases hw
  have HC := hid0 hc
  have HD := hid0 hd
  clear hc hd G
  rcases hcase with ⟨ht, hu, rfl⟩ | ⟨ht, rfl⟩
  · obtain ⟨x, hx, ex⟩ := there_yes ht
    have hm := hM x (List.mem_of_getElem? hx)
    have ev := (val_at hx).1
    generalize hp : TI.valAt s.LF j = p at *
    have HP := hid0 hp
    clear hp
    rw [ev, show TM.vV x.2.1 = pT x.2.1.toNat from rfl]
    obtain ⟨W, hS⟩ := hm.set
    have HS := hid0 (has_any hS p)
    have c1 := hm.blk.at 7
    simp only [List.getElem?_cons_zero, List.getElem?_cons_succ] at c1
    generalize hk : x.2.1.toNat = k at *
    have HK := hid0 hk
    clear hm hS hM hx ex hk
    go_wp2_with (go_at_call 53; refine HS.out.mono ?_; rintro e w2 ⟨rfl, hG⟩)
    go_ret
    refine ⟨i, j, HC.out, HD.out, ?_, by assumption⟩
    rw [ht, hu, ev, HK.out, HP.out, Bool.true_and, Bool.true_and]
    rfl
  · go_wp2_with fail
    go_ret
    exact ⟨i, j, HC.out, HD.out, by rw [ht, Bool.false_and]; rfl, Gr.refl _⟩

/-- What Enter answers, and what it leaves. -/
def EnterR (s : BS) (M : Nat → Mv) (id fe : Int) (w : World) (e : Ending) (w' : World) : Prop := ∃ i j, Cut s.LO id i ∧ Cut s.LF fe j ∧
  (((there s.LO id i && there s.LF fe j) = false ∧ e = .returned (.tuple #[.bool false, .int .i64 181]) ∧ w' = w) ∨
   ((there s.LO id i && there s.LF fe j) = true ∧ hasB (M (TM.valAt s.LO i).toNat).S (TI.valAt s.LF j) = true ∧ e = .returned (.tuple #[.bool false, .int .i64 0]) ∧ Gr w w') ∨
   ((there s.LO id i && there s.LF fe j) = true ∧ hasB (M (TM.valAt s.LO i).toNat).S (TI.valAt s.LF j) = false ∧ e = .returned (.tuple #[.bool true, .int .i64 0]) ∧
      (∃ W', BitsIs w' (M (TM.valAt s.LO i).toNat).bb (M (TM.valAt s.LO i).toNat).gb ((M (TM.valAt s.LO i).toNat).S.set (TI.valAt s.LF j).toNat true) W') ∧ Chg (fun k => k = (M (TM.valAt s.LO i).toNat).gb) w w'))
set_option maxHeartbeats 1000000 in
theorem enter_any (h : BookIs B w b s) (hM : Mvs w s.LO M) (hp : ∀ y ∈ s.LF, ∃ p : Nat, y.2.1 = p ∧ ∀ x ∈ s.LO, p < (M x.2.1.toNat).S.length) (id fe : Int) : Calls Tryd.prog 28 #[pT b, .int .u32 id, .int .u32 fe] w (EnterR s M id fe w) := by
  have G := hid0 (both_any h id fe)
  clear h
  go_enter Tryd.func28, Tryd.ntmps28
  go_wp2_with fail
  refine G.out.mono ?_
  rintro e w1 ⟨i, j, hc, hd, hcase, hw⟩
  cases hw
  have HC := hid0 hc
  have HD := hid0 hd
  clear hc hd G
  rcases hcase with ⟨ht, hu, rfl⟩ | ⟨ht, rfl⟩
  · obtain ⟨x, hx, ex⟩ := there_yes ht
    obtain ⟨y, hy, ey⟩ := there_yes hu
    have hm := hM x (List.mem_of_getElem? hx)
    obtain ⟨p, ep, hpl⟩ := hp y (List.mem_of_getElem? hy)
    replace hpl := hpl x (List.mem_of_getElem? hx)
    have ev := hid0 (val_at hx).1
    have ew := hid0 ((val_at hy).2.trans ep)
    rw [ev.out, ew.out, show TM.vV x.2.1 = pT x.2.1.toNat from rfl]
    obtain ⟨W, hS⟩ := hm.set
    have c1 := hm.blk.at 7
    simp only [List.getElem?_cons_zero, List.getElem?_cons_succ] at c1
    generalize hk : x.2.1.toNat = k at *
    have HK := hid0 hk
    have hb : hasB (M k).S (p : Int) = (M k).S.getD p false := hasB_nat _
    have htu : (there s.LO id i && there s.LF fe j) = true := by rw [ht, hu]; rfl
    cases hq : (M k).S.getD p false with
    | false =>
      have AD := hid0 (add_yes hS p hpl hq)
      clear hm hS hM hx ex hk hp hy ey hpl ht hu ep
      go_wp2_with fail
      refine AD.out.mono ?_
      rintro e w2 ⟨rfl, hW, hC⟩
      have HW := hid0 hW
      have HCh := hid0 hC
      clear hW hC AD
      go_wp2
      go_ret2
      refine ⟨i, j, HC.out, HD.out, .inr (.inr ⟨htu, ?_, rfl, ?_, ?_⟩)⟩
      · rw [ev.out, ew.out, HK.out, hb, hq]
      · rw [ev.out, ew.out, HK.out]; exact HW.out
      · rw [ev.out, HK.out]; exact HCh.out
    | true =>
      have AD := hid0 (add_no hS (p : Int) (.inr (by rw [hb, hq])))
      clear hm hS hM hx ex hk hp hy ey hpl ht hu ep
      go_wp2_with fail
      refine AD.out.mono ?_
      rintro e w2 ⟨rfl, hG⟩
      have HG := hid0 hG
      clear hG AD
      go_wp2
      go_ret2
      refine ⟨i, j, HC.out, HD.out, .inr (.inl ⟨htu, ?_, rfl, HG.out⟩)⟩
      rw [ev.out, ew.out, HK.out, hb, hq]
  · go_wp2_with fail
    go_ret2
    exact ⟨i, j, HC.out, HD.out, .inl ⟨ht, rfl, rfl⟩⟩

/-- What Leave answers, and what it leaves. -/
def LeaveR (s : BS) (M : Nat → Mv) (id fe : Int) (w : World) (e : Ending) (w' : World) : Prop := ∃ i j, Cut s.LO id i ∧ Cut s.LF fe j ∧
  (((there s.LO id i && there s.LF fe j) = false ∧ e = .returned (.tuple #[.bool false, .int .i64 181]) ∧ w' = w) ∨
   ((there s.LO id i && there s.LF fe j) = true ∧ hasB (M (TM.valAt s.LO i).toNat).S (TI.valAt s.LF j) = false ∧ e = .returned (.tuple #[.bool false, .int .i64 0]) ∧ Gr w w') ∨
   ((there s.LO id i && there s.LF fe j) = true ∧ hasB (M (TM.valAt s.LO i).toNat).S (TI.valAt s.LF j) = true ∧ e = .returned (.tuple #[.bool true, .int .i64 0]) ∧
      (∃ W', BitsIs w' (M (TM.valAt s.LO i).toNat).bb (M (TM.valAt s.LO i).toNat).gb ((M (TM.valAt s.LO i).toNat).S.set (TI.valAt s.LF j).toNat false) W') ∧ Chg (fun k => k = (M (TM.valAt s.LO i).toNat).gb) w w'))
set_option maxHeartbeats 1000000 in
theorem leave_any (h : BookIs B w b s) (hM : Mvs w s.LO M) (hp : ∀ y ∈ s.LF, ∃ p : Nat, y.2.1 = p ∧ ∀ x ∈ s.LO, p < (M x.2.1.toNat).S.length) (id fe : Int) : Calls Tryd.prog 33 #[pT b, .int .u32 id, .int .u32 fe] w (LeaveR s M id fe w) := by
  have G := hid0 (both_any h id fe)
  clear h
  go_enter Tryd.func33, Tryd.ntmps33
  go_wp2_with fail
  refine G.out.mono ?_
  rintro e w1 ⟨i, j, hc, hd, hcase, hw⟩
  cases hw
  have HC := hid0 hc
  have HD := hid0 hd
  clear hc hd G
  rcases hcase with ⟨ht, hu, rfl⟩ | ⟨ht, rfl⟩
  · obtain ⟨x, hx, ex⟩ := there_yes ht
    obtain ⟨y, hy, ey⟩ := there_yes hu
    have hm := hM x (List.mem_of_getElem? hx)
    obtain ⟨p, ep, hpl⟩ := hp y (List.mem_of_getElem? hy)
    replace hpl := hpl x (List.mem_of_getElem? hx)
    have ev := hid0 (val_at hx).1
    have ew := hid0 ((val_at hy).2.trans ep)
    rw [ev.out, ew.out, show TM.vV x.2.1 = pT x.2.1.toNat from rfl]
    obtain ⟨W, hS⟩ := hm.set
    have c1 := hm.blk.at 7
    simp only [List.getElem?_cons_zero, List.getElem?_cons_succ] at c1
    generalize hk : x.2.1.toNat = k at *
    have HK := hid0 hk
    have hb : hasB (M k).S (p : Int) = (M k).S.getD p false := hasB_nat _
    have htu : (there s.LO id i && there s.LF fe j) = true := by rw [ht, hu]; rfl
    cases hq : (M k).S.getD p false with
    | true =>
      have AD := hid0 (del_yes hS p hpl hq)
      clear hm hS hM hx ex hk hp hy ey hpl ht hu ep
      go_wp2_with fail
      refine AD.out.mono ?_
      rintro e w2 ⟨rfl, hW, hC⟩
      have HW := hid0 hW
      have HCh := hid0 hC
      clear hW hC AD
      go_wp2
      go_ret2
      refine ⟨i, j, HC.out, HD.out, .inr (.inr ⟨htu, ?_, rfl, ?_, ?_⟩)⟩
      · rw [ev.out, ew.out, HK.out, hb, hq]
      · rw [ev.out, ew.out, HK.out]; exact HW.out
      · rw [ev.out, HK.out]; exact HCh.out
    | false =>
      have AD := hid0 (del_no hS (p : Int) (by rw [hb, hq]))
      clear hm hS hM hx ex hk hp hy ey hpl ht hu ep
      go_wp2_with fail
      refine AD.out.mono ?_
      rintro e w2 ⟨rfl, hG⟩
      have HG := hid0 hG
      clear hG AD
      go_wp2
      go_ret2
      refine ⟨i, j, HC.out, HD.out, .inr (.inl ⟨htu, ?_, rfl, HG.out⟩)⟩
      rw [ev.out, ew.out, HK.out, hb, hq]
  · go_wp2_with fail
    go_ret2
    exact ⟨i, j, HC.out, HD.out, .inl ⟨ht, rfl, rfl⟩⟩
end
end Go.Proofs.YtgdmbcfjjdngdaaDoor
