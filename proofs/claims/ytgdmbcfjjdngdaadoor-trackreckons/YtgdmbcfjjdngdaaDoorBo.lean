/- A book in memory; absent, mover, place, both, In, Len, Enter. -/
import Derived.Test.YtgdmbcfjjdngdaaDoorPuI
import Derived.Test.YtgdmbcfjjdngdaaDoorPuM
import Derived.Test.YtgdmbcfjjdngdaaDoorBf
set_option linter.unusedSimpArgs false
set_option linter.unusedVariables false
namespace Go.Proofs.YtgdmbcfjjdngdaaDoor
open Go.RowKit Go.Sort Go.Shelf

/-- A book in plain words: where its parts lie, and what they hold. -/
structure BS where
  o : Nat
  f : Nat
  pl : Nat
  gp : Nat
  rO : Nat
  rF : Nat
  vO : Value
  vF : Value
  LO : List En
  LF : List En
  P : List Bool
structure BookIs (B : Nat) (w : World) (b : Nat) (s : BS) : Prop where
  blk : Bk w b 50 [pT s.o, pT s.f, pT s.pl]
  ob : TM.TabIs B w s.o s.rO s.vO s.LO
  fe : TI.TabIs B w s.f s.rF s.vF s.LF
  pl : ∃ PW, BitsIs w s.pl s.gp s.P PW
  b0 : B ≤ b ∧ B ≤ s.gp
/-- An object in memory: its number, and the rest. -/
structure Mv where
  num : Int
  tim : Int
  x : Int
  y : Int
  sp : Nat
  bb : Nat
  gb : Nat
  S : List Bool
abbrev mL (id : Int) (m : Mv) : List Value := [.int .u32 id, .int .u32 m.num, .int .u32 m.tim, .int .i32 m.x, .int .i32 m.y, .float .f64 m.sp, .slice none 0 0, pT m.bb]
structure MvIs (w : World) (k : Nat) (id : Int) (m : Mv) : Prop where
  blk : Bk w k 93 (mL id m)
  set : ∃ W, BitsIs w m.bb m.gb m.S W
theorem BookIs.gr {B : Nat} {w w' : World} {b : Nat} {s : BS} (h : BookIs B w b s) (k : Gr w w') : BookIs B w' b s :=
  ⟨h.blk.gr k, h.ob.gr k, h.fe.gr k, (by obtain ⟨W, p⟩ := h.pl; exact ⟨W, p.gr k⟩), h.b0⟩
theorem MvIs.gr {w w' : World} {k : Nat} {id : Int} {m : Mv} (h : MvIs w k id m) (g : Gr w w') : MvIs w' k id m := ⟨h.blk.gr g, by obtain ⟨W, p⟩ := h.set; exact ⟨W, p.gr g⟩⟩

/-- None, or one that New did not make. -/
def NoBook (w : World) (v : Value) : Prop := v = .pointer none ∨ ∃ b x y, v = pT b ∧ Bk w b 50 [.pointer none, x, y]
theorem NoBook.gr {w w' : World} {v : Value} (h : NoBook w v) (g : Gr w w') : NoBook w' v := by
  rcases h with h | ⟨b, x, y, h, k⟩
  · exact .inl h
  · exact .inr ⟨b, x, y, h, k.gr g⟩
theorem absent_nobook (v : Value) (w : World) (h : NoBook w v) : Calls Tryd.prog 45 #[v] w fun e w' => e = .returned (.bool true) ∧ w' = w := by
  rcases h with rfl | ⟨b, x, y, rfl, k⟩
  · go_enter Tryd.func45, Tryd.ntmps45
    go_wp2
    go_ret
    exact ⟨rfl, rfl⟩
  · have c0 := k.at 0
    simp only [List.getElem?_cons_zero] at c0
    clear k
    go_enter Tryd.func45, Tryd.ntmps45
    go_wp2
    go_ret
    exact ⟨rfl, rfl⟩
section
variable {B : Nat} {w : World} {b : Nat} {s : BS}
theorem absent_book (h : BookIs B w b s) : Calls Tryd.prog 45 #[pT b] w fun e w' => e = .returned (.bool false) ∧ w' = w := by
  have c0 := h.blk.at 0
  simp only [List.getElem?_cons_zero] at c0
  clear h
  go_enter Tryd.func45, Tryd.ntmps45
  go_wp2
  go_ret
  exact ⟨rfl, rfl⟩
theorem mover_any (h : BookIs B w b s) (id : Int) : Calls Tryd.prog 46 #[pT b, .int .u32 id] w (TM.GetR s.LO id w) := by
  have A := hid0 (absent_book h)
  have G := hid0 (TM.get_any h.ob id)
  have c0 := h.blk.at 0
  simp only [List.getElem?_cons_zero] at c0
  clear h
  go_enter Tryd.func46, Tryd.ntmps46
  go_wp2_with (first
    | (go_at_call 45; refine A.out.mono ?_; rintro e w1 ⟨rfl, hw⟩; cases hw)
    | fail)
  refine G.out.mono ?_
  rintro e w1 ⟨i, hc, hcase, hw⟩
  cases hw
  have HC := hid0 hc
  clear hc
  rcases hcase with ⟨ht, rfl⟩ | ⟨ht, rfl⟩
  · go_wp2
    go_ret2
    exact ⟨i, HC.out, .inl ⟨ht, rfl⟩, rfl⟩
  · go_wp2
    go_ret2
    exact ⟨i, HC.out, .inr ⟨ht, rfl⟩, rfl⟩
theorem place_any (h : BookIs B w b s) (id : Int) : Calls Tryd.prog 48 #[pT b, .int .u32 id] w (TI.GetR s.LF id w) := by
  have A := hid0 (absent_book h)
  have G := hid0 (TI.get_any h.fe id)
  have c0 := h.blk.at 1
  simp only [List.getElem?_cons_zero, List.getElem?_cons_succ] at c0
  clear h
  go_enter Tryd.func48, Tryd.ntmps48
  go_wp2_with (first
    | (go_at_call 45; refine A.out.mono ?_; rintro e w1 ⟨rfl, hw⟩; cases hw)
    | fail)
  refine G.out.mono ?_
  rintro e w1 ⟨i, hc, hcase, hw⟩
  cases hw
  have HC := hid0 hc
  clear hc
  rcases hcase with ⟨ht, rfl⟩ | ⟨ht, rfl⟩
  · go_wp2
    go_ret2
    exact ⟨i, HC.out, .inl ⟨ht, rfl⟩, rfl⟩
  · go_wp2
    go_ret2
    exact ⟨i, HC.out, .inr ⟨ht, rfl⟩, rfl⟩
/-- What both answers. -/
def BothR (LO LF : List En) (id fe : Int) (w : World) (e : Ending) (w' : World) : Prop := ∃ i j, Cut LO id i ∧ Cut LF fe j ∧
  ((there LO id i = true ∧ there LF fe j = true ∧ e = .returned (.tuple #[TM.vV (TM.valAt LO i), .int .i64 (TI.valAt LF j), .int .i64 0])) ∨
   ((there LO id i && there LF fe j) = false ∧ e = .returned (.tuple #[.pointer none, .int .i64 0, .int .i64 181]))) ∧ w' = w
set_option maxHeartbeats 1000000 in
theorem both_any (h : BookIs B w b s) (id fe : Int) : Calls Tryd.prog 52 #[pT b, .int .u32 id, .int .u32 fe] w (BothR s.LO s.LF id fe w) := by
  have A := hid0 (absent_book h)
  have M := hid0 (mover_any h id)
  have G := hid0 (place_any h fe)
  clear h
  go_enter Tryd.func52, Tryd.ntmps52
  go_wp2_with (first
    | (go_at_call 45; refine A.out.mono ?_; rintro e w1 ⟨rfl, hw⟩; cases hw)
    | fail)
  refine M.out.mono ?_
  rintro e w1 ⟨i, hc, hcase, hw⟩
  cases hw
  have HC := hid0 hc
  clear hc
  rcases hcase with ⟨ht, rfl⟩ | ⟨ht, rfl⟩
  · go_wp2_with fail
    refine G.out.mono ?_
    rintro e w1 ⟨j, hd, hcase2, hw⟩
    cases hw
    have HD := hid0 hd
    clear hd
    rcases hcase2 with ⟨hu, rfl⟩ | ⟨hu, rfl⟩
    · go_wp2
      refine bodyPost_ret (v := .tuple #[TM.vV (TM.valAt s.LO i), .int .i64 (TI.valAt s.LF j), .int .i64 0]) (by simp [results, Tryd.results52, go_sem]) rfl ⟨i, j, HC.out, HD.out, .inl ⟨ht, hu, rfl⟩, rfl⟩
    · go_wp2
      refine bodyPost_ret (v := .tuple #[.pointer none, .int .i64 0, .int .i64 181]) (by simp [results, Tryd.results52, go_sem]) rfl ⟨i, j, HC.out, HD.out, .inr ⟨by rw [hu, Bool.and_false], rfl⟩, rfl⟩
  · go_wp2_with fail
    refine G.out.mono ?_
    rintro e w1 ⟨j, hd, hcase2, hw⟩
    cases hw
    have HD := hid0 hd
    clear hd
    rcases hcase2 with ⟨hu, rfl⟩ | ⟨hu, rfl⟩
    · go_wp2
      refine bodyPost_ret (v := .tuple #[.pointer none, .int .i64 0, .int .i64 181]) (by simp [results, Tryd.results52, go_sem]) rfl ⟨i, j, HC.out, HD.out, .inr ⟨by rw [ht, Bool.false_and], rfl⟩, rfl⟩
    · go_wp2
      refine bodyPost_ret (v := .tuple #[.pointer none, .int .i64 0, .int .i64 181]) (by simp [results, Tryd.results52, go_sem]) rfl ⟨i, j, HC.out, HD.out, .inr ⟨by rw [ht, Bool.false_and], rfl⟩, rfl⟩
theorem blen_any (h : BookIs B w b s) : Calls Tryd.prog 30 #[pT b] w fun e w' => e = .returned (.int .i64 (s.LO.length : Int)) ∧ w' = w := by
  have A := hid0 (absent_book h)
  have G := hid0 (TM.len_any h.ob)
  have c0 := h.blk.at 0
  simp only [List.getElem?_cons_zero] at c0
  clear h
  go_enter Tryd.func30, Tryd.ntmps30
  go_wp2_with (first
    | (go_at_call 45; refine A.out.mono ?_; rintro e w1 ⟨rfl, hw⟩; cases hw)
    | (go_at_call 54; refine G.out.mono ?_; rintro e w1 ⟨rfl, hw⟩; cases hw))
  go_ret
  exact ⟨rfl, rfl⟩
end
end Go.Proofs.YtgdmbcfjjdngdaaDoor
