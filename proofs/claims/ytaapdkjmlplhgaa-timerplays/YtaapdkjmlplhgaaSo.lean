/- TimerSorts' walk. -/
import Derived.Test.YtaapdkjmlplhgaaAh
set_option linter.unusedSimpArgs false
set_option linter.unusedVariables false
namespace Go.Proofs.Ytaapdkjmlplhgaa
open Go.RowKit Go.Sort Go.Shelf

section
variable {B : Nat} {w w' : World} {d h pb mb : Nat} {v v' : Value} {l : List Du} {m : Pf} {most : Nat}
theorem DCh.bel (C : DCh h mb v v' w w') (D : Ds B w d h pb mb v l m most) (hB : B ≤ w.heap.size) : Below B w w' :=
  C.chg.below hB (by
    rintro k (e | e | e)
    · rw [e]; exact D.lo.2.1
    · rw [e]; exact D.lo.2.2.2
    · exact (row_lt D.hv.row e).2.1)
/-- A block that is none of these Dues'. -/
def Aside (h mb : Nat) (v : Value) (b : Nat) : Prop := b ≠ h ∧ b ≠ mb ∧ v.ownBlock ≠ some b
theorem DCh.far (C : DCh h mb v v' w w') {b : Nat} (hb : b < w.heap.size) (A : Aside h mb v b) : w'.heap[b]? = w.heap[b]? ∧ Aside h mb v' b := by
  refine ⟨C.chg.block b hb (by rintro (e | e | e); exact A.1 e; exact A.2.1 e; exact A.2.2 e), A.1, A.2.1, fun e => ?_⟩
  rcases C.new b e with h | h
  · exact A.2.2 h
  · omega
theorem Ds.aside_new (D : Ds B w d h pb mb v l m most) {b : Nat} (hb : w.heap.size ≤ b) : Aside h mb v b := by
  refine ⟨fun e => ?_, fun e => ?_, fun e => ?_⟩
  · have := D.hv.heap.lt; omega
  · have := D.hv.map.lt; omega
  · have := (row_lt D.hv.row e).1; omega
theorem Ds.size (D : Ds B w d h pb mb v l m most) : B ≤ w.heap.size := by have := D.lo.1; have := D.due.lt; omega
end
theorem fst_min {l : List Du} {m : Pf} (P : PD l m) (h0 : 0 < l.length) {y : Du} (hy : y ∈ l) (hn : y.2 ≠ (nth l 0).2) : ltD (nth l 0) y = true := by
  obtain ⟨j, h1, h2⟩ := mem_nth.1 hy
  have a := P.heap.min j h1
  rw [h2] at a
  cases h : ltD (nth l 0) y with
  | true => rfl
  | false => exact absurd (by rw [lt_anti h a]) hn
theorem rdy_max {l : List Du} (h0 : 0 < l.length) (hok : ∀ y ∈ l, okD y) : rdy l 4294967295 = true := by
  have := (hok (nth l 0) (mem_nth.2 ⟨0, h0, rfl⟩)).1.2
  unfold rdy
  simp only [Bool.and_eq_true, decide_eq_true_eq]
  exact ⟨h0, by omega⟩
set_option maxRecDepth 100000 in
set_option maxHeartbeats 4000000 in
theorem sorts_walk (ao : Option Addr) (cap : Nat) (l : List Du) (w : World) (hl : l.length ≤ 1024) (hP : Pts w ao l) (hok : ∀ y ∈ l, okD y) :
    Calls Try.prog 4 #[.slice ao l.length cap] w fun e w' => e = .returned (.bool true) ∧ Below w.heap.size w w' := by
  have HP := hid0 hP
  have NW := hid0 (new_yes 4096 w (by omega) (by omega))
  have hl' : ¬ (l.length : Int) > 1024 := by omega
  have hl2 : (l.length : Int) ≤ 1024 := by omega
  clear hP
  go_enter Try.func4, Try.ntmps4
  go_wp2_with fail
  refine NW.out.mono ?_
  rintro e w1 ⟨d, h, pb, mb, rfl, D1, g1⟩
  have D1 := hid0 D1
  have B1 : Hid (Below w.heap.size w w1) := g1.below
  clear NW g1
  go_wp2
  go_loopw [5, 6] (fun n i wr => ∃ (k : Nat) (v : Value) (lst : List Du) (m : Pf), i = .int .i64 k ∧ n = .int .i64 lst.length ∧ k ≤ l.length ∧ Hid (Ds w.heap.size wr d h pb mb v lst m 4096) ∧ Hid (Below w.heap.size w wr) ∧ Hid (lst.length ≤ k ∧ (0 < k → 0 < lst.length) ∧ ∀ y ∈ lst, y ∈ l)) (fun _ i _ => l.length - (intOf i).toNat)
  case atStart => exact ⟨0, .slice none 0 0, [], _, rfl, rfl, Nat.zero_le _, D1, B1, ⟨Nat.le_refl _, fun h => h, fun y hy => by cases hy⟩⟩
  case round =>
    clear D1 B1
    obtain ⟨k, v, lst, m, rfl, rfl, hk, D, hB, hF⟩ := hrel
    by_cases hlt : k < l.length
    · have hlt' : (k : Int) < (l.length : Int) := by omega
      obtain ⟨b, off, rfl, p0, p1, p2⟩ := HP.out k hlt
      replace p0 := below_cell p0 hB.out
      replace p1 := below_cell p1 hB.out
      replace p2 := below_cell p2 hB.out
      have hxo := hok (nth l k) (mem_nth.2 ⟨k, hlt, rfl⟩)
      have hxl : nth l k ∈ l := mem_nth.2 ⟨k, hlt, rfl⟩
      generalize nth l k = x at *
      obtain ⟨xa, xo, xf⟩ := x
      dsimp only at p0 p1 p2
      cases hm : m (xo, xf) with
      | some j =>
        have SE := hid0 (set_there D.out (xa, xo, xf) hxo hm)
        have hpos := (D.out.pd.at hm).1
        clear hm
        go_wp2_with fail
        refine SE.out.mono ?_
        rintro e w2 ⟨rfl, g2⟩
        have D2 := hid0 (D.out.gr g2)
        have hB2 : Hid (Below w.heap.size w w2) := hB.out.trans (g2.below.mono hB.out.size)
        have hF2 : Hid (lst.length ≤ k + 1 ∧ (0 < k + 1 → 0 < lst.length) ∧ ∀ y ∈ lst, y ∈ l) := by
          obtain ⟨f1, f2, f3⟩ := hF.out
          exact ⟨by omega, fun _ => by omega, f3⟩
        clear SE D hB hF g2 p0 p1 p2
        go_wp2
        go_roundw
        case rel => exact ⟨k + 1, v, lst, m, by go_num, rfl, by omega, D2, hB2, hF2⟩
        case measure => simp [intOf]; omega
      | none =>
        have hlen := hF.out.1
        have SE := hid0 (set_ok D.out (xa, xo, xf) hxo hm (by omega))
        clear hm
        go_wp2_with fail
        refine SE.out.mono ?_
        rintro e w2 ⟨rfl, v', l', m', D2, M2, L2, C2⟩
        have hB2 : Hid (Below w.heap.size w w2) := hB.out.trans (C2.bel D.out hB.out.size)
        have hF2 : Hid (l'.length ≤ k + 1 ∧ (0 < k + 1 → 0 < l'.length) ∧ ∀ y ∈ l', y ∈ l) := by
          obtain ⟨f1, f2, f3⟩ := hF.out
          refine ⟨by omega, fun _ => by omega, fun y hy => ?_⟩
          rcases (M2 y).1 hy with e | e
          · rw [e]; exact hxl
          · exact f3 y e
        replace D2 := hid0 D2
        clear SE D hB hF C2 M2 p0 p1 p2
        go_wp2
        go_roundw
        case rel => exact ⟨k + 1, v', l', m', by go_num, by rw [L2]; go_num, by omega, D2, hB2, hF2⟩
        case measure => simp [intOf]; omega
    · have ek : k = l.length := by omega
      have hnl : ¬ (k : Int) < (l.length : Int) := by omega
      obtain ⟨f1, f2, f3⟩ := hF.out
      have F3 := hid0 f3
      obtain ⟨n, hn⟩ : ∃ n, n = lst.length := ⟨_, rfl⟩
      rw [← hn] at f1 f2 ⊢
      have gz := (Gr.refl wr).alloc (.cells #[.int .u32 0, .int .u32 0, .int .u32 0] 32)
      have k7 := Bk.new wr 32 [.int .u32 0, .int .u32 0, .int .u32 0]
      have A7 := hid0 (D.out.aside_new (b := wr.heap.size) (Nat.le_refl _))
      have hb7 : w.heap.size ≤ wr.heap.size := hB.out.size
      have D2 := hid0 (D.out.gr gz)
      have B2 : Hid (Below w.heap.size w (wr.alloc (.cells #[.int .u32 0, .int .u32 0, .int .u32 0] 32))) := hB.out.trans (gz.below.mono hB.out.size)
      have hn1 : (n : Int) ≤ 1024 := by omega
      have hcase : (l.length = 0 ∧ n = 0) ∨ (0 < l.length ∧ 0 < n) := by
        by_cases h0 : 0 < k
        · exact .inr ⟨by omega, f2 h0⟩
        · exact .inl ⟨by omega, by omega⟩
      replace hn := hid0 hn
      clear D hB hF gz f1 f2 f3 hk ek
      rcases hcase with ⟨h1, h2⟩ | ⟨h1, h2⟩
      · have hl0 : ¬ (l.length : Int) > 0 := by omega
        have hbw0 := hid0 hb7
        go_wp2
        obtain ⟨b7, e7⟩ : ∃ b7, b7 = wr.heap.size := ⟨_, rfl⟩
        rw [← e7] at k7 A7 hbw0 ⊢
        replace k7 := hid0 k7
        clear e7
        go_loopw [8] (fun i wr => ∃ (j : Nat) (v : Value) (lst : List Du) (m : Pf) (last : Du), i = .int .i64 j ∧ Hid (j + lst.length = n) ∧ Hid (Ds w.heap.size wr d h pb mb v lst m 4096) ∧ Hid (Below w.heap.size w wr) ∧ Hid (Bk wr b7 32 (dL last)) ∧ Hid (Aside h mb v b7) ∧ Hid ((0 < j → ∀ y ∈ lst, ltD last y = true) ∧ ∀ y ∈ lst, y ∈ l)) (fun i _ => n - (intOf i).toNat)
        case atStart => exact ⟨0, v, lst, m, (0, 0, 0), rfl, by show 0 + lst.length = n; rw [← hn.out]; omega, D2, B2, k7, A7, ⟨fun h => by omega, F3.out⟩⟩
        case round =>
          clear D2 B2 k7 A7 F3 hn
          obtain ⟨j, v, lst, m, last, rfl, HJ, D, hB, K7, A7, F⟩ := hrel
          have k7 := K7.out
          have hbw := hid0 hbw0.out
          by_cases hjn : j < n
          · exact absurd hjn (by omega)
          · skip
            have hz0 : lst = [] := List.eq_nil_of_length_eq_zero (by have := HJ.out; omega)
            have hr : rdy lst 4294967295 = false := by rw [hz0]; rfl
            have hjn' : ¬ (j : Int) < (n : Int) := by omega
            have TN := hid0 (take_not D.out 4294967295 hr)
            clear D hr
            go_wp2_with fail
            refine TN.out.mono ?_
            rintro e w4 ⟨rfl, g4⟩
            have B4 : Hid (Below w.heap.size w (w4.alloc (.cells #[.int .u32 0, .int .u32 0, .int .u32 0] 32))) := hB.out.trans (((g4.alloc _).below).mono hB.out.size)
            clear TN g4
            go_wp2
            go_ret
            exact ⟨rfl, B4.out⟩
      · have hl0 : (l.length : Int) > 0 := by omega
        have hn0 : ¬ ((n : Int) = 0) := by omega
        have hbw0 := hid0 hb7
        go_wp2
        obtain ⟨b7, e7⟩ : ∃ b7, b7 = wr.heap.size := ⟨_, rfl⟩
        rw [← e7] at k7 A7 hbw0 ⊢
        replace k7 := hid0 k7
        clear e7
        go_loopw [8] (fun i wr => ∃ (j : Nat) (v : Value) (lst : List Du) (m : Pf) (last : Du), i = .int .i64 j ∧ Hid (j + lst.length = n) ∧ Hid (Ds w.heap.size wr d h pb mb v lst m 4096) ∧ Hid (Below w.heap.size w wr) ∧ Hid (Bk wr b7 32 (dL last)) ∧ Hid (Aside h mb v b7) ∧ Hid ((0 < j → ∀ y ∈ lst, ltD last y = true) ∧ ∀ y ∈ lst, y ∈ l)) (fun i _ => n - (intOf i).toNat)
        case atStart => exact ⟨0, v, lst, m, (0, 0, 0), rfl, by show 0 + lst.length = n; rw [← hn.out]; omega, D2, B2, k7, A7, ⟨fun h => by omega, F3.out⟩⟩
        case round =>
          clear D2 B2 k7 A7 F3 hn
          obtain ⟨j, v, lst, m, last, rfl, HJ, D, hB, K7, A7, F⟩ := hrel
          have k7 := K7.out
          have hbw := hid0 hbw0.out
          by_cases hjn : j < n
          · have hjn' : (j : Int) < (n : Int) := by omega
            have hpos : 0 < lst.length := by have := HJ.out; omega
            have TK := hid0 (take_yes D.out 4294967295 (rdy_max hpos D.out.pd.ok))
            have hb7 : b7 < wr.heap.size := k7.lt
            have hxl := F.out.2 _ (mem_nth.2 ⟨0, hpos, rfl⟩)
            have hlx := fun h0 => F.out.1 h0 _ (mem_nth.2 ⟨0, hpos, rfl⟩)
            have HM := hid0 (fun y => @fst_min lst m D.out.pd hpos y)
            generalize nth lst 0 = x at *
            obtain ⟨xa, xo, xf⟩ := x
            go_wp2_with fail
            refine TK.out.mono ?_
            rintro e w3 ⟨rfl, v', l', m', D3, M3, L3, C3⟩
            obtain ⟨e7, A3⟩ := C3.far hb7 A7.out
            have hB3 := hB.out.trans (C3.bel D.out hB.out.size)
            have F3 : Hid ((0 < j + 1 → ∀ y ∈ l', ltD (xa, xo, xf) y = true) ∧ ∀ y ∈ l', y ∈ l) :=
              ⟨fun _ y hy => HM.out y ((M3 y).1 hy).1 ((M3 y).1 hy).2, fun y hy => F.out.2 y ((M3 y).1 hy).1⟩
            have J3 : Hid (j + 1 + l'.length = n) := by have := HJ.out; show j + 1 + l'.length = n; omega
            have g9 := (Gr.refl w3).alloc (.cells #[.int .u32 xa, .int .u32 xo, .int .u32 xf] 32)
            have k9 := Bk.new w3 32 [.int .u32 xa, .int .u32 xo, .int .u32 xf]
            have b79 : b7 ≠ w3.heap.size := by have := C3.chg.size; omega
            have D5 := hid0 (D3.gr g9)
            have B5 : Hid (Below w.heap.size w (w3.alloc (.cells #[.int .u32 xa, .int .u32 xo, .int .u32 xf] 32))) := hB3.trans (g9.below.mono hB3.size)
            replace k7 := (k7.same e7).gr g9
            replace A3 := hid0 A3
            clear TK D M3 C3 hB A7 e7 HM HJ F D3 hB3 g9
            obtain ⟨la, lo, lf⟩ := last
            clear K7
            have HA := hid0 (has_any ao cap l (xa, xo, xf) _ hl (HP.out.below B5.out) hxl)
            have q0 := k9.at 0
            have q1 := k9.at 1
            have q2 := k9.at 2
            have r0 := k7.at 0
            have r1 := k7.at 1
            have r2 := k7.at 2
            simp only [List.getElem?_cons_zero, List.getElem?_cons_succ] at q0 q1 q2 r0 r1 r2
            by_cases hj0 : 0 < j
            · have hj0' : (j : Int) > 0 := by omega
              have AH := hid0 (ahead_any (la, lo, lf) (xa, xo, xf) (w3.alloc (.cells #[.int .u32 xa, .int .u32 xo, .int .u32 xf] 32)))
              rw [hlx hj0] at AH
              have e9 : Hid (w3.heap.size = w3.heap.size) := rfl
              obtain ⟨b9, hb9⟩ : ∃ b9, b9 = w3.heap.size := ⟨_, rfl⟩
              rw [← hb9] at q0 q1 q2 k9 b79
              replace hb9 := hid0 hb9
              rw [hb9.out] at q0 q1 q2
              go_wp2_with fail
              rw [← hb9.out]
              refine AH.out.mono ?_
              rintro e w4 ⟨rfl, g4⟩
              have HA := hid0 (has_any ao cap l (xa, xo, xf) w4 hl (HP.out.below (B5.out.trans (g4.below.mono B5.out.size))) hxl)
              replace D5 := hid0 (D5.out.gr g4)
              replace B5 : Hid (Below w.heap.size w w4) := B5.out.trans (g4.below.mono B5.out.size)
              replace k7 := k7.gr g4
              replace k9 := k9.gr g4
              clear AH g4 q0 q1 q2 r0 r1 r2
              have q0 := k9.at 0
              have q1 := k9.at 1
              have q2 := k9.at 2
              simp only [List.getElem?_cons_zero, List.getElem?_cons_succ] at q0 q1 q2
              go_wp2_with fail
              refine HA.out.mono ?_
              rintro e w6 ⟨rfl, g6⟩
              replace D5 := hid0 (D5.out.gr g6)
              replace B5 : Hid (Below w.heap.size w w6) := B5.out.trans (g6.below.mono B5.out.size)
              replace k7 := k7.gr g6
              replace k9 := k9.gr g6
              have L5 := hid0 (len_yes D5.out)
              have hwa : wrap64 ((n : Int) - 1) = (n : Int) - 1 := by unfold wrap64; omega
              have hwb : wrap64 ((n : Int) - 1 - (j : Int)) = (n : Int) - 1 - (j : Int) := by unfold wrap64; omega
              have hwc : (l'.length : Int) = (n : Int) - 1 - (j : Int) := by have := J3.out; omega
              rw [hwc] at L5
              replace L5 := hid0 L5
              clear HA g6
              go_wp2_with fail
              refine L5.out.mono ?_
              rintro e w7 ⟨rfl, hw⟩
              cases hw
              have y0 := k9.at 0
              have y1 := k9.at 1
              have y2 := k9.at 2
              have z0 := k7.at 0
              have z1 := k7.at 1
              have z2 := k7.at 2
              have f0 := k7.frozen 0
              have f1 := k7.frozen 1
              have f2 := k7.frozen 2
              simp only [List.getElem?_cons_zero, List.getElem?_cons_succ] at y0 y1 y2 z0 z1 z2
              have K8 := hid0 (put3_bk (x := (xa, xo, xf)) (y := (la, lo, lf)) k7)
              have C8 := put3_chg (W := w6) (w := w6) (p := fun q => q = b7) (b := b7) (i := 0) (x := (xa, xo, xf)) (Chg.refl _ _) rfl
              obtain ⟨n1, n2, n3⟩ := A3.out
              have D8 : Hid (Ds w.heap.size (put3 w6 b7 0 (xa, xo, xf)) d h pb mb v' l' m' 4096) :=
                D5.out.chg C8 (fun e => by have := D5.out.due; rw [e] at this; have := bk_ty this k7; cases this) (fun e => n1 e.symm) (fun e => by have := D5.out.hv.cap; rw [e] at this; have := bk_ty this k7; cases this) (fun g e e' => n3 (by rw [← e']; exact e)) (fun e => n2 e.symm)
              have B8 : Hid (Below w.heap.size w (put3 w6 b7 0 (xa, xo, xf))) := B5.out.trans (C8.below B5.out.size (fun q e => by rw [e]; exact hbw.out))
              clear L5 k7 k9 D5 B5 C8
              go_wp2
              clear y0 y1 y2 z0 z1 z2 f0 f1 f2
              dsimp only [put3, Nat.zero_add] at K8 D8 B8
              generalize World.setCell _ _ _ = X at *
              go_roundw
              case rel => exact ⟨j + 1, v', l', m', (xa, xo, xf), by go_num, J3, D8, B8, K8, A3, F3⟩
              case measure => simp [intOf]; omega
            · have hj0' : ¬ (j : Int) > 0 := by omega
              obtain ⟨b9, hb9⟩ : ∃ b9, b9 = w3.heap.size := ⟨_, rfl⟩
              rw [← hb9] at k9 b79
              replace hb9 := hid0 hb9
              go_wp2_with fail
              rw [← hb9.out]
              refine HA.out.mono ?_
              rintro e w6 ⟨rfl, g6⟩
              replace D5 := hid0 (D5.out.gr g6)
              replace B5 : Hid (Below w.heap.size w w6) := B5.out.trans (g6.below.mono B5.out.size)
              replace k7 := k7.gr g6
              replace k9 := k9.gr g6
              have L5 := hid0 (len_yes D5.out)
              have hwa : wrap64 ((n : Int) - 1) = (n : Int) - 1 := by unfold wrap64; omega
              have hwb : wrap64 ((n : Int) - 1 - (j : Int)) = (n : Int) - 1 - (j : Int) := by unfold wrap64; omega
              have hwc : (l'.length : Int) = (n : Int) - 1 - (j : Int) := by have := J3.out; omega
              rw [hwc] at L5
              replace L5 := hid0 L5
              clear HA g6
              go_wp2_with fail
              refine L5.out.mono ?_
              rintro e w7 ⟨rfl, hw⟩
              cases hw
              have y0 := k9.at 0
              have y1 := k9.at 1
              have y2 := k9.at 2
              have z0 := k7.at 0
              have z1 := k7.at 1
              have z2 := k7.at 2
              have f0 := k7.frozen 0
              have f1 := k7.frozen 1
              have f2 := k7.frozen 2
              simp only [List.getElem?_cons_zero, List.getElem?_cons_succ] at y0 y1 y2 z0 z1 z2
              have K8 := hid0 (put3_bk (x := (xa, xo, xf)) (y := (la, lo, lf)) k7)
              have C8 := put3_chg (W := w6) (w := w6) (p := fun q => q = b7) (b := b7) (i := 0) (x := (xa, xo, xf)) (Chg.refl _ _) rfl
              obtain ⟨n1, n2, n3⟩ := A3.out
              have D8 : Hid (Ds w.heap.size (put3 w6 b7 0 (xa, xo, xf)) d h pb mb v' l' m' 4096) :=
                D5.out.chg C8 (fun e => by have := D5.out.due; rw [e] at this; have := bk_ty this k7; cases this) (fun e => n1 e.symm) (fun e => by have := D5.out.hv.cap; rw [e] at this; have := bk_ty this k7; cases this) (fun g e e' => n3 (by rw [← e']; exact e)) (fun e => n2 e.symm)
              have B8 : Hid (Below w.heap.size w (put3 w6 b7 0 (xa, xo, xf))) := B5.out.trans (C8.below B5.out.size (fun q e => by rw [e]; exact hbw.out))
              clear L5 k7 k9 D5 B5 C8
              go_wp2
              clear y0 y1 y2 z0 z1 z2 f0 f1 f2
              dsimp only [put3, Nat.zero_add] at K8 D8 B8
              generalize World.setCell _ _ _ = X at *
              go_roundw
              case rel => exact ⟨j + 1, v', l', m', (xa, xo, xf), by go_num, J3, D8, B8, K8, A3, F3⟩
              case measure => simp [intOf]; omega
          · skip
            have hz0 : lst = [] := List.eq_nil_of_length_eq_zero (by have := HJ.out; omega)
            have hr : rdy lst 4294967295 = false := by rw [hz0]; rfl
            have hjn' : ¬ (j : Int) < (n : Int) := by omega
            have TN := hid0 (take_not D.out 4294967295 hr)
            clear D hr
            go_wp2_with fail
            refine TN.out.mono ?_
            rintro e w4 ⟨rfl, g4⟩
            have B4 : Hid (Below w.heap.size w (w4.alloc (.cells #[.int .u32 0, .int .u32 0, .int .u32 0] 32))) := hB.out.trans (((g4.alloc _).below).mono hB.out.size)
            clear TN g4
            go_wp2
            go_ret
            exact ⟨rfl, B4.out⟩
end Go.Proofs.Ytaapdkjmlplhgaa
