/- Contract of the program's text of a number. -/
import Derived.Test.YtgpkigofbncamaaDoorFmt
import Derived.Test.YtgpkigofbncamaaDoorRText
import Derived.Test.YtgpkigofbncamaaDoorQuo
namespace Go.Proofs.YtgpkigofbncamaaDoor
open Go.RowKit Go.Sort Go.Lib Go.Proofs

theorem tab_mono {w w' : World} (h : TabIs Tryd.prog w "internal/strconv.uint64pow10" .u64 pow10Tab) (g : Below w.heap.size w w') : TabIs Tryd.prog w' "internal/strconv.uint64pow10" .u64 pow10Tab := by
  unfold TabIs World.var? at *
  cases hg : Tryd.prog.globalNamed "internal/strconv.uint64pow10" with
  | none => simp [hg] at h
  | some i =>
    simp only [hg, Option.bind_some] at h ⊢
    have hlt : i < w.heap.size := by
      rcases Nat.lt_or_ge i w.heap.size with h' | h'
      · exact h'
      · rw [Array.getElem?_eq_none h'] at h; simp at h
    rw [g.block i hlt]
    exact h
theorem ba_app (a b : List UInt8) : (⟨a.toArray⟩ : ByteArray) ++ ⟨b.toArray⟩ = ⟨(a ++ b).toArray⟩ := ByteArray.ext (by simp [ByteArray.data_append])
theorem abs_natI (v : Int) : absI v = (v.natAbs : Int) := by unfold absI; split <;> omega
theorem dec_len {u k : Nat} (h : u < 10 ^ (k + 1)) : (decDigits u).length ≤ k + 1 := by
  have h1 := pad_eq k u h
  have h2 : ∀ k t, (pad k t).length = k := by
    intro k
    induction k with
    | zero => intro t; rfl
    | succ k ih => intro t; show (pad k (t / 10) ++ [dsg (t % 10)]).length = _; rw [List.length_append, ih]; rfl
  have h3 := congrArg List.length h1
  rw [h2, List.length_append] at h3
  omega

set_option maxRecDepth 20000 in
set_option maxHeartbeats 4000000 in
theorem wtext_any (m : Int) (hm : inI m) (w : World) (htab : TabIs Tryd.prog w "internal/strconv.uint64pow10" .u64 pow10Tab) :
    Calls Tryd.prog 5 #[.agg #[.int .i64 (hiI m), .int .u64 (loI m)]] w fun e w' => e = .returned (.string ⟨(textI m).toArray⟩) ∧ Below w.heap.size w w' := by
  have HM : Hid (inI m) := hm
  obtain ⟨a0, a1⟩ := abs_in hm
  have hA : m.natAbs ≤ 170141183460469231731687303715884105728 := by rw [abs_natI] at a1; omega
  have hh : m.natAbs / 10000000000000000000 < 18446744073709551616 := by omega
  have ht : m.natAbs % 10000000000000000000 < 10000000000000000000 := by omega
  have HH1 : Hid (absI m / 10000000000000000000 / 18446744073709551616 = 0) := by unfold Hid; rw [abs_natI]; omega
  have HH2 : Hid (absI m / 10000000000000000000 % 18446744073709551616 = ((m.natAbs / 10000000000000000000 : Nat) : Int)) := by unfold Hid; rw [abs_natI]; omega
  have HT : Hid (absI m % 10000000000000000000 = ((m.natAbs % 10000000000000000000 : Nat) : Int)) := by unfold Hid; rw [abs_natI]; omega
  have HA0 : Hid (m.natAbs / 10000000000000000000 = 0 → decDigits m.natAbs = decDigits (m.natAbs % 10000000000000000000)) := fun h => by rw [show m.natAbs % 10000000000000000000 = m.natAbs from by omega]
  have HA1 : Hid (0 < m.natAbs / 10000000000000000000 → decDigits m.natAbs = decDigits (m.natAbs / 10000000000000000000) ++ (repeatL [48] (19 - (decDigits (m.natAbs % 10000000000000000000)).length) ++ decDigits (m.natAbs % 10000000000000000000))) := fun h => by
    rw [← dec_pieces h ht]
    congr 1
    omega
  have lt1 : (decDigits (m.natAbs % 10000000000000000000)).length ≤ 19 := dec_len (k := 18) ht
  have lh1 : (decDigits (m.natAbs / 10000000000000000000)).length ≤ 20 := dec_len (k := 19) (by omega)
  have sg : m < 0 ↔ hiI m < 0 := by unfold inI hiI at *; omega
  have hG : Gr w (w.alloc (.cells #[.int .i64 (hiI m), .int .u64 (loI m)] 25)) := (Gr.refl _).alloc _
  have k0 := Bx.new w 25 (.int .i64 (hiI m)) (.int .u64 (loI m))
  clear hm
  by_cases hs : m < 0
  · have hs' := sg.1 hs
    have HX : Hid (textI m = 45 :: decDigits m.natAbs) := by unfold Hid textI; rw [if_pos hs]
    clear sg hs hA
    generalize m.natAbs / 10000000000000000000 = h at *
    generalize m.natAbs % 10000000000000000000 = t at *
    generalize m.natAbs = A at *
    go_enter Tryd.func5, Tryd.ntmps5
    go_upto_region 4 with fail
    generalize w.alloc (.cells #[.int .i64 (hiI m), .int .u64 (loI m)] 25) = W at *
    have x0 := k0.c0
    have x1 := k0.c1
    go_upto_region 5 with (first
      | (go_at_call 11; refine (wsize_any m HM.out _).mono ?_; rintro e w1 ⟨rfl, g1⟩)
      | (go_at_call 12; refine (wsquo_any (absI m) 10000000000000000000 _ a0 (by omega) (by omega) (by omega)).mono ?_; rintro e w2 ⟨rfl, g2⟩))
    rw [HH1.out, HH2.out, HT.out]
    have g3 := (g1.trans g2).alloc (.cells #[.int .u64 0, .int .u64 (h : Int)] 41)
    have k4 := Bx.new w2 41 (.int .u64 0) (.int .u64 (h : Int))
    replace hG := hG.trans g3
    have tb := tab_mono htab hG.below
    clear g1 g2 g3 k0 x0 x1
    generalize w2.alloc (.cells #[.int .u64 0, .int .u64 (h : Int)] 41) = W4 at *
    generalize w2.heap.size = X4 at *
    have F1 := hid' (fmtu_any t (by omega) W4 tb)
    go_upto_region 6 with (go_at_call 13; refine F1.out.mono ?_; rintro e w5 ⟨rfl, g5⟩)
    replace k4 := k4.gr g5
    replace tb := tab_mono tb g5.below
    replace hG := hG.trans g5
    have c0 := k4.c0
    have c1 := k4.c1
    by_cases h0 : h = 0
    · subst h0
      have RS := fun w => run_string_add_lists (P := Tryd.prog) w [45] (decDigits t) (by simp) (by omega)
      have E : Hid (textI m = [45] ++ decDigits t) := by unfold Hid; rw [HX.out, HA0.out rfl]; rfl
      generalize decDigits t = dt at *
      go_wp2
      go_ret
      exact ⟨by rw [E.out]; rfl, hG.below⟩
    · have h0' : ((h : Int) == 0) = false := by simp; omega
      have E : Hid (textI m = [45] ++ (decDigits h ++ (repeatL [48] (19 - (decDigits t).length) ++ decDigits t))) := by unfold Hid; rw [HX.out, HA1.out (by omega)]; rfl
      have hrl : (repeatL [48] (19 - (decDigits t).length)).length ≤ 19 := by rw [repeatL_length]; simp
      have R1 := fun w => run_string_add_lists (P := Tryd.prog) w [45] (decDigits h) (by simp) (by omega)
      have R2 := fun w => run_string_add_lists (P := Tryd.prog) w ([45] ++ decDigits h) (repeatL [48] (19 - (decDigits t).length)) (by simp; omega) (by omega)
      have R3 := fun w => run_string_add_lists (P := Tryd.prog) w ([45] ++ decDigits h ++ repeatL [48] (19 - (decDigits t).length)) (decDigits t) (by simp; omega) (by omega)
      have hsz : (⟨(decDigits t).toArray⟩ : ByteArray).size = (decDigits t).length := by simp [ByteArray.size]
      have RP : Hid (∀ w, Calls Tryd.prog 14 #[.string ⟨#[48]⟩, .int .i64 (19 - ((decDigits t).length : Int))] w fun e w' => e = .returned (.string ⟨(repeatL [48] (19 - (decDigits t).length)).toArray⟩) ∧ Below w.heap.size w w') := fun w => by
        have hr := Tryd.strings_Repeat ⟨#[48]⟩ (19 - (decDigits t).length) w (by omega) (by show 1 * _ ≤ _; omega)
        rw [show ((19 - (decDigits t).length : Nat) : Int) = 19 - ((decDigits t).length : Int) from by omega] at hr
        exact hr
      go_upto_region 9 with (go_at_call 14; refine (RP.out _).mono ?_; rintro e w6 ⟨rfl, hb6⟩)
      have hBl := hG.below.trans (hb6.mono hG.size)
      have F2 := hid' (fmtu_any h hh w6 (tab_mono tb hb6))
      replace k4 := k4.mono hb6 k4.lt
      clear c0 c1 tb hb6 RP hG g5 F1
      have c1 := k4.c1
      go_wp2_with (go_at_call 13; refine F2.out.mono ?_; rintro e w7 ⟨rfl, g7⟩)
      go_ret
      exact ⟨by rw [E.out]; simp [ba_app], hBl.trans (g7.below.mono hBl.size)⟩
  · have hs' : 0 ≤ hiI m := by omega
    have HX : Hid (textI m = decDigits m.natAbs) := by unfold Hid textI; rw [if_neg hs]
    clear sg hs hA
    generalize m.natAbs / 10000000000000000000 = h at *
    generalize m.natAbs % 10000000000000000000 = t at *
    generalize m.natAbs = A at *
    go_enter Tryd.func5, Tryd.ntmps5
    go_upto_region 4 with fail
    generalize w.alloc (.cells #[.int .i64 (hiI m), .int .u64 (loI m)] 25) = W at *
    have x0 := k0.c0
    have x1 := k0.c1
    go_upto_region 5 with (first
      | (go_at_call 11; refine (wsize_any m HM.out _).mono ?_; rintro e w1 ⟨rfl, g1⟩)
      | (go_at_call 12; refine (wsquo_any (absI m) 10000000000000000000 _ a0 (by omega) (by omega) (by omega)).mono ?_; rintro e w2 ⟨rfl, g2⟩))
    rw [HH1.out, HH2.out, HT.out]
    have g3 := (g1.trans g2).alloc (.cells #[.int .u64 0, .int .u64 (h : Int)] 41)
    have k4 := Bx.new w2 41 (.int .u64 0) (.int .u64 (h : Int))
    replace hG := hG.trans g3
    have tb := tab_mono htab hG.below
    clear g1 g2 g3 k0 x0 x1
    generalize w2.alloc (.cells #[.int .u64 0, .int .u64 (h : Int)] 41) = W4 at *
    generalize w2.heap.size = X4 at *
    have F1 := hid' (fmtu_any t (by omega) W4 tb)
    go_upto_region 6 with (go_at_call 13; refine F1.out.mono ?_; rintro e w5 ⟨rfl, g5⟩)
    replace k4 := k4.gr g5
    replace tb := tab_mono tb g5.below
    replace hG := hG.trans g5
    have c0 := k4.c0
    have c1 := k4.c1
    by_cases h0 : h = 0
    · subst h0
      have RS := fun w => run_string_add_lists (P := Tryd.prog) w ([] : List UInt8) (decDigits t) (by simp) (by omega)
      have E : Hid (textI m = ([] : List UInt8) ++ decDigits t) := by unfold Hid; rw [HX.out, HA0.out rfl]; rfl
      generalize decDigits t = dt at *
      go_wp2
      go_ret
      exact ⟨by rw [E.out]; rfl, hG.below⟩
    · have h0' : ((h : Int) == 0) = false := by simp; omega
      have E : Hid (textI m = ([] : List UInt8) ++ (decDigits h ++ (repeatL [48] (19 - (decDigits t).length) ++ decDigits t))) := by unfold Hid; rw [HX.out, HA1.out (by omega)]; rfl
      have hrl : (repeatL [48] (19 - (decDigits t).length)).length ≤ 19 := by rw [repeatL_length]; simp
      have R1 := fun w => run_string_add_lists (P := Tryd.prog) w ([] : List UInt8) (decDigits h) (by simp) (by omega)
      have R2 := fun w => run_string_add_lists (P := Tryd.prog) w (([] : List UInt8) ++ decDigits h) (repeatL [48] (19 - (decDigits t).length)) (by simp; omega) (by omega)
      have R3 := fun w => run_string_add_lists (P := Tryd.prog) w (([] : List UInt8) ++ decDigits h ++ repeatL [48] (19 - (decDigits t).length)) (decDigits t) (by simp; omega) (by omega)
      have hsz : (⟨(decDigits t).toArray⟩ : ByteArray).size = (decDigits t).length := by simp [ByteArray.size]
      have RP : Hid (∀ w, Calls Tryd.prog 14 #[.string ⟨#[48]⟩, .int .i64 (19 - ((decDigits t).length : Int))] w fun e w' => e = .returned (.string ⟨(repeatL [48] (19 - (decDigits t).length)).toArray⟩) ∧ Below w.heap.size w w') := fun w => by
        have hr := Tryd.strings_Repeat ⟨#[48]⟩ (19 - (decDigits t).length) w (by omega) (by show 1 * _ ≤ _; omega)
        rw [show ((19 - (decDigits t).length : Nat) : Int) = 19 - ((decDigits t).length : Int) from by omega] at hr
        exact hr
      go_upto_region 9 with (go_at_call 14; refine (RP.out _).mono ?_; rintro e w6 ⟨rfl, hb6⟩)
      have hBl := hG.below.trans (hb6.mono hG.size)
      have F2 := hid' (fmtu_any h hh w6 (tab_mono tb hb6))
      replace k4 := k4.mono hb6 k4.lt
      clear c0 c1 tb hb6 RP hG g5 F1
      have c1 := k4.c1
      go_wp2_with (go_at_call 13; refine F2.out.mono ?_; rintro e w7 ⟨rfl, g7⟩)
      go_ret
      exact ⟨by rw [E.out]; simp [ba_app], hBl.trans (g7.below.mono hBl.size)⟩
end Go.Proofs.YtgpkigofbncamaaDoor
