/- The least number of which something is true: first, Least, Free. -/
import Derived.Test.YtgdmbcfjjdngdaaDoorBm
import Derived.Test.YtgdmbcfjjdngdaaDoorShelf
import Derived.Deep.LoopGhost
set_option linter.unusedSimpArgs false
set_option linter.unusedVariables false
namespace Go.Proofs.YtgdmbcfjjdngdaaDoor
open Go.RowKit Go.Sort Go.Shelf

/-- The words W where a slice reads them. -/
def WordsAt (w : World) (v : Value) (W : List Nat) : Prop := (v = .slice none 0 0 ∧ W = []) ∨ ∃ g cp rest, v = .slice (some ⟨g, 0, none⟩) W.length cp ∧ Bk w g 22 (W.map wV ++ rest)
theorem WordsAt.gr {w w' : World} {v : Value} {W : List Nat} (h : WordsAt w v W) (k : Gr w w') : WordsAt w' v W := by
  rcases h with h | ⟨g, cp, rest, h, hB⟩
  · exact .inl h
  · exact .inr ⟨g, cp, rest, h, hB.gr k⟩
/-- The library's table. -/
def Tab (w : World) : Prop := TabAt 2 Lib.deBruijn64tab w
theorem Tab.gr {w w' : World} (h : Tab w) (k : Gr w w') : Tab w' := fun j hj => below_cell (h j hj) k.below
def flip (b : Bool) : Nat := if b then 18446744073709551615 else 0
/-- Not below fr, and of the kind that is asked for. -/
def pW (W : List Nat) (f : Nat) (b : Bool) (i : Nat) : Bool := decide (f ≤ i) && (bt W i != b)
theorem flip_testBit {x j : Nat} (b : Bool) (hx : x < 18446744073709551616) (hj : j < 64) : (x ^^^ flip b).testBit j = (x.testBit j != b) := by
  cases b with
  | false => simp [flip]
  | true =>
    rw [Nat.testBit_xor]
    have : (flip true).testBit j = true := by
      have e : flip true = 2 ^ 64 - 1 := by decide
      rw [e, Nat.testBit_two_pow_sub_one]
      simp [hj]
    rw [this]
    try (cases x.testBit j <;> rfl)
theorem word_bt {W : List Nat} {i j : Nat} (hj : j < 64) : (W.getD i 0).testBit j = bt W (64 * i + j) := by
  unfold bt
  rw [show (64 * i + j) / 64 = i by omega, show (64 * i + j) % 64 = j by omega]
/-- The word that is looked through at place i. -/
theorem look_testBit {W : List Nat} {i m f j : Nat} {b : Bool} (hW : W.getD i 0 < 18446744073709551616) (hm : ∀ j, j < 64 → m.testBit j = decide (f ≤ 64 * i + j)) (hj : j < 64) :
    ((W.getD i 0 ^^^ flip b) &&& m).testBit j = pW W f b (64 * i + j) := by
  rw [Nat.testBit_and, flip_testBit b hW hj, hm j hj, word_bt hj, Bool.and_comm]
  rfl
theorem flip_lt (b : Bool) : flip b < 18446744073709551616 := by cases b <;> decide
theorem xor_lt64 {a b : Nat} (ha : a < 18446744073709551616) (hb : b < 18446744073709551616) : a ^^^ b < 18446744073709551616 := by
  have := Nat.xor_lt_two_pow (n := 64) (by omega : a < 2 ^ 64) (by omega : b < 2 ^ 64)
  omega
theorem and_lt64 {a b : Nat} (hb : b < 18446744073709551616) : a &&& b < 18446744073709551616 := by
  have := Nat.and_lt_two_pow (n := 64) a (by omega : b < 2 ^ 64)
  omega
theorem zero_of_bits {x : Nat} (hx : x < 18446744073709551616) (h : ∀ j, j < 64 → x.testBit j = false) : x = 0 := by
  apply Nat.eq_of_testBit_eq
  intro j
  rw [Nat.zero_testBit]
  rcases Nat.lt_or_ge j 64 with hj | hj
  · exact h j hj
  · exact lt64_of_testBit hx hj
set_option maxHeartbeats 1000000 in
theorem first_any (v : Value) (W : List Nat) (fr : Int) (f : Nat) (b : Bool) (w : World) (h : WordsAt w v W) (hT : Tab w) (hW : ∀ x ∈ W, x < 18446744073709551616) (hl : W.length ≤ 1024) (hf : max fr 0 = (f : Int)) (hf2 : f ≤ 9223372036854775807) :
    Calls Tryd.prog 70 #[v, .int .i64 fr, .int .u64 ((flip b : Nat) : Int)] w fun e w' => ∃ r, e = .returned (.int .i64 r) ∧ w' = w ∧ IsLeast (pW W f b) (64 * W.length) r := by
  have TZ : Hid (∀ x : Nat, x < 18446744073709551616 → Calls Tryd.prog 84 #[.int .u64 (x : Int)] w fun e w' => e = .returned (.int .i64 (Lib.ctz 64 x)) ∧ w' = w) := fun x hx => Any7.bits_TrailingZeros64 Tryd.laysTz x hx w (fun _ => hT)
  have hg : ∀ i, W.getD i 0 < 18446744073709551616 := fun i => by
    rw [List.getD_eq_getElem?_getD]
    cases e : W[i]? with
    | none => simp
    | some x => exact hW x (List.mem_of_getElem? e)
  have HW := hid0 hg
  have CW : Hid (∀ i, i < W.length → ∃ g cp, v = .slice (some ⟨g, 0, none⟩) W.length cp ∧ w.cell? ⟨g, i, none⟩ = some (.int .u64 ((W.getD i 0 : Nat) : Int))) := fun i hi => by
    rcases h with ⟨rfl, rfl⟩ | ⟨g, cp, rest, rfl, hB⟩
    · simp at hi
    · refine ⟨g, cp, rfl, ?_⟩
      rw [hB.at, List.getElem?_append_left (by simpa using hi), List.getElem?_map, List.getElem?_eq_getElem hi, List.getD_eq_getElem?_getD, List.getElem?_eq_getElem hi]
      rfl
  obtain ⟨ao, cp, ev⟩ : ∃ ao cp, v = .slice ao W.length cp := by
    rcases h with ⟨rfl, rfl⟩ | ⟨g, cp, rest, rfl, hB⟩
    · exact ⟨none, 0, rfl⟩
    · exact ⟨_, _, rfl⟩
  subst ev
  clear h hT hW hg
  have M0 : Hid (∀ j, j < 64 → (18446744073709551615 * 2 ^ (f % 64) % 18446744073709551616).testBit j = decide (f ≤ 64 * (f / 64) + j)) := fun j hj => by
    rw [mask_testBit (Nat.mod_lt _ (by omega)) hj]
    congr 1
    apply propext
    omega
  go_enter Tryd.func70, Tryd.ntmps70
  go_wp2
  go_loopg [7, 8] (W.length - f / 64) (fun kx s7 s8 wr => ∃ m i : Nat, s7 = .int .u64 (m : Int) ∧ s8 = .int .i64 (i : Int) ∧ f / 64 ≤ i ∧ i ≤ 144115188075855872 ∧ kx = W.length - i ∧ wr = w ∧ m < 18446744073709551616 ∧ Hid (∀ j, j < 64 → m.testBit j = decide (f ≤ 64 * i + j)) ∧ Hid (∀ j, j < 64 * i → pW W f b j = false))
  case atStart =>
    refine ⟨18446744073709551615 * 2 ^ (f % 64) % 18446744073709551616, f / 64, ?_, by rw [show (f : Int) / 64 = ((f / 64 : Nat) : Int) by omega], Nat.le_refl _, by omega, rfl, rfl, Nat.mod_lt _ (by omega), M0, fun j hj => ?_⟩
    · have e2 : ((2 ^ (f % 64) : Nat) : Int) = (2 : Int) ^ (f % 64) := by simp
      rw [← e2, IntKind.wrap_u64]
      generalize 2 ^ (f % 64) = M
      congr 1
    · unfold pW
      rw [decide_eq_false (by omega)]
      rfl
  case round =>
    obtain ⟨m, i, rfl, rfl, hfi, hi57, rfl, rfl, hm, MB, PL⟩ := hrel
    clear M0
    by_cases hlt : i < W.length
    · obtain ⟨g, cp', ev, cw⟩ := CW.out i hlt
      cases ev
      have LK : Hid (∀ j, j < 64 → ((W.getD i 0 ^^^ flip b) &&& m).testBit j = pW W f b (64 * i + j)) := fun j hj => look_testBit (HW.out i) MB.out hj
      have hx := bits_xor_u64_nat (W.getD i 0) (flip b) (HW.out i) (flip_lt b)
      have ha := bits_and_u64_nat (W.getD i 0 ^^^ flip b) m (xor_lt64 (HW.out i) (flip_lt b)) hm
      have hY : (W.getD i 0 ^^^ flip b) &&& m < 18446744073709551616 := and_lt64 hm
      have hlt' : (i : Int) < (W.length : Int) := by omega
      clear CW
      generalize (W.getD i 0 ^^^ flip b) &&& m = Y at *
      generalize W.getD i 0 ^^^ flip b = Z at *
      generalize W.getD i 0 = X at *
      by_cases hY0 : Y = 0
      · have hne : ((Y : Int) != 0) = false := by simp; omega
        have P2 : Hid (∀ j, j < 64 * (i + 1) → pW W f b j = false) := fun j hj => by
          rcases Nat.lt_or_ge j (64 * i) with h | h
          · exact PL.out j h
          · have := LK.out (j - 64 * i) (by omega)
            rw [show 64 * i + (j - 64 * i) = j by omega, hY0, Nat.zero_testBit] at this
            exact this.symm
        have MB2 : Hid (∀ j, j < 64 → (18446744073709551615 : Nat).testBit j = decide (f ≤ 64 * (i + 1) + j)) := fun j hj => by
          rw [decide_eq_true (by omega), show (18446744073709551615 : Nat) = 2 ^ 64 - 1 by decide, Nat.testBit_two_pow_sub_one]
          simp [hj]
        clear LK PL MB hY0
        go_wp2
        go_roundg (W.length - (i + 1))
        case measure => omega
        case rel => exact ⟨18446744073709551615, i + 1, rfl, by simp, by omega, by omega, rfl, rfl, by omega, MB2, P2⟩
      · have hne : ((Y : Int) != 0) = true := by simp; omega
        obtain ⟨c1, c2, c3⟩ := ctz_spec Y hY0 hY
        have TZY := hid0 (TZ.out Y hY)
        generalize Lib.ctz 64 Y = c at *
        have R : Hid (IsLeast (pW W f b) (64 * W.length) ((i : Int) * 64 + (c : Int))) := by
          refine .inr ⟨64 * i + c, by omega, by omega, ?_, fun j hj => ?_⟩
          · rw [← LK.out c c1]; exact c2
          · rcases Nat.lt_or_ge j (64 * i) with h | h
            · exact PL.out j h
            · have := LK.out (j - 64 * i) (by omega)
              rw [show 64 * i + (j - 64 * i) = j by omega] at this
              rw [← this]
              exact c3 _ (by omega)
        clear LK PL MB c2 c3 TZ HW
        go_wp2_with fail
        refine TZY.out.mono ?_
        rintro e w1 ⟨rfl, hw⟩
        cases hw
        go_wp2
        go_ret
        exact ⟨_, rfl, rfl, R.out⟩
    · have hge : ¬ (i : Int) < (W.length : Int) := by omega
      have R : Hid (IsLeast (pW W f b) (64 * W.length) (-1)) := .inl ⟨rfl, fun j hj => PL.out j (by omega)⟩
      clear PL MB CW TZ HW
      go_wp2
      go_ret
      exact ⟨_, rfl, rfl, R.out⟩
theorem len16 {n : Nat} (h : n ≤ 65536) : (n + 63) / 64 ≤ 1024 := by omega
/-- The least number of the set (or of those that are not in it) that is not below fr. -/
def pT_ (T : List Bool) (fr : Int) (b : Bool) (i : Nat) : Bool := decide (fr ≤ (i : Int)) && (T.getD i false == b)
section
variable {w : World} {b g : Nat} {T : List Bool} {W : List Nat}
theorem BitsIs.words (h : BitsIs w b g T W) : WordsAt w (.slice (some ⟨g, 0, none⟩) W.length W.length) W := .inr ⟨g, _, [], rfl, by rw [List.append_nil]; exact h.row⟩
theorem max_nat (fr : Int) : ∃ f : Nat, max fr 0 = (f : Int) ∧ ∀ i : Nat, (f ≤ i ↔ fr ≤ (i : Int)) := ⟨(max fr 0).toNat, by omega, fun i => by omega⟩
theorem least_of (h : BitsIs w b g T W) {fr : Int} {f : Nat} (hf : ∀ i : Nat, (f ≤ i ↔ fr ≤ (i : Int))) {r : Int} (k : IsLeast (pW W f false) (64 * W.length) r) : IsLeast (pT_ T fr true) T.length r := by
  have hl := h.rep.len
  have e : ∀ i, pW W f false i = pT_ T fr true i := fun i => by
    unfold pW pT_
    rw [h.rep.is i]
    congr 1
    · exact decide_eq_decide.2 (hf i)
    · cases T.getD i false <;> rfl
  rcases k with ⟨rfl, k⟩ | ⟨i, hi, rfl, pi, k⟩
  · exact .inl ⟨rfl, fun j hj => by rw [← e]; exact k j (by omega)⟩
  · refine .inr ⟨i, ?_, rfl, by rw [← e]; exact pi, fun j hj => by rw [← e]; exact k j hj⟩
    rcases Nat.lt_or_ge i T.length with hh | hh
    · exact hh
    · rw [e] at pi
      unfold pT_ at pi
      rw [List.getD_eq_getElem?_getD, List.getElem?_eq_none (by omega)] at pi
      simp at pi
/-- What Free makes of the least number whose bit is not set. -/
def frF (n : Nat) (r : Int) : Int := if 0 ≤ r ∧ r < (n : Int) then r else -1
theorem free_of (h : BitsIs w b g T W) {fr : Int} {f : Nat} (hf : ∀ i : Nat, (f ≤ i ↔ fr ≤ (i : Int))) {r : Int} (k : IsLeast (pW W f true) (64 * W.length) r) : IsLeast (pT_ T fr false) T.length (frF T.length r) := by
  have hl := h.rep.len
  have e : ∀ i, pW W f true i = pT_ T fr false i := fun i => by
    unfold pW pT_
    rw [h.rep.is i]
    congr 1
    · exact decide_eq_decide.2 (hf i)
    · cases T.getD i false <;> rfl
  unfold frF
  rcases k with ⟨rfl, k⟩ | ⟨i, hi, rfl, pi, k⟩
  · rw [if_neg (by omega)]
    exact .inl ⟨rfl, fun j hj => by rw [← e]; exact k j (by omega)⟩
  · split
    · exact .inr ⟨i, by omega, rfl, by rw [← e]; exact pi, fun j hj => by rw [← e]; exact k j hj⟩
    · exact .inl ⟨rfl, fun j hj => by rw [← e]; exact k j (by omega)⟩
theorem free_any (h : BitsIs w b g T W) (hT : Tab w) (fr : Int) (hr : in64 fr) : Calls Tryd.prog 49 #[pT b, .int .i64 fr] w fun e w' => ∃ r, e = .returned (.int .i64 r) ∧ IsLeast (pT_ T fr false) T.length r ∧ w' = w := by
  obtain ⟨f, hf, hfi⟩ := max_nat fr
  have A := hid0 (babsent_yes b w h.c0)
  have F := hid0 (first_any _ W fr f true w h.words hT h.rep.lt (by have := h.rep.len; have := h.most; omega) hf (by unfold in64 at hr; omega))
  have c2 := h.c2
  have MA := hid0 (fun r => may_any h r)
  have LE := hid0 (fun r => free_of h hfi (r := r))
  clear h hf hfi hr hT
  rw [show ((flip true : Nat) : Int) = 18446744073709551615 by rfl] at F
  go_enter Tryd.func49, Tryd.ntmps49
  go_wp2_with (go_at_call 69; refine A.out.mono ?_; rintro e w1 ⟨rfl, hw⟩; cases hw)
  refine F.out.mono ?_
  rintro e w1 ⟨r, rfl, hw, hL⟩
  cases hw
  have HL := hid0 hL
  clear hL F A
  have MR := hid0 (MA.out r)
  have LR : Hid (IsLeast (pT_ T fr false) T.length (frF T.length r)) := LE.out r HL.out
  clear MA LE HL
  by_cases hin : 0 ≤ r ∧ r < (T.length : Int)
  · rw [show (decide (0 ≤ r) && decide (r < (T.length : Int))) = true by simp; exact hin] at MR
    rw [show frF T.length r = r from if_pos hin] at LR
    clear hin
    go_wp2_with (go_at_call 71; refine MR.out.mono ?_; rintro e w1 ⟨rfl, hw⟩; cases hw)
    go_ret
    exact ⟨r, rfl, LR.out, rfl⟩
  · rw [show (decide (0 ≤ r) && decide (r < (T.length : Int))) = false by simp; omega] at MR
    rw [show frF T.length r = -1 from if_neg hin] at LR
    clear hin
    go_wp2_with (go_at_call 71; refine MR.out.mono ?_; rintro e w1 ⟨rfl, hw⟩; cases hw)
    go_ret
    exact ⟨-1, rfl, LR.out, rfl⟩
end
theorem u64_info : (Tryd.prog.info? 22).map (fun i => (i.zero, i.size, i.bytes)) = some (some (wV 0), 1, 8) := by kernel_rfl
theorem w_make (n : Nat) (h : n ≤ 65536) (w : World) : (Instr.makeSlice 116 (.int .i64 (n : Int)) (.int .i64 (n : Int))).run Tryd.prog w = .ok (.slice (some ⟨w.heap.size, 0, none⟩) n n) (w.alloc (.cells (madeCells #[wV 0] n) 22)) := by
  obtain ⟨i, hi, hz0, hz1, hz2⟩ := info_parts u64_info
  have := run_make (P := Tryd.prog) w 116 22 i (wV 0) Tryd.underlying116 hi hz0 .i64 .i64 (n : Int) (n : Int) (by omega) (by omega) (by rw [hz2]; omega) (by omega)
  rw [hz1, Int.toNat_natCast, Nat.mul_one] at this
  exact this
theorem newbits_no (m : Int) (w : World) (h : m < 0 ∨ 65536 < m) : Calls Tryd.prog 44 #[.int .i64 m] w fun e w' => e = .returned (.tuple #[.pointer none, .int .i64 2]) ∧ w' = w := by
  rcases h with h | h
  · have d1 : decide (m < 0) = true := decide_eq_true h
    go_enter Tryd.func44, Tryd.ntmps44
    go_wp2
    go_ret2
    exact ⟨rfl, rfl⟩
  · have d1 : decide (m < 0) = false := decide_eq_false (by omega)
    have d2 : decide (m > 65536) = true := decide_eq_true h
    have h1 : ¬ m < 0 := by omega
    go_enter Tryd.func44, Tryd.ntmps44
    go_wp2
    go_ret2
    exact ⟨rfl, rfl⟩
def NewBitsR (n : Nat) (w : World) (e : Ending) (w' : World) : Prop := ∃ b g W, e = .returned (.tuple #[pT b, .int .i64 0]) ∧ w.heap.size ≤ b ∧ w.heap.size ≤ g ∧ BitsIs w' b g (List.replicate n false) W ∧ Gr w w'
theorem newbits_yes (n : Nat) (w : World) (h2 : n ≤ 65536) : Calls Tryd.prog 44 #[.int .i64 (n : Int)] w (NewBitsR n w) := by
  have MK := w_make ((n + 63) / 64) (by omega) w
  have d1 : ¬ (n : Int) < 0 := by omega
  have d2 : ¬ (n : Int) > 65536 := by omega
  have hd : IntKind.i64.wrap (IntKind.i64.wrap ((n : Int) + 64) - 1) / 64 = (((n + 63) / 64 : Nat) : Int) := by rw [IntKind.wrap_i64, IntKind.wrap_i64]; omega
  have hd1 : ((n : Int) + 64 - 1) / 64 = (((n + 63) / 64 : Nat) : Int) := by omega
  have G : Gr w ((w.alloc (.cells (madeCells #[wV 0] ((n + 63) / 64)) 22)).alloc (.cells #[.bool true, .int .i64 (n : Int), .slice (some ⟨w.heap.size, 0, none⟩) ((n + 63) / 64) ((n + 63) / 64)] 118)) := ((Gr.refl w).alloc _).alloc _
  have kB : Bk (w.alloc (.cells (madeCells #[wV 0] ((n + 63) / 64)) 22)) w.heap.size 22 ((List.replicate ((n + 63) / 64) 0).map wV) := by
    have : (madeCells #[wV 0] ((n + 63) / 64)) = ((List.replicate ((n + 63) / 64) 0).map wV).toArray := by
      apply Array.toList_inj.1
      rw [toList_madeCells_one, List.map_replicate]
    rw [this]
    exact Bk.new w 22 _
  have kT := Bk.new (w.alloc (.cells (madeCells #[wV 0] ((n + 63) / 64)) 22)) 118 [.bool true, .int .i64 (n : Int), .slice (some ⟨w.heap.size, 0, none⟩) ((n + 63) / 64) ((n + 63) / 64)]
  rw [World.size_alloc] at kT
  have K : BitsIs ((w.alloc (.cells (madeCells #[wV 0] ((n + 63) / 64)) 22)).alloc (.cells #[.bool true, .int .i64 (n : Int), .slice (some ⟨w.heap.size, 0, none⟩) ((n + 63) / 64) ((n + 63) / 64)] 118)) (w.heap.size + 1) w.heap.size (List.replicate n false) (List.replicate ((n + 63) / 64) 0) :=
    ⟨by rw [List.length_replicate, List.length_replicate]; exact kT, kB.alloc _, Rep.nil n, by rw [List.length_replicate]; exact h2⟩
  have HK := hid0 K
  have HG := hid0 G
  clear K kT kB G h2
  generalize (n + 63) / 64 = N at *
  go_enter Tryd.func44, Tryd.ntmps44
  go_wp2
  go_ret2
  exact ⟨_, _, _, rfl, by omega, Nat.le_refl _, HK.out, HG.out⟩
end Go.Proofs.YtgdmbcfjjdngdaaDoor
