/- The library's text of -1.5: ftoa64 and what calls it. -/
import Derived.Test.YtmkechhjgdanmaaGreatDoorLv2
import Derived.Test.YtmkechhjgdanmaaGreatDoorLv3
import Derived.Test.YtmkechhjgdanmaaGreatDoorLv4
namespace Go.Proofs.YtmkechhjgdanmaaGreatDoor
open Go.RowKit Go.Sort

theorem run109 (b : Nat) (w : World) : (callFunc 109 #[.float .f64 b]).run Tryz.prog w = .ok (.value (.int .u64 (b : Int))) w := by
  rw [run_callFunc_extern Tryz.func109 (by kernel_rfl) (by kernel_rfl) (by kernel_rfl) (e := Extern.MathFloatBits.float64bits) (by kernel_rfl)]
  rfl
theorem lv113a (w : World) : Calls Tryz.prog 113 #[.int .u64 6755399441055744] w fun e w' => e = .returned (.int .i64 53) ∧ w' = w :=
  calls_run 100 Tryz.func113 (fun cs => by kernel_rfl) (fun cs => by kernel_rfl)
theorem lv113b (w : World) : Calls Tryz.prog 113 #[.int .u64 1500000000000000] w fun e w' => e = .returned (.int .i64 51) ∧ w' = w :=
  calls_run 100 Tryz.func113 (fun cs => by kernel_rfl) (fun cs => by kernel_rfl)
theorem lv116b (w : World) : Calls Tryz.prog 116 #[.int .i64 51] w fun e w' => e = .returned (.int .i64 15) ∧ w' = w :=
  calls_run 60 Tryz.func116 (fun cs => by kernel_rfl) (fun cs => by kernel_rfl)
theorem lv127 (w : World) : Calls Tryz.prog 127 #[.bool true] w fun e w' => e = .returned (.int .i64 1) ∧ w' = w :=
  calls_run 60 Tryz.func127 (fun cs => by kernel_rfl) (fun cs => by kernel_rfl)
set_option maxRecDepth 20000 in
set_option maxHeartbeats 1600000 in
theorem lv97 (w : World) (h : w.cell? ⟨4, 15, none⟩ = some (.int .u64 1000000000000000)) :
    Calls Tryz.prog 97 #[.int .u64 1500000000000000] w fun e w' => e = .returned (.int .i64 16) ∧ w' = w := by
  go_enter Tryz.func97, Tryz.ntmps97
  go_wp2_with (first
    | (go_at_call 113; refine (lv113b _).mono ?_; rintro e w' ⟨rfl, rfl⟩)
    | (go_at_call 116; refine (lv116b _).mono ?_; rintro e w' ⟨rfl, rfl⟩)
    | (go_at_call 127; refine (lv127 _).mono ?_; rintro e w' ⟨rfl, rfl⟩))
  go_ret
  exact ⟨rfl, rfl⟩
/-- The cells of the two tables that are read. -/
structure LvF (w : World) : Prop where
  t0 : w.cell? ⟨11, 728, none⟩ = some (.int .u64 10240000000000000000)
  t1 : w.cell? ⟨11, 729, none⟩ = some (.int .u64 0)
  t2 : w.cell? ⟨4, 15, none⟩ = some (.int .u64 1000000000000000)
theorem LvF.mono {w w' : World} (h : LvF w) (g : Below w.heap.size w w') : LvF w' := ⟨below_cell h.t0 g, below_cell h.t1 g, below_cell h.t2 g⟩
theorem own_below {w w' : World} {X e size n : Nat} {v : Value} {xs : List Value} (h : w.ownsRow X e size v n xs) (g : Below w.heap.size w w') : w'.ownsRow X e size v n xs := by
  obtain ⟨h1, h2⟩ := h
  refine ⟨h1, ?_⟩
  rcases h2 with h2 | ⟨b, cap, cur, h3, h4, h5, h6⟩
  · exact .inl h2
  · refine .inr ⟨b, cap, cur, h3, h4, ?_, h6⟩
    rw [g.block b (lt_of_block h5)]; exact h5
theorem own_lt {w : World} {X e size n D o cap : Nat} {xs : List Value} (h : w.ownsRow X e size (.slice (some ⟨D, o, none⟩) n cap) n xs) : D < w.heap.size := by
  rcases h.2 with ⟨h2, _⟩ | ⟨b, c, cur, h3, h4, h5, h6⟩
  · cases h2
  · cases h3; exact lt_of_block h5
theorem z32_new (w : World) : Z32 ((w.alloc (.cells #[.int .u8 0, .int .u8 0, .int .u8 0, .int .u8 0, .int .u8 0, .int .u8 0, .int .u8 0, .int .u8 0, .int .u8 0, .int .u8 0, .int .u8 0, .int .u8 0, .int .u8 0, .int .u8 0, .int .u8 0, .int .u8 0, .int .u8 0, .int .u8 0, .int .u8 0, .int .u8 0, .int .u8 0, .int .u8 0, .int .u8 0, .int .u8 0, .int .u8 0, .int .u8 0, .int .u8 0, .int .u8 0, .int .u8 0, .int .u8 0, .int .u8 0, .int .u8 0] 140)).drew) w.heap.size := fun j hj => by
  have e : (#[.int .u8 0, .int .u8 0, .int .u8 0, .int .u8 0, .int .u8 0, .int .u8 0, .int .u8 0, .int .u8 0, .int .u8 0, .int .u8 0, .int .u8 0, .int .u8 0, .int .u8 0, .int .u8 0, .int .u8 0, .int .u8 0, .int .u8 0, .int .u8 0, .int .u8 0, .int .u8 0, .int .u8 0, .int .u8 0, .int .u8 0, .int .u8 0, .int .u8 0, .int .u8 0, .int .u8 0, .int .u8 0, .int .u8 0, .int .u8 0, .int .u8 0, .int .u8 0] : Array Value) = Array.replicate 32 (.int .u8 0) := rfl
  rw [e]
  refine ⟨?_, ?_⟩
  · show (w.alloc _).cell? _ = _
    rw [World.cell?_alloc_new]
    simp [hj]
  · show (w.alloc _).frozen? _ = _
    exact World.frozen?_alloc_new _ _ _ _
theorem Z32.gr {w w' : World} {b : Nat} (h : Z32 w b) (hb : b < w.heap.size) (g : Gr w w') : Z32 w' b := fun j hj => by
  rw [g.cells.1 b j hb, g.cells.2 b j hb]; exact h j hj
set_option maxRecDepth 20000 in
set_option maxHeartbeats 6400000 in
theorem lv88 (D X : Nat) (w : World) (hX : X ≤ D) (hX2 : X ≤ w.heap.size) (hT : LvF w) (hown : w.ownsRow X 5 1 (.slice (some ⟨D, 0, none⟩) 0 24) 0 []) :
    Calls Tryz.prog 88 #[.slice (some ⟨D, 0, none⟩) 0 24, .float .f64 13832806255468478464, .int .u8 103, .int .i64 (-1)] w fun e w' =>
      e = .returned (.slice (some ⟨D, 0, none⟩) 4 24) ∧ w'.ownsRow X 5 1 (.slice (some ⟨D, 0, none⟩) 4 24) 4 [.int .u8 45, .int .u8 49, .int .u8 46, .int .u8 53] ∧ Below X w w' := by
  have HX := hid' hX
  have HX2 := hid' hX2
  have HT := hid' hT
  have HO := hid' hown
  have b1 : bits .and .i64 3071 2047 = 1023 := by decide
  have b2 : bits .and .u64 13832806255468478464 4503599627370495 = 2251799813685248 := by decide
  have b3 : bits .or .u64 2251799813685248 4503599627370496 = 6755399441055744 := by decide
  clear hX hX2 hT hown
  go_enter Tryz.func88, Tryz.ntmps88
  go_upto_region 14 with (simp only [run109])
  go_region
  all_goals
    go_wp2_with (first
      | (go_at_call 113; refine (lv113a _).mono ?_; rintro e w' ⟨rfl, rfl⟩))
  have hG : Gr w ((w.alloc (.cells #[.int .u8 0, .int .u8 0, .int .u8 0, .int .u8 0, .int .u8 0, .int .u8 0, .int .u8 0, .int .u8 0, .int .u8 0, .int .u8 0, .int .u8 0, .int .u8 0, .int .u8 0, .int .u8 0, .int .u8 0, .int .u8 0, .int .u8 0, .int .u8 0, .int .u8 0, .int .u8 0, .int .u8 0, .int .u8 0, .int .u8 0, .int .u8 0, .int .u8 0, .int .u8 0, .int .u8 0, .int .u8 0, .int .u8 0, .int .u8 0, .int .u8 0, .int .u8 0] 140)).drew) := ((Gr.refl w).alloc _).drew
  have hZ := z32_new w
  have hlt : w.heap.size < ((w.alloc (.cells #[.int .u8 0, .int .u8 0, .int .u8 0, .int .u8 0, .int .u8 0, .int .u8 0, .int .u8 0, .int .u8 0, .int .u8 0, .int .u8 0, .int .u8 0, .int .u8 0, .int .u8 0, .int .u8 0, .int .u8 0, .int .u8 0, .int .u8 0, .int .u8 0, .int .u8 0, .int .u8 0, .int .u8 0, .int .u8 0, .int .u8 0, .int .u8 0, .int .u8 0, .int .u8 0, .int .u8 0, .int .u8 0, .int .u8 0, .int .u8 0, .int .u8 0, .int .u8 0] 140)).drew).heap.size := by simp
  generalize (w.alloc (.cells #[.int .u8 0, .int .u8 0, .int .u8 0, .int .u8 0, .int .u8 0, .int .u8 0, .int .u8 0, .int .u8 0, .int .u8 0, .int .u8 0, .int .u8 0, .int .u8 0, .int .u8 0, .int .u8 0, .int .u8 0, .int .u8 0, .int .u8 0, .int .u8 0, .int .u8 0, .int .u8 0, .int .u8 0, .int .u8 0, .int .u8 0, .int .u8 0, .int .u8 0, .int .u8 0, .int .u8 0, .int .u8 0, .int .u8 0, .int .u8 0, .int .u8 0, .int .u8 0] 140)).drew = W1 at *
  have T1 := HT.out.mono hG.below
  refine (lv121 W1 T1.t0 T1.t1).mono ?_
  rintro e w2 ⟨rfl, g2⟩
  replace hZ := hid' (hZ.gr hlt g2)
  replace T1 := hid' (T1.mono g2.below)
  replace hG := hid' (hG.trans g2)
  replace hlt := hid' (Nat.lt_of_lt_of_le hlt g2.size)
  clear g2
  generalize hB0 : w.heap.size = B at *
  have HB0 := hid' hB0
  clear hB0
  go_upto_region 38 with fail
  go_region_with (first
    | (go_at_call 97; refine (lv97 _ (by exact T1.out.t2)).mono ?_; rintro e w' ⟨rfl, rfl⟩)
    | (go_at_call 115; refine (lv115 _ _ (by exact hZ.out)).mono ?_; rintro e w' ⟨rfl, d0, d1, d2⟩))
  have g3 : Gr w w' := d2 w hG.out.drew (by rw [HB0.out]; exact Nat.le_refl _)
  have HD : Hid (B ≠ D) := by
    have := own_lt HO.out
    rw [HB0.out] at this
    exact Nat.ne_of_gt this
  have HO2 := hid' (own_below HO.out g3.below)
  have hx2 : X ≤ w.heap.size := by rw [HB0.out]; exact HX2.out
  have HL := hid' (g3.below.mono hx2)
  have HX3 : Hid (X ≤ w'.heap.size) := Nat.le_trans hx2 g3.size
  clear hx2
  clear d2 g3 hG hZ T1 hlt HO
  go_wp2_with (go_at_call 112; refine (lv112 B D X w' HX.out HX3.out HD.out d0 d1 HO2.out).mono ?_; rintro e w4 ⟨rfl, o4, l4⟩)
  go_ret
  exact ⟨rfl, o4, HL.out.trans l4⟩
theorem own_cell {w : World} {X e n D cap : Nat} {xs : List Value} (h : w.ownsRow X e 1 (.slice (some ⟨D, 0, none⟩) n cap) n xs) (j : Nat) (hj : j < n) : w.cell? ⟨D, j, none⟩ = xs[j]? := by
  rcases h.2 with ⟨h2, _⟩ | ⟨b, c, cur, h3, h4, h5, h6, h7, h8, h9⟩
  · cases h2
  · cases h3
    rw [← h9, List.getElem?_take_of_lt (by omega)]
    simp [World.cell?, h5]
theorem cv4 {w2 : World} {X D : Nat} (o2 : w2.ownsRow X 5 1 (.slice (some ⟨D, 0, none⟩) 4 24) 4 [.int .u8 45, .int .u8 49, .int .u8 46, .int .u8 53]) :
    (convert 82 9 (.slice (some ⟨D, 0, none⟩) 4 24)).run Tryz.prog w2 = .ok (.string ⟨#[45, 49, 46, 53]⟩) w2 :=
  run_convert_bytes_back (P := Tryz.prog) w2 82 9 5 ⟨D, 0, none⟩ 24 [45, 49, 46, 53] (by kernel_rfl) (by kernel_rfl) (by kernel_rfl) (fun j hj => by
    rw [Lib.add_plain, Nat.zero_add, own_cell o2 j (by simpa using hj)]
    have hj' : j < 4 := by simpa using hj
    match j, hj' with
    | 0, _ => rfl
    | 1, _ => rfl
    | 2, _ => rfl
    | 3, _ => rfl)
theorem own_new (w : World) : (w.alloc (.cells #[.int .u8 0, .int .u8 0, .int .u8 0, .int .u8 0, .int .u8 0, .int .u8 0, .int .u8 0, .int .u8 0, .int .u8 0, .int .u8 0, .int .u8 0, .int .u8 0, .int .u8 0, .int .u8 0, .int .u8 0, .int .u8 0, .int .u8 0, .int .u8 0, .int .u8 0, .int .u8 0, .int .u8 0, .int .u8 0, .int .u8 0, .int .u8 0] 5)).ownsRow w.heap.size 5 1 (.slice (some ⟨w.heap.size, 0, none⟩) 0 24) 0 [] :=
  ⟨rfl, .inr ⟨w.heap.size, 24, _, rfl, Nat.le_refl _, heap_alloc_new w _, by omega, by unfold maxLen; omega, rfl, rfl⟩⟩
set_option maxRecDepth 20000 in
set_option maxHeartbeats 3200000 in
theorem lv68 (w : World) (hT : LvF w) :
    Calls Tryz.prog 68 #[.float .f64 13832806255468478464, .int .u8 103, .int .i64 (-1), .int .i64 64] w fun e w' => e = .returned (.string ⟨#[45, 49, 46, 53]⟩) ∧ Below w.heap.size w w' := by
  have m0 : (max 3 24 : Int) = 24 := by decide
  have m1 : ∀ w : World, (Instr.makeSlice 82 (.int .i64 0) (.int .i64 24)).run Tryz.prog w = .ok (.slice (some ⟨w.heap.size, 0, none⟩) 0 24) (w.alloc (.cells #[.int .u8 0, .int .u8 0, .int .u8 0, .int .u8 0, .int .u8 0, .int .u8 0, .int .u8 0, .int .u8 0, .int .u8 0, .int .u8 0, .int .u8 0, .int .u8 0, .int .u8 0, .int .u8 0, .int .u8 0, .int .u8 0, .int .u8 0, .int .u8 0, .int .u8 0, .int .u8 0, .int .u8 0, .int .u8 0, .int .u8 0, .int .u8 0] 5)) := fun w => by kernel_rfl
  have HO := hid' (own_new w)
  have hG := ((Gr.refl w).alloc (.cells #[.int .u8 0, .int .u8 0, .int .u8 0, .int .u8 0, .int .u8 0, .int .u8 0, .int .u8 0, .int .u8 0, .int .u8 0, .int .u8 0, .int .u8 0, .int .u8 0, .int .u8 0, .int .u8 0, .int .u8 0, .int .u8 0, .int .u8 0, .int .u8 0, .int .u8 0, .int .u8 0, .int .u8 0, .int .u8 0, .int .u8 0, .int .u8 0] 5)).below
  have hs : w.heap.size ≤ (w.alloc (.cells #[.int .u8 0, .int .u8 0, .int .u8 0, .int .u8 0, .int .u8 0, .int .u8 0, .int .u8 0, .int .u8 0, .int .u8 0, .int .u8 0, .int .u8 0, .int .u8 0, .int .u8 0, .int .u8 0, .int .u8 0, .int .u8 0, .int .u8 0, .int .u8 0, .int .u8 0, .int .u8 0, .int .u8 0, .int .u8 0, .int .u8 0, .int .u8 0] 5)).heap.size := by simp
  have HT := hid' (hT.mono hG)
  have HG := hid' hG
  have HS := hid' hs
  clear hG hs hT
  go_enter Tryz.func68, Tryz.ntmps68
  go_wp2_with (go_at_call 88; refine (lv88 _ w.heap.size _ (Nat.le_refl _) HS.out HT.out HO.out).mono ?_; rintro e w2 ⟨rfl, o2, l2⟩; have hcv := cv4 o2; clear o2)
  go_ret
  exact ⟨rfl, HG.out.trans l2⟩
set_option maxRecDepth 20000 in
set_option maxHeartbeats 1600000 in
theorem lv56 (w : World) (hT : LvF w) :
    Calls Tryz.prog 56 #[.float .f64 13832806255468478464, .int .u8 103, .int .i64 (-1), .int .i64 64] w fun e w' => e = .returned (.string ⟨#[45, 49, 46, 53]⟩) ∧ Below w.heap.size w w' := by
  have HT := hid' hT
  clear hT
  go_enter Tryz.func56, Tryz.ntmps56
  go_wp2_with (go_at_call 68; refine (lv68 _ HT.out).mono ?_; rintro e w2 ⟨rfl, l2⟩)
  go_ret
  exact ⟨rfl, l2⟩
theorem lv43 (w : World) : Calls Tryz.prog 43 #[.float .f64 13832806255468478464] w fun e w' => e = .returned (.bool false) ∧ w' = w :=
  calls_run 60 Tryz.func43 (fun cs => by kernel_rfl) (fun cs => by kernel_rfl)
theorem lv55a (w : World) : Calls Tryz.prog 55 #[.float .f64 13832806255468478464, .int .i64 1] w fun e w' => e = .returned (.bool false) ∧ w' = w :=
  calls_run 100 Tryz.func55 (fun cs => by kernel_rfl) (fun cs => by kernel_rfl)
theorem lv55b (w : World) : Calls Tryz.prog 55 #[.float .f64 13832806255468478464, .int .i64 (-1)] w fun e w' => e = .returned (.bool false) ∧ w' = w :=
  calls_run 100 Tryz.func55 (fun cs => by kernel_rfl) (fun cs => by kernel_rfl)
set_option maxRecDepth 20000 in
set_option maxHeartbeats 1600000 in
theorem lv36 (w : World) (hT : LvF w) :
    Calls Tryz.prog 36 #[.float .f64 13832806255468478464] w fun e w' => e = .returned (.string ⟨#[45, 49, 46, 53]⟩) ∧ Below w.heap.size w w' := by
  have HT := hid' hT
  clear hT
  go_enter Tryz.func36, Tryz.ntmps36
  go_upto_region 5 with (first
    | (go_at_call 43; refine (lv43 _).mono ?_; rintro e w' ⟨rfl, rfl⟩)
    | (go_at_call 55; refine (lv55a _).mono ?_; rintro e w' ⟨rfl, rfl⟩))
  go_wp2_with (first
    | (go_at_call 55; refine (lv55b _).mono ?_; rintro e w' ⟨rfl, rfl⟩)
    | (go_at_call 56; refine (lv56 _ HT.out).mono ?_; rintro e w2 ⟨rfl, l2⟩))
  go_ret
  exact ⟨rfl, l2⟩
end Go.Proofs.YtmkechhjgdanmaaGreatDoor
