/- The library finds the shortest digits of 1.5: walked once, for every world. -/
import Derived.Test.YtmkechhjgdanmaaGreatDoorBase
import Derived.Test.YtmkechhjgdanmaaGreatDoorKRun
import Derived.KernelRfl
namespace Go.Proofs.YtmkechhjgdanmaaGreatDoor
open Go.RowKit Go.Sort

theorem lv116 (w : World) : Calls Tryz.prog 116 #[.int .i64 (-52)] w fun e w' => e = .returned (.int .i64 (-16)) ∧ w' = w :=
  calls_run 60 Tryz.func116 (fun cs => by kernel_rfl) (fun cs => by kernel_rfl)
theorem lv152 (w : World) : Calls Tryz.prog 152 #[.int .i64 16] w fun e w' => e = .returned (.int .i64 53) ∧ w' = w :=
  calls_run 60 Tryz.func152 (fun cs => by kernel_rfl) (fun cs => by kernel_rfl)
theorem lv92a (w : World) : Calls Tryz.prog 92 #[.int .u64 13835058055282162688, .int .u64 10240000000000000000] w fun e w' => e = .returned (.tuple #[.int .u64 7679999999999999431, .int .u64 10437377940734869504]) ∧ w' = w :=
  calls_run 200 Tryz.func92 (fun cs => by kernel_rfl) (fun cs => by kernel_rfl)
theorem lv92b (w : World) : Calls Tryz.prog 92 #[.int .u64 13835058055282164736, .int .u64 10240000000000000000] w fun e w' => e = .returned (.tuple #[.int .u64 7680000000000000568, .int .u64 8009366132974682112]) ∧ w' = w :=
  calls_run 200 Tryz.func92 (fun cs => by kernel_rfl) (fun cs => by kernel_rfl)
set_option maxRecDepth 20000 in
set_option maxHeartbeats 1600000 in
theorem lv153a (B : Nat) (w : World) (c0 : w.cell? ⟨B, 0, none⟩ = some (.int .u64 10240000000000000000)) (c2 : w.cell? ⟨B, 2, none⟩ = some (.int .i64 7)) :
    Calls Tryz.prog 153 #[.int .u64 13835058055282162688, .pointer (some ⟨B, 0, none⟩)] w fun e w' => e = .returned (.int .u64 59999999999999995) ∧ w' = w := by
  have b1 : bits .and .i64 7 63 = 7 := by decide
  have b2 : bits .or .u64 59999999999999995 1 = 59999999999999995 := by decide
  go_enter Tryz.func153, Tryz.ntmps153
  go_wp2_with (go_at_call 92; refine (lv92a _).mono ?_; rintro e w' ⟨rfl, rfl⟩)
  go_ret
  exact ⟨rfl, rfl⟩
set_option maxRecDepth 20000 in
set_option maxHeartbeats 1600000 in
theorem lv153b (B : Nat) (w : World) (c0 : w.cell? ⟨B, 0, none⟩ = some (.int .u64 10240000000000000000)) (c2 : w.cell? ⟨B, 2, none⟩ = some (.int .i64 7)) :
    Calls Tryz.prog 153 #[.int .u64 13835058055282164736, .pointer (some ⟨B, 0, none⟩)] w fun e w' => e = .returned (.int .u64 60000000000000005) ∧ w' = w := by
  have b1 : bits .and .i64 7 63 = 7 := by decide
  have b2 : bits .or .u64 60000000000000004 1 = 60000000000000005 := by decide
  go_enter Tryz.func153, Tryz.ntmps153
  go_wp2_with (go_at_call 92; refine (lv92b _).mono ?_; rintro e w' ⟨rfl, rfl⟩)
  go_ret
  exact ⟨rfl, rfl⟩
theorem lv154a (w : World) : Calls Tryz.prog 154 #[.int .u64 59999999999999995, .int .i64 0] w fun e w' => e = .returned (.int .u64 59999999999999995) ∧ w' = w :=
  calls_run 60 Tryz.func154 (fun cs => by kernel_rfl) (fun cs => by kernel_rfl)
theorem lv154b (w : World) : Calls Tryz.prog 154 #[.int .u64 60000000000000005, .int .i64 0] w fun e w' => e = .returned (.int .u64 60000000000000005) ∧ w' = w :=
  calls_run 60 Tryz.func154 (fun cs => by kernel_rfl) (fun cs => by kernel_rfl)
theorem lv155 (w : World) : Calls Tryz.prog 155 #[.int .u64 59999999999999995] w fun e w' => e = .returned (.int .u64 14999999999999999) ∧ w' = w :=
  calls_run 60 Tryz.func155 (fun cs => by kernel_rfl) (fun cs => by kernel_rfl)
theorem lv156 (w : World) : Calls Tryz.prog 156 #[.int .u64 60000000000000005] w fun e w' => e = .returned (.int .u64 15000000000000001) ∧ w' = w :=
  calls_run 60 Tryz.func156 (fun cs => by kernel_rfl) (fun cs => by kernel_rfl)
/-- A block of three cells. -/
def B3 (w : World) (b : Nat) (x y z : Value) : Prop := w.heap[b]? = some (.cells #[x, y, z] 187 (0, 0))
theorem B3.c0 {w : World} {b : Nat} {x y z : Value} (h : B3 w b x y z) : w.cell? ⟨b, 0, none⟩ = some x := by unfold B3 at h; simp [World.cell?, h]
theorem B3.c1 {w : World} {b : Nat} {x y z : Value} (h : B3 w b x y z) : w.cell? ⟨b, 1, none⟩ = some y := by unfold B3 at h; simp [World.cell?, h]
theorem B3.c2 {w : World} {b : Nat} {x y z : Value} (h : B3 w b x y z) : w.cell? ⟨b, 2, none⟩ = some z := by unfold B3 at h; simp [World.cell?, h]
theorem B3.f (o : Nat) {w : World} {b : Nat} {x y z : Value} (h : B3 w b x y z) : w.frozen? ⟨b, o, none⟩ = false := by unfold B3 at h; simp [World.frozen?, h]
set_option maxRecDepth 20000 in
set_option maxHeartbeats 1600000 in
theorem lv151 (B : Nat) (w : World) (x y z : Value) (hB : B3 w B x y z) (hn : B ≠ 11) (t0 : w.cell? ⟨11, 728, none⟩ = some (.int .u64 10240000000000000000)) (t1 : w.cell? ⟨11, 729, none⟩ = some (.int .u64 0)) :
    Calls Tryz.prog 151 #[.pointer (some ⟨B, 0, none⟩), .int .i64 (-63), .int .i64 16, .int .i64 53] w fun e w' => e = .returned (.tuple #[]) ∧ w' = ((w.setCell ⟨B, 0, none⟩ (.int .u64 10240000000000000000)).setCell ⟨B, 1, none⟩ (.int .u64 0)).setCell ⟨B, 2, none⟩ (.int .i64 7) := by
  have c0 := hB.c0
  have c1 := hB.c1
  have c2 := hB.c2
  have f0 := hB.f 0
  have f1 := hB.f 1
  have f2 := hB.f 2
  have hn' : (11 : Nat) ≠ B := Ne.symm hn
  clear hB
  go_enter Tryz.func151, Tryz.ntmps151
  go_wp2
  go_returns
  exact ⟨rfl, rfl⟩
theorem B3.new (w : World) (x y z : Value) : B3 (w.alloc (.cells #[x, y, z] 187)) w.heap.size x y z := heap_alloc_new w _
set_option maxRecDepth 20000 in
set_option maxHeartbeats 3200000 in
theorem lv121 (w : World) (t0 : w.cell? ⟨11, 728, none⟩ = some (.int .u64 10240000000000000000)) (t1 : w.cell? ⟨11, 729, none⟩ = some (.int .u64 0)) :
    Calls Tryz.prog 121 #[.int .u64 13835058055282163712, .int .i64 (-63)] w fun e w' => e = .returned (.tuple #[.int .u64 1500000000000000, .int .i64 (-15)]) ∧ Gr w w' := by
  have hlt : 11 < w.heap.size := World.block_lt_of_cell? w _ t0
  have b1 : bits .and .i64 6755399441055744 1 = 0 := by decide
  have HB : Hid (B3 (w.alloc (.cells #[.int .u64 0, .int .u64 0, .int .i64 0] 187)) w.heap.size (.int .u64 0) (.int .u64 0) (.int .i64 0)) := B3.new w _ _ _
  have T0 : Hid ((w.alloc (.cells #[.int .u64 0, .int .u64 0, .int .i64 0] 187)).cell? ⟨11, 728, none⟩ = some (.int .u64 10240000000000000000)) := by
    show (w.alloc _).cell? _ = _
    rw [World.cell?_alloc_old _ _ _ (Nat.ne_of_lt hlt)]; exact t0
  have T1 : Hid ((w.alloc (.cells #[.int .u64 0, .int .u64 0, .int .i64 0] 187)).cell? ⟨11, 729, none⟩ = some (.int .u64 0)) := by
    show (w.alloc _).cell? _ = _
    rw [World.cell?_alloc_old _ _ _ (Nat.ne_of_lt hlt)]; exact t1
  have HC : Hid (B3 (w.alloc (.cells #[.int .u64 10240000000000000000, .int .u64 0, .int .i64 7] 187)) w.heap.size (.int .u64 10240000000000000000) (.int .u64 0) (.int .i64 7)) := B3.new w _ _ _
  go_enter Tryz.func121, Tryz.ntmps121
  go_upto_region 30 with (first
    | (go_at_call 116; refine (lv116 _).mono ?_; rintro e w' ⟨rfl, rfl⟩)
    | (go_at_call 152; refine (lv152 _).mono ?_; rintro e w' ⟨rfl, rfl⟩)
    | (go_at_call 151; refine (lv151 _ _ _ _ _ HB.out (by omega) T0.out T1.out).mono ?_; rintro e w' ⟨rfl, rfl⟩)
    | (go_at_call 153; refine (lv153a _ _ HC.out.c0 HC.out.c2).mono ?_; rintro e w' ⟨rfl, rfl⟩)
    | (go_at_call 154; refine (lv154a _).mono ?_; rintro e w' ⟨rfl, rfl⟩)
    | (go_at_call 155; refine (lv155 _).mono ?_; rintro e w' ⟨rfl, rfl⟩))
  go_wp2_with (first
    | (go_at_call 153; refine (lv153b _ _ HC.out.c0 HC.out.c2).mono ?_; rintro e w' ⟨rfl, rfl⟩)
    | (go_at_call 154; refine (lv154b _).mono ?_; rintro e w' ⟨rfl, rfl⟩)
    | (go_at_call 156; refine (lv156 _).mono ?_; rintro e w' ⟨rfl, rfl⟩))
  go_ret2
  refine ⟨rfl, ?_⟩
  exact (Gr.refl _).alloc _
end Go.Proofs.YtmkechhjgdanmaaGreatDoor
