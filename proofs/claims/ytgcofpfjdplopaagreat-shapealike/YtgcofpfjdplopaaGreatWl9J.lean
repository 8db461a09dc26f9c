/- The closed call of every law, from within: points, distances, what is near. The closed call of every law: a disc has its centre, and no point beyond its radius. -/
import Derived.Test.YtgcofpfjdplopaaGreatRm9
namespace Go.Proofs.YtgcofpfjdplopaaGreat
section
set_option linter.unusedSimpArgs false
open Go.RowKit Go.Sort

set_option maxRecDepth 20000 in
set_option maxHeartbeats 2000000 in
theorem lat_true {x : Int} (h : x = 1 ∨ x = 3 ∨ x = 4) (w : World) : Calls Tryz.prog 116 #[.int .i32 x] w fun e w' => e = .returned (.bool true) ∧ w' = w := by
  rcases h with rfl | rfl | rfl
  all_goals
    go_enter Tryz.func116, Tryz.ntmps116
    go_wp2
    go_ret
    exact ⟨rfl, rfl⟩
set_option maxRecDepth 20000 in
set_option maxHeartbeats 2000000 in
theorem in_true {x y : Int} (hx : x = 1 ∨ x = 3 ∨ x = 4) (hy : y = 1 ∨ y = 3 ∨ y = 4) (w : World) : Calls Tryz.prog 80 #[pt x y] w fun e w' => e = .returned (.bool true) ∧ Gr w w' := by
  have L1 := fun w => hid' (lat_true hx w)
  have L2 := fun w => hid' (lat_true hy w)
  clear hx hy
  go_enter Tryz.func80, Tryz.ntmps80
  go_wp2_with (first
    | (go_at_call_of 116 x; refine (L1 _).out.mono ?_; rintro e w' ⟨rfl, rfl⟩)
    | (go_at_call 116; refine (L2 _).out.mono ?_; rintro e w' ⟨rfl, rfl⟩))
  go_ret
  exact ⟨rfl, (Gr.refl _).alloc _⟩
set_option maxRecDepth 20000 in
set_option maxHeartbeats 2000000 in
theorem way_c {x y : Int} (hx : x = 1 ∨ x = 3 ∨ x = 4) (hy : y = 1 ∨ y = 3 ∨ y = 4) (w : World) : Calls Tryz.prog 149 #[pt x 1, pt y 1] w fun e w' => e = .returned (.tuple #[.int .i64 (y - x), .int .i64 0]) ∧ Gr w w' := by
  rcases hx with rfl | rfl | rfl <;> rcases hy with rfl | rfl | rfl
  all_goals
    go_enter Tryz.func149, Tryz.ntmps149
    go_wp2
    go_region
    go_wp2
    first | go_ret2 | go_ret
    exact ⟨rfl, (((Gr.refl _).alloc _).alloc _).drew⟩
theorem w64 {n : Int} (h : -9223372036854775808 ≤ n) (k : n ≤ 9223372036854775807) : wrap64 n = n := by unfold wrap64; omega
abbrev P (x y : Int) : Array Value := #[.int .i32 x, .int .i32 y]
theorem three_new (w : World) (A B C : Array Value) :
    Bl (((w.alloc (.cells A 28)).alloc (.cells B 28)).alloc (.cells C 28)) w.heap.size 28 A ∧ Bl (((w.alloc (.cells A 28)).alloc (.cells B 28)).alloc (.cells C 28)) (w.heap.size + 1) 28 B ∧ Bl (((w.alloc (.cells A 28)).alloc (.cells B 28)).alloc (.cells C 28)) (w.heap.size + 1 + 1) 28 C ∧ Gr w (((w.alloc (.cells A 28)).alloc (.cells B 28)).alloc (.cells C 28)) := by
  refine ⟨((Bl.new w 28 A).alloc _).alloc _, ?_, ?_, (((Gr.refl w).alloc _).alloc _).alloc _⟩
  · have := (Bl.new (w.alloc (.cells A 28)) 28 B).alloc (.cells C 28)
    simpa using this
  · have := Bl.new ((w.alloc (.cells A 28)).alloc (.cells B 28)) 28 C
    simpa using this
set_option maxRecDepth 20000 in
set_option maxHeartbeats 4000000 in
/-- A dot product whose two ways are told. -/
theorem dot_w {x y z p q d : Int} (hw1 : ∀ w, Calls Tryz.prog 149 #[pt x 1, pt y 1] w fun e w' => e = .returned (.tuple #[.int .i64 p, .int .i64 0]) ∧ Gr w w') (hw2 : ∀ w, Calls Tryz.prog 149 #[pt x 1, pt z 1] w fun e w' => e = .returned (.tuple #[.int .i64 q, .int .i64 0]) ∧ Gr w w')
    (e1 : wrap64 (p * q) = d) (e2 : wrap64 d = d) (w : World) : Calls Tryz.prog 152 #[pt x 1, pt y 1, pt z 1] w fun e w' => e = .returned (.int .i64 d) ∧ Gr w w' := by
  obtain ⟨k1, k2, k3, g⟩ := three_new w (P x 1) (P y 1) (P z 1)
  replace hw1 := fun w => hid' (hw1 w)
  replace hw2 := fun w => hid' (hw2 w)
  go_enter Tryz.func152, Tryz.ntmps152
  go_upto_region 2 with (go_at_call 149; refine (hw1 _).out.mono ?_; rintro e w1 ⟨rfl, g1⟩)
  obtain ⟨a0, a1, _, _⟩ := (k1.gr g1).two
  obtain ⟨b0, b1, _, _⟩ := (k3.gr g1).two
  go_wp2_with (go_at_call 149; refine (hw2 _).out.mono ?_; rintro e w2 ⟨rfl, g2⟩)
  go_ret
  exact ⟨by show Ending.returned (.int .i64 (wrap64 d)) = _; rw [e2], (g.trans g1).trans g2⟩

abbrev t134 (x : Int) : Prop := x = 1 ∨ x = 3 ∨ x = 4
theorem dist_c {x y d : Int} (hx : t134 x) (hy : t134 y) (e1 : wrap64 ((y - x) * (y - x)) = d) (e2 : wrap64 d = d) (w : World) : Calls Tryz.prog 153 #[pt x 1, pt y 1] w fun e w' => e = .returned (.int .i64 d) ∧ Gr w w' := by
  have D := fun w => hid' (dot_w (way_c hx hy) (way_c hx hy) e1 e2 w)
  clear hx hy e1 e2
  go_enter Tryz.func153, Tryz.ntmps153
  go_wp2_with (go_at_call 152; refine (D _).out.mono ?_; rintro e w1 ⟨rfl, g1⟩)
  go_ret
  exact ⟨rfl, (((Gr.refl _).alloc _).alloc _).trans g1⟩
set_option maxRecDepth 20000 in
set_option maxHeartbeats 4000000 in
theorem near_c {x d : Int} {r : Bool} (hx : t134 x) (e1 : wrap64 ((x - 1) * (x - 1)) = d) (e2 : wrap64 d = d) (hr : decide (d ≤ 4) = r) (w : World) : Calls Tryz.prog 198 #[pt 1 1, pt x 1, pt x 1, .int .i64 2] w fun e w' => e = .returned (.bool r) ∧ Gr w w' := by
  obtain ⟨k1, k2, k3, g⟩ := three_new w (P 1 1) (P x 1) (P x 1)
  have z0 : wrap64 ((x - x) * (1 - x)) = 0 := by rw [Int.sub_self, Int.zero_mul]; exact w64 (by decide) (by decide)
  have z1 : wrap64 ((x - x) * (x - x)) = 0 := by rw [Int.sub_self, Int.zero_mul]; exact w64 (by decide) (by decide)
  have D1 := fun w => hid' (dot_w (x := x) (y := x) (z := 1) (way_c hx hx) (way_c hx (.inl rfl)) z0 (w64 (by decide) (by decide)) w)
  have D2 := fun w => hid' (dist_c (x := x) (y := x) hx hx z1 (w64 (by decide) (by decide)) w)
  have D3 := fun w => hid' (dist_c (x := 1) (y := x) (.inl rfl) hx e1 e2 w)
  clear hx e1 e2 z0 z1
  go_enter Tryz.func198, Tryz.ntmps198
  go_upto_region 3 with fail
  generalize ((w.alloc (.cells #[.int .i32 1, .int .i32 1] 28)).alloc (.cells #[.int .i32 x, .int .i32 1] 28)).alloc (.cells #[.int .i32 x, .int .i32 1] 28) = W at *
  obtain ⟨a0, a1⟩ : (∀ w', Gr W w' → w'.cell? ⟨w.heap.size, 0, none⟩ = some (.int .i32 1)) ∧ (∀ w', Gr W w' → w'.cell? ⟨w.heap.size, 1, none⟩ = some (.int .i32 1)) := ⟨fun w' h => (k1.gr h).two.1, fun w' h => (k1.gr h).two.2.1⟩
  obtain ⟨b0, b1⟩ : (∀ w', Gr W w' → w'.cell? ⟨w.heap.size + 1, 0, none⟩ = some (.int .i32 x)) ∧ (∀ w', Gr W w' → w'.cell? ⟨w.heap.size + 1, 1, none⟩ = some (.int .i32 1)) := ⟨fun w' h => (k2.gr h).two.1, fun w' h => (k2.gr h).two.2.1⟩
  obtain ⟨c0, c1⟩ : (∀ w', Gr W w' → w'.cell? ⟨w.heap.size + 1 + 1, 0, none⟩ = some (.int .i32 x)) ∧ (∀ w', Gr W w' → w'.cell? ⟨w.heap.size + 1 + 1, 1, none⟩ = some (.int .i32 1)) := ⟨fun w' h => (k3.gr h).two.1, fun w' h => (k3.gr h).two.2.1⟩
  go_region_held3 (Gr W)
    (first
      | exact (Gr.refl _).drew
      | exact Gr.trans (by assumption) (by assumption))
    (first
      | (go_at_call 152; refine (D1 _).out.mono ?_; rintro e w1 ⟨rfl, g1⟩)
      | (go_at_call 153; refine (D2 _).out.mono ?_; rintro e w2 ⟨rfl, g2⟩))
  all_goals
    rename_i hH
    have a0' := a0 _ hH
    have a1' := a1 _ hH
    have b0' := b0 _ hH
    have b1' := b1 _ hH
    clear a0 a1 b0 b1 c0 c1
    go_wp2_with (go_at_call 153; refine (D3 _).out.mono ?_; rintro e w3 ⟨rfl, g3⟩)
    go_ret
    exact ⟨by rw [← hr]; rfl, (g.trans hH).trans g3⟩
set_option maxRecDepth 20000 in
set_option maxHeartbeats 4000000 in
/-- A list of points that are all of the lattice. -/
theorem ofl_true (ao : Option Addr) (cp : Nat) (l : List (Int × Int)) (hl : l.length ≤ 1000) (ht : ∀ i, i < l.length → t134 (l.getD i (0, 0)).1 ∧ t134 (l.getD i (0, 0)).2) (w : World) (hP : Pts w ao l) :
    Calls Tryz.prog 134 #[.slice ao l.length cp] w fun e w' => e = .returned (.bool true) ∧ Gr w w' := by
  have HP := hid' hP
  have HT := hid' ht
  have si := run_store_i .i32
  clear hP ht
  go_enter Tryz.func134, Tryz.ntmps134
  go_wp2
  go_loopw [7] (fun i wr => ∃ k : Nat, k ≤ l.length ∧ i = .int .i64 k ∧ Gr w wr) (fun i _ => l.length - (intOf i).toNat)
  case atStart => exact ⟨0, by omega, rfl, Gr.refl _⟩
  case round =>
    obtain ⟨k, hk, rfl, hG⟩ := hrel
    by_cases hlt : k < l.length
    · obtain ⟨b, off, rfl, p0, p1⟩ := HP.out k hlt
      replace p0 := below_cell p0 hG.below
      replace p1 := below_cell p1 hG.below
      obtain ⟨t1, t2⟩ := HT.out k hlt
      have IN := fun w => hid' (in_true t1 t2 w)
      clear t1 t2
      generalize (l.getD k (0, 0)).1 = X at *
      generalize (l.getD k (0, 0)).2 = Y at *
      go_wp2_with (go_at_call 80; refine (IN _).out.mono ?_; rintro e w1 ⟨rfl, g1⟩)
      go_roundw
      case rel => exact ⟨k + 1, by omega, by go_num, (hG.alloc _).trans g1⟩
      case measure => simp [intOf]; omega
    · obtain rfl : k = l.length := by omega
      go_wp2
      go_ret
      exact ⟨rfl, hG⟩
end
section
set_option linter.unusedSimpArgs false
open Go.RowKit Go.Sort

theorem three_pts (w : World) (x : Int) : Pts (w.alloc (.cells #[.int .i32 1, .int .i32 1, .int .i32 x, .int .i32 1, .int .i32 x, .int .i32 1] 28)) (some ⟨w.heap.size, 0, none⟩) [(1, 1), (x, 1), (x, 1)] := fun i hi => by
  have k := Bl.new w 28 #[.int .i32 1, .int .i32 1, .int .i32 x, .int .i32 1, .int .i32 x, .int .i32 1]
  refine ⟨w.heap.size, 0, rfl, ?_, ?_⟩
  · match i, hi with
    | 0, _ => exact k.cell rfl
    | 1, _ => exact k.cell rfl
    | 2, _ => exact k.cell rfl
  · match i, hi with
    | 0, _ => exact k.cell rfl
    | 1, _ => exact k.cell rfl
    | 2, _ => exact k.cell rfl
set_option maxRecDepth 20000 in
set_option maxHeartbeats 4000000 in
theorem near197 {x : Int} {r : Bool} (hx : t134 x) (hn : ∀ w, Calls Tryz.prog 198 #[pt 1 1, pt x 1, pt x 1, .int .i64 2] w fun e w' => e = .returned (.bool r) ∧ Gr w w') (w : World) : Calls Tryz.prog 197 #[pt 1 1, pt x 1, pt x 1, .int .i64 2] w fun e w' => e = .returned (.bool r) ∧ Gr w w' := by
  obtain ⟨k1, k2, k3, g⟩ := three_new w (P 1 1) (P x 1) (P x 1)
  have N1 := fun w => hid' (hn w)
  have hO := ofl_true (some ⟨(((w.alloc (.cells (P 1 1) 28)).alloc (.cells (P x 1) 28)).alloc (.cells (P x 1) 28)).heap.size, 0, none⟩) 3 [(1, 1), (x, 1), (x, 1)] (by simp) (fun i hi => by
    match i, hi with
    | 0, _ => exact ⟨.inl rfl, .inl rfl⟩
    | 1, _ => exact ⟨hx, .inl rfl⟩
    | 2, _ => exact ⟨hx, .inl rfl⟩) _ (three_pts (((w.alloc (.cells (P 1 1) 28)).alloc (.cells (P x 1) 28)).alloc (.cells (P x 1) 28)) x)
  clear hn hx
  replace hO := hid' hO
  go_enter Tryz.func197, Tryz.ntmps197
  go_upto_region 1 with fail
  generalize ((w.alloc (.cells #[.int .i32 1, .int .i32 1] 28)).alloc (.cells #[.int .i32 x, .int .i32 1] 28)).alloc (.cells #[.int .i32 x, .int .i32 1] 28) = W at *
  obtain ⟨a0, a1, _, _⟩ := k1.two
  obtain ⟨b0, b1, _, _⟩ := k2.two
  obtain ⟨c0, c1, _, _⟩ := k3.two
  go_wp2_with (first
    | (go_at_call 134; refine hO.out.mono ?_; rintro e w1 ⟨rfl, g1⟩; have G1 : Gr W w1 := ((Gr.refl W).alloc _).trans g1; obtain ⟨a0, a1, _, _⟩ := (k1.gr G1).two; obtain ⟨b0, b1, _, _⟩ := (k2.gr G1).two; obtain ⟨c0, c1, _, _⟩ := (k3.gr G1).two)
    | (go_at_call 198; refine (N1 _).out.mono ?_; rintro e w2 ⟨rfl, g2⟩))
  go_ret
  exact ⟨rfl, (g.trans G1).trans g2⟩
abbrev dC : Array Value := #[.int .i32 1, .int .i32 1, .int .i32 2]
theorem Bl.three_gr {w : World} {b t : Nat} {x y z : Value} (h : Bl w b t #[x, y, z]) : (∀ w', Gr w w' → w'.cell? ⟨b, 0, none⟩ = some x) ∧ (∀ w', Gr w w' → w'.cell? ⟨b, 1, none⟩ = some y) ∧ (∀ w', Gr w w' → w'.cell? ⟨b, 2, none⟩ = some z) :=
  ⟨fun _ g => (h.gr g).cell rfl, fun _ g => (h.gr g).cell rfl, fun _ g => (h.gr g).cell rfl⟩
theorem Bl.two_gr {w : World} {b t : Nat} {x y : Value} (h : Bl w b t #[x, y]) : (∀ w', Gr w w' → w'.cell? ⟨b, 0, none⟩ = some x) ∧ (∀ w', Gr w w' → w'.cell? ⟨b, 1, none⟩ = some y) :=
  ⟨fun _ g => (h.gr g).cell rfl, fun _ g => (h.gr g).cell rfl⟩
set_option maxRecDepth 20000 in
set_option maxHeartbeats 4000000 in
theorem meets_c {x : Int} {r : Bool} (D : Nat) (hn : ∀ w, Calls Tryz.prog 197 #[pt 1 1, pt x 1, pt x 1, .int .i64 2] w fun e w' => e = .returned (.bool r) ∧ Gr w w') (w : World) (hD : Bl w D 128 dC) : Calls Tryz.prog 195 #[.pointer (some ⟨D, 0, none⟩), pt x 1, pt x 1] w fun e w' => e = .returned (.bool r) ∧ Gr w w' := by
  obtain ⟨k1, k2, g⟩ := two_new w 28 28 (P x 1) (P x 1)
  have kD := hD.gr g
  have N1 := fun w => hid' (hn w)
  clear hn hD
  go_enter Tryz.func195, Tryz.ntmps195
  go_upto_region 1 with fail
  generalize (w.alloc (.cells #[.int .i32 x, .int .i32 1] 28)).alloc (.cells #[.int .i32 x, .int .i32 1] 28) = W at *
  obtain ⟨a0, a1⟩ := k1.two_gr
  obtain ⟨b0, b1⟩ := k2.two_gr
  obtain ⟨d0, d1, d2⟩ := kD.three_gr
  go_region_held3 (Gr W)
    (first
      | exact (Gr.refl _).drew
      | exact Gr.trans (by assumption) (by assumption))
    (first
      | (go_at_call 197; refine (N1 _).out.mono ?_; rintro e w1 ⟨rfl, g1⟩))
  rename_i hH
  go_wp2
  go_ret
  exact ⟨rfl, g.trans hH⟩
set_option maxRecDepth 20000 in
set_option maxHeartbeats 4000000 in
theorem covers_c {x : Int} {r : Bool} (D : Nat) (hn : ∀ w, Calls Tryz.prog 197 #[pt 1 1, pt x 1, pt x 1, .int .i64 2] w fun e w' => e = .returned (.bool r) ∧ Gr w w') (w : World) (hD : Bl w D 128 dC) : Calls Tryz.prog 194 #[.pointer (some ⟨D, 0, none⟩), pt x 1] w fun e w' => e = .returned (.bool r) ∧ Gr w w' := by
  have M := hid' (meets_c D hn (w.alloc (.cells (P x 1) 28)) (hD.alloc _))
  clear hn hD
  go_enter Tryz.func194, Tryz.ntmps194
  go_wp2_with (go_at_call 195; refine M.out.mono ?_; rintro e w1 ⟨rfl, g1⟩)
  go_ret
  exact ⟨rfl, ((Gr.refl _).alloc _).trans g1⟩
end
end Go.Proofs.YtgcofpfjdplopaaGreat
