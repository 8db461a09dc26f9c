/- The law WideAdds, walked: for any two numbers of 128 bits the call returns true, and the memory that was there is as it was. -/
import Derived.Test.YtgpkigofbncamaaLaw
namespace Go.Proofs.Ytgpkigofbncamaa
open Go.RowKit Go.Sort

theorem pair_in {m : Int} (hm : inI m) : hiI m * 18446744073709551616 + loI m = m := by unfold inI hiI loI at *; omega
theorem num_in (m : Int) (hm : inI m) (w : World) :
    Calls Try.prog 9 #[.agg #[.int .i64 (hiI m), .int .u64 (loI m)]] w fun e w' => ∃ z, e = .returned z ∧ Nm w' z m ∧ Below w.heap.size w w' := by
  have h := num_any (hiI m) (loI m) w (hiI_bd m).1 (hiI_bd m).2 (loI_bd m).1 (loI_bd m).2
  rw [pair_in hm] at h
  exact h
theorem small_in {n : Int} (h : -680564733841876926926749214863536422912 ≤ n) (h' : n ≤ 680564733841876926926749214863536422912) : -p2 6000 < n ∧ n < p2 6000 := by
  have := big_6000; omega

/-- Eight cells, and that nothing of W has turned. -/
abbrev S8 (a0 a1 a2 a3 a4 a5 a6 a7 : Addr) (x0 x1 x2 x3 x4 x5 x6 x7 : Value) (W : World) (w : World) : Prop :=
  w.cell? a0 = some x0 ∧ w.cell? a1 = some x1 ∧ w.cell? a2 = some x2 ∧ w.cell? a3 = some x3 ∧ w.cell? a4 = some x4 ∧ w.cell? a5 = some x5 ∧ w.cell? a6 = some x6 ∧ w.cell? a7 = some x7 ∧ Below W.heap.size W w
theorem S8.call {a0 a1 a2 a3 a4 a5 a6 a7 : Addr} {x0 x1 x2 x3 x4 x5 x6 x7 : Value} {W w w' : World} (h : S8 a0 a1 a2 a3 a4 a5 a6 a7 x0 x1 x2 x3 x4 x5 x6 x7 W w) (g : Below w.heap.size w w') : S8 a0 a1 a2 a3 a4 a5 a6 a7 x0 x1 x2 x3 x4 x5 x6 x7 W w' := by
  obtain ⟨h0, h1, h2, h3, h4, h5, h6, h7, hb⟩ := h
  exact ⟨below_cell h0 g, below_cell h1 g, below_cell h2 g, below_cell h3 g, below_cell h4 g, below_cell h5 g, below_cell h6 g, below_cell h7 g, hb.trans (g.mono hb.size)⟩

set_option maxRecDepth 20000 in
set_option maxHeartbeats 4000000 in
theorem adds_walk (m n : Int) (hm : inI m) (hn : inI n) (w : World) :
    Calls Try.prog 3 #[.agg #[.int .i64 (hiI m), .int .u64 (loI m)], .agg #[.int .i64 (hiI n), .int .u64 (loI n)]] w fun e w' => e = .returned (.bool true) ∧ Below w.heap.size w w' := by
  go_enter Try.func3, Try.ntmps3
  go_upto_region 3 with go_in
  have hG := (((((((((Gr.refl w).alloc (.cells #[.int .i64 (hiI m), .int .u64 (loI m)] 24)).alloc (.cells #[.int .i64 (hiI n), .int .u64 (loI n)] 24)).alloc (.cells #[.int .i64 (hiI m), .int .u64 (loI m)] 24)).alloc (.cells #[.int .i64 (hiI m), .int .u64 (loI m)] 25)).alloc (.cells #[.int .i64 (hiI m), .int .u64 (loI m)] 25)).alloc (.cells #[.int .i64 (hiI n), .int .u64 (loI n)] 24)).alloc (.cells #[.int .i64 (hiI n), .int .u64 (loI n)] 25)).alloc (.cells #[.int .i64 (hiI n), .int .u64 (loI n)] 25)).below
  generalize hW : (((((((w.alloc (.cells #[.int .i64 (hiI m), .int .u64 (loI m)] 24)).alloc (.cells #[.int .i64 (hiI n), .int .u64 (loI n)] 24)).alloc (.cells #[.int .i64 (hiI m), .int .u64 (loI m)] 24)).alloc (.cells #[.int .i64 (hiI m), .int .u64 (loI m)] 25)).alloc (.cells #[.int .i64 (hiI m), .int .u64 (loI m)] 25)).alloc (.cells #[.int .i64 (hiI n), .int .u64 (loI n)] 24)).alloc (.cells #[.int .i64 (hiI n), .int .u64 (loI n)] 25)).alloc (.cells #[.int .i64 (hiI n), .int .u64 (loI n)] 25) = W at *
  have x0 : W.cell? ⟨w.heap.size, 0, none⟩ = some (.int .i64 (hiI m)) := by subst hW; go_simp
  have x1 : W.cell? ⟨w.heap.size, 1, none⟩ = some (.int .u64 (loI m)) := by subst hW; go_simp
  have y0 : W.cell? ⟨w.heap.size + 1, 0, none⟩ = some (.int .i64 (hiI n)) := by subst hW; go_simp
  have y1 : W.cell? ⟨w.heap.size + 1, 1, none⟩ = some (.int .u64 (loI n)) := by subst hW; go_simp
  have c0 : W.cell? ⟨w.heap.size + 1 + 1 + 1 + 1, 0, none⟩ = some (.int .i64 (hiI m)) := by subst hW; go_simp
  have c1 : W.cell? ⟨w.heap.size + 1 + 1 + 1 + 1, 1, none⟩ = some (.int .u64 (loI m)) := by subst hW; go_simp
  have c2 : W.cell? ⟨w.heap.size + 1 + 1 + 1 + 1 + 1 + 1 + 1, 0, none⟩ = some (.int .i64 (hiI n)) := by subst hW; go_simp
  have c3 : W.cell? ⟨w.heap.size + 1 + 1 + 1 + 1 + 1 + 1 + 1, 1, none⟩ = some (.int .u64 (loI n)) := by subst hW; go_simp
  clear hW
  have hm' := hm
  have hn' := hn
  unfold inI at hm' hn'
  obtain ⟨m1, m2⟩ := hm'
  obtain ⟨n1, n2⟩ := hn'
  -- the document's two numbers
  go_upto_region 4 with (go_at_call 9; refine (num_in m hm _).mono ?_; rintro e w1 ⟨z, rfl, hz, hb1⟩; obtain ⟨r1, o1, l1, q1, rfl, hz1⟩ := hz.shape; clear hz)
  have hb1' : Below W.heap.size W (w1.alloc (.cells #[.bool r1, .slice o1 l1 q1] 29)) := hb1.trans (((Gr.refl _).alloc _).below.mono hb1.size)
  have k7 := Bk.new w1 (.bool r1) (.slice o1 l1 q1)
  have N7 : Nm (w1.alloc (.cells #[.bool r1, .slice o1 l1 q1] 29)) (.agg #[.bool r1, .slice o1 l1 q1]) m := hz1.out.mono ((Gr.refl _).alloc _).below
  replace hG := hG.trans (hb1'.mono hG.size)
  replace x0 := below_cell x0 hb1'
  replace x1 := below_cell x1 hb1'
  replace y0 := below_cell y0 hb1'
  replace y1 := below_cell y1 hb1'
  replace c0 := below_cell c0 hb1'
  replace c1 := below_cell c1 hb1'
  replace c2 := below_cell c2 hb1'
  replace c3 := below_cell c3 hb1'
  clear hz1 hb1 hb1'
  generalize w1.alloc (.cells #[.bool r1, .slice o1 l1 q1] 29) = W1 at *
  generalize w1.heap.size = X7 at *
  go_upto_region 5 with (go_at_call 9; refine (num_in n hn _).mono ?_; rintro e w2 ⟨z, rfl, hz, hb1⟩; obtain ⟨r2, o2, l2, q2, rfl, hz1⟩ := hz.shape; clear hz)
  have hb1' : Below W1.heap.size W1 (w2.alloc (.cells #[.bool r2, .slice o2 l2 q2] 29)) := hb1.trans (((Gr.refl _).alloc _).below.mono hb1.size)
  have k8 := Bk.new w2 (.bool r2) (.slice o2 l2 q2)
  have N8 : Nm (w2.alloc (.cells #[.bool r2, .slice o2 l2 q2] 29)) (.agg #[.bool r2, .slice o2 l2 q2]) n := hz1.out.mono ((Gr.refl _).alloc _).below
  replace N7 := N7.mono hb1'
  replace k7 := k7.mono hb1' k7.lt
  replace hG := hG.trans (hb1'.mono hG.size)
  replace c0 := below_cell c0 hb1'
  replace c1 := below_cell c1 hb1'
  replace c2 := below_cell c2 hb1'
  replace c3 := below_cell c3 hb1'
  clear hz1 hb1 hb1' x0 x1 y0 y1
  generalize w2.alloc (.cells #[.bool r2, .slice o2 l2 q2] 29) = W2 at *
  generalize w2.heap.size = X8 at *
  have c4 := k7.c0
  have c5 := k7.c1
  have c6 := k8.c0
  have c7 := k8.c1
  have M7 : Hid (Nm W2 (.agg #[.bool r1, .slice o1 l1 q1]) m) := N7
  have M8 : Hid (Nm W2 (.agg #[.bool r2, .slice o2 l2 q2]) n) := N8
  clear N7 N8
  have sm : Hid (small m) := small_256 (by omega) (by omega)
  have sn : Hid (small n) := small_256 (by omega) (by omega)
  generalize w.heap.size + 1 + 1 + 1 + 1 + 1 + 1 + 1 = Y6 at *
  generalize w.heap.size + 1 + 1 + 1 + 1 = Y5 at *
  have t1 := small_in (n := m + n) (by omega) (by omega)
  have t2 := small_in (n := m - n) (by omega) (by omega)
  have t3 := small_in (n := -m) (by omega) (by omega)
  have T1 : Hid (-p2 6000 < m + n ∧ m + n < p2 6000) := t1
  have T2 : Hid (-p2 6000 < m - n ∧ m - n < p2 6000) := t2
  have T3 : Hid (-p2 6000 < -m ∧ -m < p2 6000) := t3
  clear t1 t2 t3
  have hS0 : Hid (S8 ⟨Y5, 0, none⟩ ⟨Y5, 1, none⟩ ⟨Y6, 0, none⟩ ⟨Y6, 1, none⟩ ⟨X7, 0, none⟩ ⟨X7, 1, none⟩ ⟨X8, 0, none⟩ ⟨X8, 1, none⟩ (.int .i64 (hiI m)) (.int .u64 (loI m)) (.int .i64 (hiI n)) (.int .u64 (loI n)) (.bool r1) (.slice o1 l1 q1) (.bool r2) (.slice o2 l2 q2) W2 W2.drew) := ⟨c0, c1, c2, c3, c4, c5, c6, c7, (Below.refl _ _).drew⟩
  go_region_held3 (S8 ⟨Y5, 0, none⟩ ⟨Y5, 1, none⟩ ⟨Y6, 0, none⟩ ⟨Y6, 1, none⟩ ⟨X7, 0, none⟩ ⟨X7, 1, none⟩ ⟨X8, 0, none⟩ ⟨X8, 1, none⟩ (.int .i64 (hiI m)) (.int .u64 (loI m)) (.int .i64 (hiI n)) (.int .u64 (loI n)) (.bool r1) (.slice o1 l1 q1) (.bool r2) (.slice o2 l2 q2) W2)
    (first | with_reducible exact hS0.out | exact S8.call (by assumption) (by assumption))
    (first
      | (go_at_call 11; refine (add_any m n _).mono ?_; rintro e w3 ⟨rfl, hg3⟩; have hb3 := hg3.below)
      | (go_at_call 13; refine (sub_any m n _).mono ?_; rintro e w3 ⟨rfl, hg3⟩; have hb3 := hg3.below)
      | (go_at_call 15; refine (neg_any m _).mono ?_; rintro e w3 ⟨rfl, hg3⟩; have hb3 := hg3.below)
      | (go_at_call 12; refine (add_num _ _ m n _ (M7.out.mono (by assumption : S8 ⟨Y5, 0, none⟩ ⟨Y5, 1, none⟩ ⟨Y6, 0, none⟩ ⟨Y6, 1, none⟩ ⟨X7, 0, none⟩ ⟨X7, 1, none⟩ ⟨X8, 0, none⟩ ⟨X8, 1, none⟩ (.int .i64 (hiI m)) (.int .u64 (loI m)) (.int .i64 (hiI n)) (.int .u64 (loI n)) (.bool r1) (.slice o1 l1 q1) (.bool r2) (.slice o2 l2 q2) W2 _).2.2.2.2.2.2.2.2) (M8.out.mono (by assumption : S8 ⟨Y5, 0, none⟩ ⟨Y5, 1, none⟩ ⟨Y6, 0, none⟩ ⟨Y6, 1, none⟩ ⟨X7, 0, none⟩ ⟨X7, 1, none⟩ ⟨X8, 0, none⟩ ⟨X8, 1, none⟩ (.int .i64 (hiI m)) (.int .u64 (loI m)) (.int .i64 (hiI n)) (.int .u64 (loI n)) (.bool r1) (.slice o1 l1 q1) (.bool r2) (.slice o2 l2 q2) W2 _).2.2.2.2.2.2.2.2) sm.out sn.out).mono ?_; rintro e w3 ⟨z, rfl, hz, hb3⟩; obtain ⟨r3, o3, l3, q3, rfl, hz3⟩ := hz.shape; clear hz)
      | (go_at_call 14; refine (sub_num _ _ m n _ (M7.out.mono (by assumption : S8 ⟨Y5, 0, none⟩ ⟨Y5, 1, none⟩ ⟨Y6, 0, none⟩ ⟨Y6, 1, none⟩ ⟨X7, 0, none⟩ ⟨X7, 1, none⟩ ⟨X8, 0, none⟩ ⟨X8, 1, none⟩ (.int .i64 (hiI m)) (.int .u64 (loI m)) (.int .i64 (hiI n)) (.int .u64 (loI n)) (.bool r1) (.slice o1 l1 q1) (.bool r2) (.slice o2 l2 q2) W2 _).2.2.2.2.2.2.2.2) (M8.out.mono (by assumption : S8 ⟨Y5, 0, none⟩ ⟨Y5, 1, none⟩ ⟨Y6, 0, none⟩ ⟨Y6, 1, none⟩ ⟨X7, 0, none⟩ ⟨X7, 1, none⟩ ⟨X8, 0, none⟩ ⟨X8, 1, none⟩ (.int .i64 (hiI m)) (.int .u64 (loI m)) (.int .i64 (hiI n)) (.int .u64 (loI n)) (.bool r1) (.slice o1 l1 q1) (.bool r2) (.slice o2 l2 q2) W2 _).2.2.2.2.2.2.2.2) sm.out sn.out).mono ?_; rintro e w3 ⟨z, rfl, hz, hb3⟩; obtain ⟨r3, o3, l3, q3, rfl, hz3⟩ := hz.shape; clear hz)
      | (go_at_call 16; refine (neg_num _ m _ (M7.out.mono (by assumption : S8 ⟨Y5, 0, none⟩ ⟨Y5, 1, none⟩ ⟨Y6, 0, none⟩ ⟨Y6, 1, none⟩ ⟨X7, 0, none⟩ ⟨X7, 1, none⟩ ⟨X8, 0, none⟩ ⟨X8, 1, none⟩ (.int .i64 (hiI m)) (.int .u64 (loI m)) (.int .i64 (hiI n)) (.int .u64 (loI n)) (.bool r1) (.slice o1 l1 q1) (.bool r2) (.slice o2 l2 q2) W2 _).2.2.2.2.2.2.2.2)).mono ?_; rintro e w3 ⟨z, rfl, hz, hb3⟩; obtain ⟨r3, o3, l3, q3, rfl, hz3⟩ := hz.shape; clear hz)
      | (go_at_call_of 10 (Value.int IntKind.i64 (hiI (m + n))); refine (is_any _ (m + n) _ hz3.out T1.out.1 T1.out.2).mono ?_; rintro e w4 ⟨rfl, hb4⟩)
      | (go_at_call_of 10 (Value.int IntKind.i64 (hiI (m - n))); refine (is_any _ (m - n) _ hz3.out T2.out.1 T2.out.2).mono ?_; rintro e w4 ⟨rfl, hb4⟩)
      | (go_at_call_of 10 (Value.int IntKind.i64 (hiI (-m))); refine (is_any _ (-m) _ hz3.out T3.out.1 T3.out.2).mono ?_; rintro e w4 ⟨rfl, hb4⟩))
  have hbW : Below W2.heap.size W2 w4 := (by assumption : S8 ⟨Y5, 0, none⟩ ⟨Y5, 1, none⟩ ⟨Y6, 0, none⟩ ⟨Y6, 1, none⟩ ⟨X7, 0, none⟩ ⟨X7, 1, none⟩ ⟨X8, 0, none⟩ ⟨X8, 1, none⟩ (.int .i64 (hiI m)) (.int .u64 (loI m)) (.int .i64 (hiI n)) (.int .u64 (loI n)) (.bool r1) (.slice o1 l1 q1) (.bool r2) (.slice o2 l2 q2) W2 w4).2.2.2.2.2.2.2.2
  replace hG := hG.trans (hbW.mono hG.size)
  replace M7 : Hid (Nm w4 (.agg #[.bool r1, .slice o1 l1 q1]) m) := M7.out.mono hbW
  replace M8 : Hid (Nm w4 (.agg #[.bool r2, .slice o2 l2 q2]) n) := M8.out.mono hbW
  replace c0 := below_cell c0 hbW
  replace c1 := below_cell c1 hbW
  replace c2 := below_cell c2 hbW
  replace c3 := below_cell c3 hbW
  replace c4 := below_cell c4 hbW
  replace c5 := below_cell c5 hbW
  replace c6 := below_cell c6 hbW
  replace c7 := below_cell c7 hbW
  clear hS0 hbW T1 T2 T3 k7 k8 sm sn
  go_upto_region 8 with (go_at_call 17; refine (int64_any m hm _).mono ?_; rintro e w5 ⟨rfl, hg5⟩)
  have hb5 := hg5.below
  replace hG := hG.trans (hb5.mono hG.size)
  replace M7 : Hid (Nm w5 (.agg #[.bool r1, .slice o1 l1 q1]) m) := M7.out.mono hb5
  replace M8 : Hid (Nm w5 (.agg #[.bool r2, .slice o2 l2 q2]) n) := M8.out.mono hb5
  replace c0 := below_cell c0 hb5
  replace c1 := below_cell c1 hb5
  replace c2 := below_cell c2 hb5
  replace c3 := below_cell c3 hb5
  replace c4 := below_cell c4 hb5
  replace c5 := below_cell c5 hb5
  replace c6 := below_cell c6 hb5
  replace c7 := below_cell c7 hb5
  clear hg5 hb5
  go_upto_region 9 with (go_at_call 18; refine (int64_num _ m _ M7.out hm).mono ?_; rintro e w6 ⟨rfl, hb6⟩)
  replace hG := hG.trans (hb6.mono hG.size)
  replace M7 : Hid (Nm w6 (.agg #[.bool r1, .slice o1 l1 q1]) m) := M7.out.mono hb6
  replace M8 : Hid (Nm w6 (.agg #[.bool r2, .slice o2 l2 q2]) n) := M8.out.mono hb6
  have d0 := cell_grown (World.block_lt_of_cell? _ _ (below_cell c0 hb6)) (below_cell c0 hb6)
  have d1 := cell_grown (World.block_lt_of_cell? _ _ (below_cell c1 hb6)) (below_cell c1 hb6)
  have d2 := cell_grown (World.block_lt_of_cell? _ _ (below_cell c2 hb6)) (below_cell c2 hb6)
  have d3 := cell_grown (World.block_lt_of_cell? _ _ (below_cell c3 hb6)) (below_cell c3 hb6)
  have d4 := cell_grown (World.block_lt_of_cell? _ _ (below_cell c4 hb6)) (below_cell c4 hb6)
  have d5 := cell_grown (World.block_lt_of_cell? _ _ (below_cell c5 hb6)) (below_cell c5 hb6)
  have d6 := cell_grown (World.block_lt_of_cell? _ _ (below_cell c6 hb6)) (below_cell c6 hb6)
  have d7 := cell_grown (World.block_lt_of_cell? _ _ (below_cell c7 hb6)) (below_cell c7 hb6)
  have P7 : Hid (∀ a b, Nm (grow (w6.drewN a) b) (.agg #[.bool r1, .slice o1 l1 q1]) m) := fun a b => M7.out.mono (Gr.below ⟨a, b, rfl⟩)
  have P8 : Hid (∀ a b, Nm (grow (w6.drewN a) b) (.agg #[.bool r2, .slice o2 l2 q2]) n) := fun a b => M8.out.mono (Gr.below ⟨a, b, rfl⟩)
  have HM : Hid (inI m) := hm
  have HN : Hid (inI n) := hn
  clear c0 c1 c2 c3 c4 c5 c6 c7 hb6 M7 M8 hm hn m1 m2 n1 n2
  generalize (if -9223372036854775808 ≤ m ∧ m ≤ 9223372036854775807 then m else 0) = V
  generalize decide (-9223372036854775808 ≤ m ∧ m ≤ 9223372036854775807) = OKV
  refine wp_region_quiet_grown (by kernel_rfl) (by kernel_rfl) ?_
  repeat (go_big_quiet_step (first
    | (go_at_call 19; refine Calls.grown_of (sign_any m HM.out _))
    | (go_at_call 20; refine Calls.grown_of (sign_num _ m _ (P7.out _ _)))
    | (go_at_call 21; refine Calls.grown_of (cmp_any m n HM.out HN.out _))
    | (go_at_call 22; refine Calls.grown_of (cmp_num _ _ m n _ (P7.out _ _) (P8.out _ _)))))
  refine wpQuiet_nil ?_
  intro _ hw'
  obtain ⟨⟨nq, osq⟩, hw''⟩ := hw'
  subst hw''
  have hbf := hG.trans ((Gr.below ⟨nq, osq, rfl⟩).mono hG.size)
  clear d0 d1 d2 d3 d4 d5 d6 d7 P7 P8
  go_wp2
  go_ret
  exact ⟨rfl, hbf⟩
end Go.Proofs.Ytgpkigofbncamaa
