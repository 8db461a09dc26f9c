/- A nil table and a zero one; none. -/
import Derived.Test.YtjnjpjpgokdciaaDoorDa
set_option linter.unusedSimpArgs false
set_option linter.unusedVariables false
namespace Go.Proofs.YtjnjpjpgokdciaaDoor
open Go.RowKit Go.Sort Go.Shelf

/-- As none at all. -/
def NoTab (w : World) (v : Value) : Prop := v = .pointer none ∨ ∃ t x y, v = pT t ∧ Bk w t 54 [.bool false, x, y]
theorem NoTab.gr {w w' : World} {v : Value} (h : NoTab w v) (k : Gr w w') : NoTab w' v := by
  rcases h with h | ⟨t, x, y, rfl, hB⟩
  · exact .inl h
  · exact .inr ⟨t, x, y, rfl, hB.gr k⟩
theorem NoTab.below {w w' : World} {v : Value} (h : NoTab w v) (k : Below w.heap.size w w') : NoTab w' v := by
  rcases h with h | ⟨t, x, y, rfl, hB⟩
  · exact .inl h
  · exact .inr ⟨t, x, y, rfl, hB.mono k hB.lt⟩
theorem absent_nt (v : Value) (w : World) (h : NoTab w v) : Calls Tryd.prog 37 #[v] w fun e w' => e = .returned (.bool true) ∧ w' = w := by
  rcases h with rfl | ⟨t, x, y, rfl, hB⟩
  · exact absent_no _
  · exact absent_zero t x y _ hB
theorem find_nt (v : Value) (id : Int) (w : World) (h : NoTab w v) : Calls Tryd.prog 47 #[v, .int .u32 id] w fun e w' => e = .returned (.tuple #[.int .i64 0, .bool false]) ∧ w' = w := by
  have A := hid0 (absent_nt v w h)
  clear h
  go_enter Tryd.func47, Tryd.ntmps47
  go_wp2_with (go_at_call 37; refine A.out.mono ?_; rintro e w1 ⟨rfl, hw⟩; cases hw)
  go_ret2
  exact ⟨rfl, rfl⟩
theorem len_nt (v : Value) (w : World) (h : NoTab w v) : Calls Tryd.prog 45 #[v] w fun e w' => e = .returned (.int .i64 0) ∧ w' = w := by
  have A := hid0 (absent_nt v w h)
  clear h
  go_enter Tryd.func45, Tryd.ntmps45
  go_wp2_with (go_at_call 37; refine A.out.mono ?_; rintro e w1 ⟨rfl, hw⟩; cases hw)
  go_ret
  exact ⟨rfl, rfl⟩
theorem room_nt (v : Value) (w : World) (h : NoTab w v) : Calls Tryd.prog 46 #[v] w fun e w' => e = .returned (.int .i64 0) ∧ w' = w := by
  have A := hid0 (absent_nt v w h)
  clear h
  go_enter Tryd.func46, Tryd.ntmps46
  go_wp2_with (go_at_call 37; refine A.out.mono ?_; rintro e w1 ⟨rfl, hw⟩; cases hw)
  go_ret
  exact ⟨rfl, rfl⟩
theorem put_nt (v : Value) (id n : Int) (w : World) (h : NoTab w v) : Calls Tryd.prog 15 #[v, .int .u32 id, vV n] w fun e w' => e = .returned (.tuple #[vV 0, .int .i64 1]) ∧ Gr w w' := by
  obtain ⟨gW, k5, k6, k8⟩ := put_start w n
  have A := hid0 (absent_nt v _ (h.gr gW))
  clear h
  replace gW := hid0 gW
  go_enter Tryd.func15, Tryd.ntmps15
  go_upto_region 2 with fail
  obtain ⟨b5, e5⟩ : ∃ b, b = w.heap.size := ⟨_, rfl⟩
  obtain ⟨b6, e6, h6⟩ : ∃ b, b = w.heap.size + 1 ∧ w.heap.size ≤ b := ⟨_, rfl, by omega⟩
  obtain ⟨b8, e8⟩ : ∃ b, b = w.heap.size + 1 + 1 := ⟨_, rfl⟩
  rw [← e8, ← e6, ← e5]
  rw [← e5] at k5
  rw [← e6] at k6
  rw [← e8] at k8
  clear e5 e6 e8
  generalize World.alloc (World.alloc (World.alloc _ _) _) _ = W at *
  have f0 := k6.frozen 0
  have f1 := k6.frozen 1
  obtain ⟨q0, q1⟩ := vcells k8
  obtain ⟨p0, p1⟩ := vcells k6
  go_wp2_with (go_at_call 37; refine A.out.mono ?_; rintro e w1 ⟨rfl, hw⟩; cases hw)
  have k2 := k6.setv (m := 0)
  have g2 := hid0 (gW.out.setv (m := 0) (b := b6) h6)
  generalize World.setCell _ _ _ = Y at *
  obtain ⟨q0, q1⟩ := vcells k2
  exact bodyPost_ret (v := .tuple #[vV 0, .int .i64 1]) (by simp [results, Tryd.results15, go_sem, q0, q1]) rfl ⟨rfl, g2.out⟩
theorem get_nt (v : Value) (id : Int) (w : World) (h0 : NoTab w v) : Calls Tryd.prog 35 #[v, .int .u32 id] w fun e w' => e = .returned (.tuple #[vV 0, .bool false]) ∧ Gr w w' := by
  have k : Bk (w.alloc (.cells #[.int .i64 0, .string ⟨#[]⟩] 32)) w.heap.size 32 (vL 0) := Bk.new w 32 (vL 0)
  have g := (Gr.refl w).alloc (.cells #[.int .i64 0, .string ⟨#[]⟩] 32)
  have F := hid0 (find_nt v id _ (h0.gr g))
  replace k := hid0 k
  replace g := hid0 g
  clear h0
  go_enter Tryd.func35, Tryd.ntmps35
  go_upto_region 1 with fail
  have hb : w.heap.size ≤ w.heap.size := Nat.le_refl _
  generalize hbb : w.heap.size = b at k hb ⊢
  generalize w.alloc _ = W at *
  go_wp2_with fail
  refine F.out.mono ?_
  rintro e w1 ⟨rfl, hw⟩
  cases hw
  clear F
  have kN := Bk.new W 32 (vL 0)
  have gN := (Gr.refl W).alloc (.cells #[.int .i64 0, .string ⟨#[]⟩] 32)
  replace k : Hid (Bk (W.alloc (.cells #[.int .i64 0, .string ⟨#[]⟩] 32)) b 32 (vL 0)) := k.out.gr gN
  replace g := hid0 (g.out.trans gN)
  replace kN : Hid (Bk (W.alloc (.cells #[.int .i64 0, .string ⟨#[]⟩] 32)) W.heap.size 32 (vL 0)) := kN
  clear gN
  go_upto_region 4 with fail
  generalize W.heap.size = b2 at *
  generalize W.alloc _ = W2 at *
  obtain ⟨q0, q1⟩ := vcells kN.out
  obtain ⟨r0, r1⟩ := vcells k.out
  have f0 := k.out.frozen 0
  have f1 := k.out.frozen 1
  go_wp2
  have k2 := k.out.setv (m := 0)
  have g2 := hid0 (g.out.setv (m := 0) (b := b) (by omega))
  generalize World.setCell _ _ _ = X at *
  obtain ⟨q0, q1⟩ := vcells k2
  exact bodyPost_ret (v := .tuple #[vV 0, .bool false]) (by simp [results, Tryd.results35, go_sem, q0, q1]) rfl ⟨rfl, g2.out⟩
theorem del_nt (v : Value) (id : Int) (w : World) (h : NoTab w v) : Calls Tryd.prog 18 #[v, .int .u32 id] w fun e w' => e = .returned (.tuple #[vV 0, .bool false]) ∧ Gr w w' := by
  have k4 : Bk (w.alloc (.cells #[.int .i64 0, .string ⟨#[]⟩] 32)) w.heap.size 32 (vL 0) := Bk.new w 32 (vL 0)
  have g4 := (Gr.refl w).alloc (.cells #[.int .i64 0, .string ⟨#[]⟩] 32)
  have GT := hid0 (get_nt v id _ (h.gr g4))
  clear h
  go_enter Tryd.func18, Tryd.ntmps18
  go_upto_region 1 with fail
  obtain ⟨b4, e4, h4⟩ : ∃ b, b = w.heap.size ∧ w.heap.size ≤ b := ⟨_, rfl, Nat.le_refl _⟩
  rw [← e4] at k4 ⊢
  clear e4
  generalize w.alloc _ = W at *
  go_upto_region 2 with (go_at_call 35; refine GT.out.mono ?_; rintro e w1 ⟨rfl, gG⟩; have k41 := k4.gr gG; have g41 := g4.trans gG)
  have gA := (Gr.refl w1).alloc (.cells #[.int .i64 0, .string (sB 0)] 32)
  have k6 : Bk (w1.alloc (.cells #[.int .i64 0, .string (sB 0)] 32)) w1.heap.size 32 (vL 0) := Bk.new w1 32 (vL 0)
  have k4A := hid0 (k41.gr gA)
  have gwA := hid0 (g41.trans gA)
  clear GT k4 k41 g4 gG g41 gA
  generalize w1.heap.size = b6 at *
  generalize w1.alloc _ = A at *
  have f0 := k4A.out.frozen 0
  have f1 := k4A.out.frozen 1
  obtain ⟨p0, p1⟩ := vcells k4A.out
  obtain ⟨q0, q1⟩ := vcells k6
  clear k6
  go_wp2
  have k2 := k4A.out.setv (m := 0)
  have g2 := hid0 (gwA.out.setv (m := 0) (b := b4) h4)
  generalize World.setCell _ _ _ = Y at *
  obtain ⟨q0, q1⟩ := vcells k2
  exact bodyPost_ret (v := .tuple #[vV 0, .bool false]) (by simp [results, Tryd.results18, go_sem, q0, q1]) rfl ⟨rfl, g2.out⟩
set_option maxHeartbeats 2000000 in
theorem next_nt (v : Value) (id : Int) (w : World) (h0 : NoTab w v) : Calls Tryd.prog 17 #[v, .int .u32 id, .bool true] w fun e w' => e = .returned (.tuple #[.int .u32 0, vV 0, .bool false]) ∧ Gr w w' := by
  have k : Bk (w.alloc (.cells #[.int .i64 0, .string ⟨#[]⟩] 32)) w.heap.size 32 (vL 0) := Bk.new w 32 (vL 0)
  have g := (Gr.refl w).alloc (.cells #[.int .i64 0, .string ⟨#[]⟩] 32)
  have F := hid0 (find_nt v id _ (h0.gr g))
  have LN := hid0 (len_nt v _ (h0.gr g))
  replace k := hid0 k
  replace g := hid0 g
  clear h0
  go_enter Tryd.func17, Tryd.ntmps17
  go_upto_region 1 with fail
  have hb : w.heap.size ≤ w.heap.size := Nat.le_refl _
  generalize hbb : w.heap.size = b at k hb ⊢
  generalize w.alloc _ = W at *
  go_wp2_with fail
  refine F.out.mono ?_
  rintro e w1 ⟨rfl, hw⟩
  cases hw
  clear F
  go_wp2_with fail
  refine LN.out.mono ?_
  rintro e w1 ⟨rfl, hw⟩
  cases hw
  clear LN
  have kN := Bk.new W 32 (vL 0)
  have gN := (Gr.refl W).alloc (.cells #[.int .i64 0, .string ⟨#[]⟩] 32)
  replace k : Hid (Bk (W.alloc (.cells #[.int .i64 0, .string ⟨#[]⟩] 32)) b 32 (vL 0)) := k.out.gr gN
  replace g := hid0 (g.out.trans gN)
  replace kN : Hid (Bk (W.alloc (.cells #[.int .i64 0, .string ⟨#[]⟩] 32)) W.heap.size 32 (vL 0)) := kN
  clear gN
  go_upto_region 8 with fail
  generalize W.heap.size = b2 at *
  generalize W.alloc _ = W2 at *
  have q0 := fun m => below_cell (vcells kN.out).1 ((Gr.refl W2).drewN m).below
  have q1 := fun m => below_cell (vcells kN.out).2 ((Gr.refl W2).drewN m).below
  have r0 := fun m => below_cell (vcells k.out).1 ((Gr.refl W2).drewN m).below
  have r1 := fun m => below_cell (vcells k.out).2 ((Gr.refl W2).drewN m).below
  have f0 := fun m => (k.out.gr ((Gr.refl W2).drewN m)).frozen 0
  have f1 := fun m => (k.out.gr ((Gr.refl W2).drewN m)).frozen 1
  obtain ⟨nF, hnF⟩ : ∃ nF : Nat, 5 ≤ nF := ⟨5, by omega⟩
  refine (wpIn_wide (n := nF)).1 ?_
  refine region_head_lit 2 (by kernel_rfl) (by kernel_rfl) (by simp) (by kernel_rfl) ?_
  simp only [List.take_succ_cons, List.take_zero, List.drop_succ_cons, List.drop_zero]
  repeat (gi_big_quiet_step (fail))
  refine wpQuietIn_nil ?_
  intro _ hw'
  obtain ⟨q, rfl⟩ := hw'
  gi_wp2
  go_wp2
  have k2 := (k.out.gr ((Gr.refl W2).drewN q)).setv (m := 0)
  have g2 := hid0 ((g.out.trans ((Gr.refl W2).drewN q)).setv (m := 0) (b := b) (by omega))
  generalize World.setCell _ _ _ = X at *
  obtain ⟨q0, q1⟩ := vcells k2
  exact bodyPost_ret (v := .tuple #[.int .u32 0, vV 0, .bool false]) (by simp [results, Tryd.results17, go_sem, q0, q1]) rfl ⟨rfl, g2.out⟩
set_option maxRecDepth 100000 in
set_option maxHeartbeats 4000000 in
theorem none_any (v : Value) (w : World) (h : NoTab w v) : Calls Tryd.prog 14 #[v] w fun e w' => e = .returned (.bool true) ∧ Below w.heap.size w w' := by
  have OF := hid0 (of_any 1 w)
  have H := hid0 h
  clear h
  go_enter Tryd.func14, Tryd.ntmps14
  go_wp2_with fail
  refine OF.out.mono ?_
  rintro e w1 ⟨rfl, g1⟩
  have G1 := hid0 g1
  have C := hid0 (put_nt v 1 1 w1 (H.out.gr g1))
  clear OF g1
  go_wp2_with fail
  refine C.out.mono ?_
  rintro e w2 ⟨rfl, g2⟩
  have gA := (Gr.refl w2).alloc (.cells #[.int .i64 0, .string (sB 0)] 32)
  have G2 := hid0 ((G1.out.trans g2).trans gA)
  clear C g2 gA G1
  go_upto_region 2 with fail
  generalize w2.alloc _ = A2 at *
  have C := hid0 (get_nt v 1 A2 (H.out.gr G2.out))
  go_wp2_with fail
  refine C.out.mono ?_
  rintro e w3 ⟨rfl, g3⟩
  have gA := (Gr.refl w3).alloc (.cells #[.int .i64 0, .string (sB 0)] 32)
  have G3 := hid0 ((G2.out.trans g3).trans gA)
  clear C g3 gA G2
  go_upto_region 3 with fail
  generalize w3.alloc _ = A3 at *
  have C := hid0 (del_nt v 1 A3 (H.out.gr G3.out))
  go_wp2_with fail
  refine C.out.mono ?_
  rintro e w4 ⟨rfl, g4⟩
  have gA := (Gr.refl w4).alloc (.cells #[.int .i64 0, .string (sB 0)] 32)
  have G4 := hid0 ((G3.out.trans g4).trans gA)
  clear C g4 gA G3
  go_upto_region 4 with fail
  generalize w4.alloc _ = A4 at *
  have C := hid0 (next_nt v 0 A4 (H.out.gr G4.out))
  go_wp2_with fail
  refine C.out.mono ?_
  rintro e w5 ⟨rfl, g5⟩
  have gA := (Gr.refl w5).alloc (.cells #[.int .i64 0, .string (sB 0)] 32)
  have G5 := hid0 ((G4.out.trans g5).trans gA)
  clear C g5 gA G4
  go_upto_region 5 with fail
  generalize w5.alloc _ = A5 at *
  have N5 := H.out.gr G5.out
  have C1 := hid0 (len_nt v A5 N5)
  have C2 := hid0 (room_nt v A5 N5)
  have C3 := hid0 (tall_nil v A5 N5)
  clear N5 H
  go_wp2_with fail
  refine C1.out.mono ?_
  rintro e w6 ⟨rfl, hw⟩
  cases hw
  go_wp2_with fail
  refine C2.out.mono ?_
  rintro e w6 ⟨rfl, hw⟩
  cases hw
  go_wp2_with fail
  refine C3.out.mono ?_
  rintro e w6 ⟨bt, v0, rfl, K6, B6, _⟩
  have C4 := hid0 (pairs_any bt v0 [] 0 w6 K6)
  have G6 := hid0 (G5.out.below.trans (B6.mono G5.out.size))
  rw [leftLE_zero] at C4
  clear C1 C2 C3 K6 B6 G5
  go_wp2_with fail
  refine C4.out.mono ?_
  rintro e w7 ⟨ao, cap, rfl, _, B7⟩
  have G7 := hid0 (G6.out.trans (B7.mono G6.out.size))
  clear C4 B7 G6
  go_wp2
  go_ret
  exact ⟨rfl, G7.out⟩
end Go.Proofs.YtjnjpjpgokdciaaDoor
