/- The ring of pairs: Cut, Pop, Push. -/
import Derived.Test.YtodlhclaboofiaaDoorPj
set_option linter.unusedSimpArgs false
set_option linter.unusedVariables false
namespace Go.Proofs.YtodlhclaboofiaaDoor
open Go.RowKit Go.Sort

theorem Chg.setNew {p : Nat → Prop} {w a : World} (h : Chg p w a) {x : Addr} (hx : w.heap.size ≤ x.block) (v : Value) : Chg p w (a.setCell x v) :=
  ⟨h.os, h.tape, h.output, by have := h.size; simpa [World.setCell] using this, fun k hk hn => (Below.heap_setCell _ _ _ _ (by omega)).trans (h.block k hk hn)⟩
set_option maxHeartbeats 1000000 in
theorem p_cut_no (T B : Nat) (s : RS) (i : Int) (w : World) (h : pIs w T B s) (hn : 1 ≤ s.n) (hi : i < 0 ∨ (s.c : Int) ≤ i) : Calls Tryd.prog 35 #[.pointer (some ⟨T, 0, none⟩), .int .i64 i] w fun e w' => e = .returned (.tuple #[pV 0, .bool false]) ∧ Gr w w' := by
  have g0 := (Gr.refl w).alloc (.cells #[.int .i64 0, .float .f64 0] 38)
  have k0 := hid0 (Bk.new w 38 [.int .i64 0, .float .f64 0])
  have I := hid0 (p_at_no T B s i _ (h.gr g0) hn hi)
  have G0 := hid0 g0
  have hb : Hid (w.heap.size ≤ w.heap.size) := Nat.le_refl _
  clear h hi g0
  have sf := run_store_f
  go_enter Tryd.func35, Tryd.ntmps35
  go_upto_region 1 with fail
  obtain ⟨b4, hb4⟩ : ∃ b4, b4 = w.heap.size := ⟨_, rfl⟩
  rw [← hb4] at k0 ⊢
  have HB : Hid (w.heap.size ≤ b4) := by rw [hb4]; exact hb.out
  clear hb4 hb
  generalize w.alloc (.cells #[.int .i64 0, .float .f64 0] 38) = W at *
  go_wp2_with fail
  refine I.out.mono ?_
  rintro e W1 ⟨rfl, g1⟩
  have K1 := hid0 ((k0.out.gr g1).alloc (.cells #[.int .i64 0, .float .f64 0] 38))
  have G1 := hid0 ((G0.out.trans g1).alloc (.cells #[.int .i64 0, .float .f64 0] 38))
  have kk := Bk.new W1 38 [.int .i64 0, .float .f64 0]
  clear I k0 G0 g1
  go_upto_region 2 with fail
  generalize W1.alloc (.cells #[.int .i64 0, .float .f64 0] 38) = W2 at *
  generalize W1.heap.size = b6 at *
  obtain ⟨c0, c1, c2, c3⟩ := pz_two kk
  obtain ⟨a0, a1, a2, a3⟩ := pz_two K1.out
  have K2 := hid0 ((K1.out.set 0 (.int .i64 0)).set 1 (.float .f64 0))
  simp only [List.set_cons_zero, List.set_cons_succ] at K2
  have G2 : Hid (Gr w _) := (G1.out.setCell (p := ⟨b4, 0, none⟩) HB.out (.int .i64 0)).setCell (p := ⟨b4, 1, none⟩) HB.out (.float .f64 0)
  clear kk K1 G1
  go_wp2
  obtain ⟨d0, d1, _, _⟩ := pz_two K2.out
  exact bodyPost_ret (v := .tuple #[pV 0, .bool false]) (by simp [results, Tryd.results35, go_sem, d0, d1]) rfl ⟨rfl, G2.out⟩
set_option maxHeartbeats 4000000 in
theorem p_cut_yes (T B : Nat) (s : RS) (L : List Int) (i : Nat) (v : Int) (w : World) (h : pIs w T B s) (ok : s.Ok L) (hv : L[i]? = some v) :
    Calls Tryd.prog 35 #[.pointer (some ⟨T, 0, none⟩), .int .i64 (i : Int)] w fun e w' => e = .returned (.tuple #[pV v, .bool true]) ∧ ∃ s', s'.Ok (L.eraseIdx i) ∧ s'.n = s.n ∧ s'.pk = s.pk ∧ s'.rf = s.rf ∧ s'.low = s.low ∧ (s'.high = s.high ∧ s'.pr = prOf s.high s.low s.pr s'.c) ∧ pIs w' T B s' ∧ Chg (tw T B) w w' := by
  have hi : i < s.c := by rw [← ok.cL]; exact (List.getElem?_eq_some_iff.1 hv).1
  have hes := ok.has i v hv
  have hn := ok.n1
  have hn2 := ok.n2
  have hf := ok.fn
  have hcn := ok.cn
  have PR := hid0 ok.pre
  have g0 := (Gr.refl w).alloc (.cells #[.int .i64 0, .float .f64 0] 38)
  have k0 := hid0 (Bk.new w 38 [.int .i64 0, .float .f64 0])
  have AY := hid0 (p_at_yes T B s i v _ (h.gr g0) hn hn2 hf hcn hi hes)
  have H := hid0 (h.gr g0)
  have G0 := hid0 g0
  have hb : Hid (w.heap.size ≤ w.heap.size ∧ T ≠ w.heap.size ∧ B ≠ w.heap.size) := ⟨Nat.le_refl _, by have := h.lt.1; omega, by have := h.lt.2; omega⟩
  clear h hv hes g0
  have sf := run_store_f
  go_enter Tryd.func35, Tryd.ntmps35
  go_upto_region 1 with fail
  obtain ⟨b4, hb4⟩ : ∃ b4, b4 = w.heap.size := ⟨_, rfl⟩
  rw [← hb4] at k0 ⊢
  have HB : Hid (w.heap.size ≤ b4 ∧ T ≠ b4 ∧ B ≠ b4) := by rw [hb4]; exact hb.out
  clear hb4 hb
  generalize w.alloc (.cells #[.int .i64 0, .float .f64 0] 38) = W at *
  go_wp2_with fail
  refine AY.out.mono ?_
  rintro e w1 ⟨rfl, g1⟩
  have hz : Hid (b4 < w1.heap.size) := (k0.out.gr g1).lt
  have hzz : Hid (T ≠ w1.heap.size ∧ B ≠ w1.heap.size ∧ w.heap.size ≤ w1.heap.size) := ⟨by have := (H.out.gr g1).lt.1; omega, by have := (H.out.gr g1).lt.2; omega, (G0.out.trans g1).size⟩
  have K0 := hid0 ((k0.out.gr g1).alloc (.cells #[.int .i64 v, .float .f64 0] 38))
  have kk := hid0 (Bk.new w1 38 [.int .i64 v, .float .f64 0])
  have K1 : Hid (pIs (w1.alloc (.cells #[.int .i64 v, .float .f64 0] 38)) T B s) := (H.out.gr g1).gr ((Gr.refl _).alloc _)
  have G1 : Hid (Chg (tw T B) w (w1.alloc (.cells #[.int .i64 v, .float .f64 0] 38))) := Chg.of_gr ((G0.out.trans g1).alloc _)
  clear AY H k0 G0 g1
  go_upto_region 2 with fail
  obtain ⟨b6, hb6⟩ : ∃ b6, b6 = w1.heap.size := ⟨_, rfl⟩
  rw [← hb6] at kk hz hzz ⊢
  clear hb6
  generalize w1.alloc (.cells #[.int .i64 v, .float .f64 0] 38) = W1 at *
  go_wp2_with fail
  go_loopg [19] i (fun gk j wr => ∃ (t : Nat) (es : List Int), j = .int .i64 (t : Int) ∧ t ≤ i ∧ gk = i - t ∧ Hid (pIs wr T B { s with es := es }) ∧ Hid (Moved s i t es) ∧ Hid (Chg (tw T B) w wr) ∧ Hid (Chg (tw T B) W1 wr))
  case atStart => exact ⟨0, s.es, rfl, Nat.zero_le _, rfl, K1, hid0 (Moved.zero PR.out i), G1, Chg.refl _ _⟩
  case round =>
    obtain ⟨t, es, rfl, ht, rfl, K, MV, G, GW⟩ := hrel
    clear K1 G1
    by_cases ct : t < i
    · have ct' : (t : Int) < (i : Int) := by omega
      obtain ⟨u, hu⟩ := MV.out.some PR.out (i - t - 1)
      obtain ⟨u0, hu0⟩ := MV.out.some PR.out (i - t)
      have MV2 := hid0 (MV.out.step PR.out hi ct hu)
      have W1 := hid0 (p_where_d T B _ s.n s.f (i - t) ((i : Int) - (t : Int)) wr K.out rfl rfl (by omega) hn hn2 hf (by omega))
      have W2 := hid0 (p_where_d T B _ s.n s.f (i - t - 1) ((i : Int) - (t : Int) - 1) wr K.out rfl rfl (by omega) hn hn2 hf (by omega))
      have c0 := fun m => below_cell K.out.c0 ((Gr.refl wr).drewN m).below
      have ce := fun m => below_cell (p_el T B _ _ u wr K.out hu).1 ((Gr.refl wr).drewN m).below
      have ce' := fun m => below_cell (p_el T B _ _ u wr K.out hu).2 ((Gr.refl wr).drewN m).below
      have X0 : Hid (∀ m, (wr.drewN m).cell? ⟨B, at_ s.n s.f (i - t) * 2, none⟩ = some (.int .i64 u0)) := fun m => below_cell (p_el T B _ _ u0 wr K.out hu0).1 ((Gr.refl wr).drewN m).below
      have X1 : Hid (∀ m, (wr.drewN m).cell? ⟨B, at_ s.n s.f (i - t) * 2 + 1, none⟩ = some (.float .f64 0)) := fun m => below_cell (p_el T B _ _ u0 wr K.out hu0).2 ((Gr.refl wr).drewN m).below
      have X2 : Hid (∀ m j, (wr.drewN m).frozen? ⟨B, j, none⟩ = false) := fun m j => (K.out.gr ((Gr.refl wr).drewN m)).fzB j
      have K2 : Hid (∀ m, pIs (((wr.drewN m).setCell ⟨B, at_ s.n s.f (i - t) * 2, none⟩ (.int .i64 u)).setCell ⟨B, at_ s.n s.f (i - t) * 2 + 1, none⟩ (.float .f64 0)) T B { s with es := es.set (at_ s.n s.f (i - t)) u }) := fun m => (K.out.gr ((Gr.refl wr).drewN m)).sete2 (fun _ => rfl) _ u
      have G2 : Hid (∀ (V : World), Hid (Chg (tw T B) V wr) → ∀ m, Chg (tw T B) V (((wr.drewN m).setCell ⟨B, at_ s.n s.f (i - t) * 2, none⟩ (.int .i64 u)).setCell ⟨B, at_ s.n s.f (i - t) * 2 + 1, none⟩ (.float .f64 0))) := fun V hV m => ((hV.out.gr ((Gr.refl wr).drewN m)).trans (Chg.set (p := tw T B) (a := ⟨B, at_ s.n s.f (i - t) * 2, none⟩) _ (.inr rfl) _)).trans (Chg.set (p := tw T B) (a := ⟨B, at_ s.n s.f (i - t) * 2 + 1, none⟩) _ (.inr rfl) _)
      have l1 : at_ s.n s.f (i - t) < s.n := at_lt hn
      have l2 : at_ s.n s.f (i - t - 1) < s.n := at_lt hn
      have hi64 : (i : Int) ≤ 65536 := by omega
      clear K MV hu hu0
      generalize at_ s.n s.f (i - t) = x at *
      generalize at_ s.n s.f (i - t - 1) = y at *
      have l1' : (x : Int) < (s.n : Int) := by omega
      have l2' : (y : Int) < (s.n : Int) := by omega
      dsimp only at c0
      go_wp2_with fail
      obtain ⟨nF, hnF⟩ : ∃ nF : Nat, 5 ≤ nF := ⟨5, by omega⟩
      refine (wpIn_wide (n := nF)).1 ?_
      refine region_head_lit 22 (by kernel_rfl) (by kernel_rfl) (by simp) (by kernel_rfl) ?_
      simp only [List.take_succ_cons, List.take_zero, List.drop_succ_cons, List.drop_zero]
      repeat (gi_big_quiet_step (fail))
      refine BigFrame.wpQuietIn_want (by intro w _ f hf; exact trivial) (by rfl) ?_
      intro K hK
      gi_big_quiet_op
      gi_big_quiet_call (exact ⟨fun _ => by omega, callsIn_wide.2 (W1.out _)⟩)
      repeat (gi_big_quiet_step (fail))
      refine BigFrame.wpQuietIn_want (by intro w _ f hf; exact trivial) (by rfl) ?_
      intro K hK
      gi_big_quiet_op
      gi_big_quiet_call (exact ⟨fun _ => by omega, callsIn_wide.2 (W2.out _)⟩)
      repeat (gi_big_quiet_step (fail))
      refine wpQuietIn_nil ?_
      intro _ hw'
      obtain ⟨q, rfl⟩ := hw'
      have y0 := X0.out q
      have y1 := X1.out q
      have y2 := X2.out q (x * 2)
      have y3 := X2.out q (x * 2 + 1)
      have K3 := hid0 (K2.out q)
      have G3 := hid0 (G2.out _ G q)
      have GW3 := hid0 (G2.out _ GW q)
      clear c0 ce ce' X0 X1 X2 W1 W2 K2 G2 G GW
      generalize wr.drewN q = wq at *
      gi_wp2
      go_wp2
      go_roundg (i - (t + 1))
      case measure => omega
      case rel => exact ⟨t + 1, _, by simp, by omega, rfl, K3, MV2, G3, GW3⟩
    · have ct' : ¬ (t : Int) < (i : Int) := by omega
      obtain rfl : t = i := by omega
      obtain ⟨x, PE⟩ := MV.out.pre PR.out hi
      have SH := hid0 (p_shed T B _ wr K.out hn hn2 hf MV.out.len (by show 1 ≤ s.c; omega) hcn)
      have P2 := hid0 PE.shed
      clear K MV PE
      go_wp2_with fail
      refine SH.out.mono ?_
      rintro e w2 ⟨rfl, K, G2⟩
      have PRS := hid0 (p_press T B _ w2 K)
      have G3 := hid0 (G.out.trans G2)
      have GW3 := hid0 (GW.out.trans G2)
      clear SH K G G2 GW
      go_wp2_with fail
      refine PRS.out.mono ?_
      rintro e w3 ⟨rfl, K, G4⟩
      have G5 := hid0 (G3.out.trans (G4.wide (q := tw T B) (fun k _ h => .inl h)))
      have GW5 := GW3.out.trans (G4.wide (q := tw T B) (fun k _ h => .inl h))
      have k4 := K0.out.chg GW5 (by have := HB.out.2; rintro (h | h); exact this.1 h.symm; exact this.2 h.symm)
      have k6 := kk.out.chg GW5 (by have := hzz.out; rintro (h | h); exact this.1 h.symm; exact this.2.1 h.symm)
      obtain ⟨a0, a1, a2, a3⟩ := pz_two k4
      obtain ⟨d0, d1, d2, d3⟩ := pz_two k6
      have P5 := hid0 P2.out.press
      have ne4 : b4 ≠ b6 := by have := hz.out; omega
      have KK := hid0 ((k4.set 0 (.int .i64 v)).set 1 (.float .f64 0))
      simp only [List.set_cons_zero, List.set_cons_succ] at KK
      have G6 : Hid (Chg (tw T B) w ((w3.setCell ⟨b4, 0, none⟩ (.int .i64 v)).setCell ⟨b4, 1, none⟩ (.float .f64 0))) := (G5.out.setNew (x := ⟨b4, 0, none⟩) HB.out.1 _).setNew (x := ⟨b4, 1, none⟩) HB.out.1 _
      have K6 : Hid (pIs ((w3.setCell ⟨b4, 0, none⟩ (.int .i64 v)).setCell ⟨b4, 1, none⟩ (.float .f64 0)) T B _) := ⟨(K.blk.other (a := ⟨b4, 0, none⟩) HB.out.2.1 _).other (a := ⟨b4, 1, none⟩) HB.out.2.1 _, (K.pls.other (a := ⟨b4, 0, none⟩) HB.out.2.2 _).other (a := ⟨b4, 1, none⟩) HB.out.2.2 _, K.ne⟩
      clear PRS K G4 G3 P2 GW3 GW5 k4 k6 G5 K0 kk
      go_wp2
      obtain ⟨e0, e1, _, _⟩ := pz_two KK.out
      exact bodyPost_ret (v := .tuple #[pV v, .bool true]) (by simp [results, Tryd.results35, go_sem, e0, e1]) rfl ⟨rfl, _, P5.out, rfl, rfl, rfl, rfl, ⟨rfl, rfl⟩, K6.out, G6.out⟩
end Go.Proofs.YtodlhclaboofiaaDoor
