/- The ring of pairs: Drop, Set. -/
import Derived.Test.YtodlhclaboofiaaDoorPr
set_option linter.unusedSimpArgs false
set_option linter.unusedVariables false
namespace Go.Proofs.YtodlhclaboofiaaDoor
open Go.RowKit Go.Sort

theorem p_set_no (T B : Nat) (s : RS) (i v : Int) (w : World) (h : pIs w T B s) (hn : 1 ≤ s.n) (hi : i < 0 ∨ (s.c : Int) ≤ i) : Calls Tryd.prog 33 #[.pointer (some ⟨T, 0, none⟩), .int .i64 i, pV v] w fun e w' => e = .returned (.bool false) ∧ Gr w w' := by
  have g0 := (Gr.refl w).alloc (.cells #[.int .i64 v, .float .f64 0] 38)
  replace h := h.gr g0
  have I := hid0 (p_has_no T B s i _ h hn hi)
  have G0 := hid0 g0
  clear h hi g0
  go_enter Tryd.func33, Tryd.ntmps33
  go_wp2_with (go_at_call 62; refine I.out.mono ?_; rintro e w1 ⟨rfl, hw⟩; cases hw)
  go_ret
  exact ⟨rfl, G0.out⟩
set_option maxHeartbeats 1000000 in
theorem p_set_yes (T B : Nat) (s : RS) (L : List Int) (i : Nat) (v : Int) (w : World) (h : pIs w T B s) (ok : s.Ok L) (hi : i < s.c) : Calls Tryd.prog 33 #[.pointer (some ⟨T, 0, none⟩), .int .i64 (i : Int), pV v] w fun e w' => e = .returned (.bool true) ∧
    pIs w' T B { s with es := s.es.set (at_ s.n s.f i) v } ∧ Chg (tw T B) w w' := by
  have hn := ok.n1
  have hn2 := ok.n2
  have hf := ok.fn
  have hcn := ok.cn
  have g0 := (Gr.refl w).alloc (.cells #[.int .i64 v, .float .f64 0] 38)
  have k3 := hid0 (Bk.new w 38 [.int .i64 v, .float .f64 0])
  have G0 : Hid (Chg (tw T B) w (w.alloc (.cells #[.int .i64 v, .float .f64 0] 38))) := Chg.of_gr g0
  replace h := h.gr g0
  clear g0
  have sf := run_store_f
  go_enter Tryd.func33, Tryd.ntmps33
  go_upto_region 1 with fail
  generalize w.heap.size = b3 at *
  generalize w.alloc (.cells #[.int .i64 v, .float .f64 0] 38) = W at *
  have I := hid0 (p_has_yes T B s i W h hn hi)
  have WH := hid0 (p_where_d T B s s.n s.f i (i : Int) W h rfl rfl rfl hn hn2 hf (by omega))
  have l1 : at_ s.n s.f i < s.n := at_lt hn
  obtain ⟨u, hu⟩ : ∃ u, s.es[at_ s.n s.f i]? = some u := ⟨_, List.getElem?_eq_getElem (by rw [ok.len]; exact l1)⟩
  have c0 := fun m => below_cell h.c0 ((Gr.refl W).drewN m).below
  have X0 : Hid (∀ m, (W.drewN m).cell? ⟨B, at_ s.n s.f i * 2, none⟩ = some (.int .i64 u)) := fun m => below_cell (p_el T B _ _ u W h hu).1 ((Gr.refl W).drewN m).below
  have X1 : Hid (∀ m, (W.drewN m).cell? ⟨B, at_ s.n s.f i * 2 + 1, none⟩ = some (.float .f64 0)) := fun m => below_cell (p_el T B _ _ u W h hu).2 ((Gr.refl W).drewN m).below
  have X2 : Hid (∀ m j, (W.drewN m).frozen? ⟨B, j, none⟩ = false) := fun m j => (h.gr ((Gr.refl W).drewN m)).fzB j
  have v0 := fun m => below_cell (pz_two k3.out).1 ((Gr.refl W).drewN m).below
  have v1 := fun m => below_cell (pz_two k3.out).2.1 ((Gr.refl W).drewN m).below
  have K1 : Hid (∀ m, pIs (((W.drewN m).setCell ⟨B, at_ s.n s.f i * 2, none⟩ (.int .i64 v)).setCell ⟨B, at_ s.n s.f i * 2 + 1, none⟩ (.float .f64 0)) T B { s with es := s.es.set (at_ s.n s.f i) v }) := fun m => (h.gr ((Gr.refl W).drewN m)).sete2 (fun _ => rfl) _ v
  have G1 : Hid (∀ m, Chg (tw T B) w (((W.drewN m).setCell ⟨B, at_ s.n s.f i * 2, none⟩ (.int .i64 v)).setCell ⟨B, at_ s.n s.f i * 2 + 1, none⟩ (.float .f64 0))) := fun m => ((G0.out.gr ((Gr.refl W).drewN m)).trans (Chg.set (p := tw T B) (a := ⟨B, at_ s.n s.f i * 2, none⟩) _ (.inr rfl) _)).trans (Chg.set (p := tw T B) (a := ⟨B, at_ s.n s.f i * 2 + 1, none⟩) _ (.inr rfl) _)
  clear h ok hu k3 G0
  generalize hX : at_ s.n s.f i = x at WH X0 X1 X2 K1 G1 l1
  have HX := hid0 hX
  clear hX
  have l1' : (x : Int) < (s.n : Int) := by omega
  go_wp2_with (go_at_call 62; refine I.out.mono ?_; rintro e w1 ⟨rfl, hw⟩; cases hw)
  clear I
  obtain ⟨nF, hnF⟩ : ∃ nF : Nat, 5 ≤ nF := ⟨5, by omega⟩
  refine (wpIn_wide (n := nF)).1 ?_
  refine region_head_lit 9 (by kernel_rfl) (by kernel_rfl) (by simp) (by kernel_rfl) ?_
  simp only [List.take_succ_cons, List.take_zero, List.drop_succ_cons, List.drop_zero]
  repeat (gi_big_quiet_step (fail))
  refine BigFrame.wpQuietIn_want (by intro w _ f hf; exact trivial) (by rfl) ?_
  intro K hK
  gi_big_quiet_op
  gi_big_quiet_call (exact ⟨fun _ => by omega, callsIn_wide.2 (WH.out _)⟩)
  repeat (gi_big_quiet_step (fail))
  refine wpQuietIn_nil ?_
  intro _ hw'
  obtain ⟨q, rfl⟩ := hw'
  have y0 := X0.out q
  have y1 := X1.out q
  have y2 := X2.out q (x * 2)
  have y3 := X2.out q (x * 2 + 1)
  have K2 := hid0 (K1.out q)
  have G2 := hid0 (G1.out q)
  clear c0 v0 v1 X0 X1 X2 K1 G1 WH
  generalize W.drewN q = wq at *
  gi_wp2
  go_wp2
  go_ret
  exact ⟨rfl, by rw [HX.out]; exact K2.out, G2.out⟩
set_option maxHeartbeats 2000000 in
theorem p_drop (T B : Nat) (s : RS) (L : List Int) (m : Int) (k : Nat) (w : World) (h : pIs w T B s) (ok : s.Ok L) (hk : (k : Int) = min (max m 0) (s.c : Int)) :
    Calls Tryd.prog 38 #[.pointer (some ⟨T, 0, none⟩), .int .i64 m] w fun e w' => e = .returned (.int .i64 (k : Int)) ∧ ∃ s', s'.Ok (L.drop k) ∧ s'.n = s.n ∧ s'.pk = s.pk ∧ s'.rf = s.rf ∧ s'.low = s.low ∧ (s'.high = s.high ∧ s'.pr = prOf s.high s.low s.pr s'.c) ∧ pIs w' T B s' ∧ Chg (tw T B) w w' := by
  have I := hid0 (p_absent T B s w h ok.n1)
  have c2 := h.c2
  have hkc : k ≤ s.c := by omega
  have hk6 : (k : Int) ≤ 65536 := by have := ok.cn; have := ok.n2; omega
  have PR : Hid (s.Pre (L.drop 0)) := ok.pre
  have HC : Hid (L.length = s.c) := ok.cL
  have H := hid0 h
  clear h
  have HCC : Hid ((s.c : Int) = (s.c : Int)) := rfl
  clear ok
  go_enter Tryd.func38, Tryd.ntmps38
  go_upto_region 4 with (go_at_call 58; refine I.out.mono ?_; rintro e w1 ⟨rfl, hw⟩; cases hw)
  first
    | rw [← hk]
    | rw [show (if (s.c : Int) < if m < 0 then 0 else m then (s.c : Int) else if m < 0 then 0 else m) = (k : Int) from by rw [hk]; (repeat' split) <;> omega]
  clear hk c2 I
  try generalize max m 0 = mx at *
  try generalize (if m < 0 then (0 : Int) else m) = mx at *
  generalize (s.c : Int) = sc at *
  go_wp2_with fail
  go_loopg [15] k (fun gk j wr => ∃ (t : Nat) (s' : RS), j = .int .i64 (t : Int) ∧ t ≤ k ∧ gk = k - t ∧ Hid (s'.Pre (L.drop t) ∧ s'.n = s.n ∧ s'.pk = s.pk ∧ s'.rf = s.rf ∧ s'.low = s.low ∧ s'.high = s.high ∧ s'.pr = s.pr) ∧ Hid (pIs wr T B s') ∧ Hid (Chg (tw T B) w wr))
  case atStart => exact ⟨0, s, rfl, Nat.zero_le _, rfl, ⟨PR.out, rfl, rfl, rfl, rfl, rfl, rfl⟩, H, Chg.refl _ _⟩
  case round =>
    obtain ⟨t, s', rfl, ht, rfl, FF, K, G⟩ := hrel
    clear PR H
    by_cases ct : t < k
    · have ct' : (t : Int) < (k : Int) := by omega
      have hl : t < L.length := by have := HC.out; omega
      obtain ⟨v, hv⟩ : ∃ v, L.drop t = v :: L.drop (t + 1) := ⟨L[t], List.drop_eq_getElem_cons hl⟩
      have P0 := FF.out.1
      rw [hv] at P0
      have hc1 : 1 ≤ s'.c := by have := P0.cL; simp at this; omega
      have SH := hid0 (p_shed T B s' wr K.out P0.n1 P0.n2 P0.fn P0.len hc1 P0.cn)
      have F2 : Hid (s'.shed.Pre (L.drop (t + 1)) ∧ s'.shed.n = s.n ∧ s'.shed.pk = s.pk ∧ s'.shed.rf = s.rf ∧ s'.shed.low = s.low ∧ s'.shed.high = s.high ∧ s'.shed.pr = s.pr) := ⟨P0.shed, FF.out.2⟩
      clear P0 hv FF K hc1
      go_wp2_with fail
      refine SH.out.mono ?_
      rintro e w2 ⟨rfl, K2, G2⟩
      have K3 := hid0 K2
      have G3 := hid0 (G.out.trans G2)
      clear SH K2 G2 G
      go_wp2
      go_roundg (k - (t + 1))
      case measure => omega
      case rel => exact ⟨t + 1, _, by simp, by omega, rfl, F2, K3, G3⟩
    · have ct' : ¬ (t : Int) < (k : Int) := by omega
      obtain rfl : t = k := by omega
      have PRS := hid0 (p_press T B s' wr K.out)
      clear K
      go_wp2_with fail
      refine PRS.out.mono ?_
      rintro e w3 ⟨rfl, K, G4⟩
      have G5 := hid0 (G.out.trans (G4.wide (q := tw T B) (fun k _ h => .inl h)))
      have K5 := hid0 K
      clear PRS K G4 G
      go_wp2
      go_ret
      exact ⟨rfl, _, FF.out.1.press, FF.out.2.1, FF.out.2.2.1, FF.out.2.2.2.1, FF.out.2.2.2.2.1, ⟨FF.out.2.2.2.2.2.1, by rw [← FF.out.2.2.2.2.2.1, ← FF.out.2.2.2.2.2.2, ← FF.out.2.2.2.2.1]; rfl⟩, K5.out, G5.out⟩
end Go.Proofs.YtodlhclaboofiaaDoor
