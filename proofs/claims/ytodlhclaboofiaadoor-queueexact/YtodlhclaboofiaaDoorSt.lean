/- The ring of texts: Drop, Set. -/
import Derived.Test.YtodlhclaboofiaaDoorSr
set_option linter.unusedSimpArgs false
set_option linter.unusedVariables false
namespace Go.Proofs.YtodlhclaboofiaaDoor
open Go.RowKit Go.Sort

theorem s_set_no (T B : Nat) (s : RS) (i v : Int) (w : World) (h : sIs w T B s) (hn : 1 ≤ s.n) (hi : i < 0 ∨ (s.c : Int) ≤ i) : Calls Tryd.prog 32 #[.pointer (some ⟨T, 0, none⟩), .int .i64 i, sV v] w fun e w' => e = .returned (.bool false) ∧ Gr w w' := by
  have I := hid0 (s_has_no T B s i w h hn hi)
  clear h hi
  go_enter Tryd.func32, Tryd.ntmps32
  go_wp2_with (go_at_call 61; refine I.out.mono ?_; rintro e w1 ⟨rfl, hw⟩; cases hw)
  go_ret
  exact ⟨rfl, Gr.refl _⟩
set_option maxHeartbeats 1000000 in
theorem s_set_yes (T B : Nat) (s : RS) (L : List Int) (i : Nat) (v : Int) (w : World) (h : sIs w T B s) (ok : s.Ok L) (hi : i < s.c) : Calls Tryd.prog 32 #[.pointer (some ⟨T, 0, none⟩), .int .i64 (i : Int), sV v] w fun e w' => e = .returned (.bool true) ∧
    sIs w' T B { s with es := s.es.set (at_ s.n s.f i) v } ∧ Chg (tw T B) w w' := by
  have hn := ok.n1
  have hn2 := ok.n2
  have hf := ok.fn
  have hcn := ok.cn
  have I := hid0 (s_has_yes T B s i w h hn hi)
  have WH := hid0 (s_where_d T B s s.n s.f i (i : Int) w h rfl rfl rfl hn hn2 hf (by omega))
  have l1 : at_ s.n s.f i < s.n := at_lt hn
  obtain ⟨u, hu⟩ : ∃ u, s.es[at_ s.n s.f i]? = some u := ⟨_, List.getElem?_eq_getElem (by rw [ok.len]; exact l1)⟩
  have c0 := fun m => below_cell h.c0 ((Gr.refl w).drewN m).below
  have X0 : Hid (∀ m, (w.drewN m).cell? ⟨B, at_ s.n s.f i, none⟩ = some (sV u)) := fun m => below_cell (s_el T B _ _ u w h hu) ((Gr.refl w).drewN m).below
  have X2 : Hid (∀ m, (w.drewN m).frozen? ⟨B, at_ s.n s.f i, none⟩ = false) := fun m => (h.gr ((Gr.refl w).drewN m)).fzB (at_ s.n s.f i)
  have K1 : Hid (∀ m, sIs ((w.drewN m).setCell ⟨B, at_ s.n s.f i, none⟩ (sV v)) T B { s with es := s.es.set (at_ s.n s.f i) v }) := fun m => (h.gr ((Gr.refl w).drewN m)).sete1 (fun _ => rfl) _ v
  have G1 : Hid (∀ m, Chg (tw T B) w ((w.drewN m).setCell ⟨B, at_ s.n s.f i, none⟩ (sV v))) := fun m => (Chg.of_gr ((Gr.refl w).drewN m)).trans (Chg.set (p := tw T B) (a := ⟨B, at_ s.n s.f i, none⟩) _ (.inr rfl) _)
  clear h ok hu
  generalize at_ s.n s.f i = x at *
  have l1' : (x : Int) < (s.n : Int) := by omega
  go_enter Tryd.func32, Tryd.ntmps32
  go_wp2_with (go_at_call 61; refine I.out.mono ?_; rintro e w1 ⟨rfl, hw⟩; cases hw)
  clear I
  obtain ⟨nF, hnF⟩ : ∃ nF : Nat, 5 ≤ nF := ⟨5, by omega⟩
  refine (wpIn_wide (n := nF)).1 ?_
  refine region_head_lit 9 (by kernel_rfl) (by kernel_rfl) (by simp) (by kernel_rfl) ?_
  simp only [List.take_succ_cons, List.take_zero, List.drop_succ_cons, List.drop_zero]
  repeat (gi_big_quiet_step (fail))
  refine BigFrame.wpQuietIn_want (by intro w _ f hf; exact trivial) (by rfl) ?_
  intro K hK
  gi_big_quiet_op
  gi_big_quiet_call (exact ⟨fun _ => by omega, callsIn_wide.2 (WH.out _)⟩)
  repeat (gi_big_quiet_step (fail))
  refine wpQuietIn_nil ?_
  intro _ hw'
  obtain ⟨q, rfl⟩ := hw'
  have y0 := X0.out q
  have y2 := X2.out q
  gi_wp2
  go_wp2
  go_ret
  exact ⟨rfl, K1.out q, G1.out q⟩
set_option maxHeartbeats 2000000 in
theorem s_drop (T B : Nat) (s : RS) (L : List Int) (m : Int) (k : Nat) (w : World) (h : sIs w T B s) (ok : s.Ok L) (hk : (k : Int) = min (max m 0) (s.c : Int)) :
    Calls Tryd.prog 37 #[.pointer (some ⟨T, 0, none⟩), .int .i64 m] w fun e w' => e = .returned (.int .i64 (k : Int)) ∧ ∃ s', s'.Ok (L.drop k) ∧ s'.n = s.n ∧ s'.pk = s.pk ∧ s'.rf = s.rf ∧ s'.low = s.low ∧ (s'.high = s.high ∧ s'.pr = prOf s.high s.low s.pr s'.c) ∧ sIs w' T B s' ∧ Chg (tw T B) w w' := by
  have I := hid0 (s_absent T B s w h ok.n1)
  have c2 := h.c2
  have hkc : k ≤ s.c := by omega
  have hk6 : (k : Int) ≤ 65536 := by have := ok.cn; have := ok.n2; omega
  have PR : Hid (s.Pre (L.drop 0)) := ok.pre
  have HC : Hid (L.length = s.c) := ok.cL
  have H := hid0 h
  clear h
  have HCC : Hid ((s.c : Int) = (s.c : Int)) := rfl
  clear ok
  go_enter Tryd.func37, Tryd.ntmps37
  go_upto_region 4 with (go_at_call 17; refine I.out.mono ?_; rintro e w1 ⟨rfl, hw⟩; cases hw)
  first
    | rw [← hk]
    | rw [show (if (s.c : Int) < if m < 0 then 0 else m then (s.c : Int) else if m < 0 then 0 else m) = (k : Int) from by rw [hk]; (repeat' split) <;> omega]
  clear hk c2 I
  try generalize max m 0 = mx at *
  try generalize (if m < 0 then (0 : Int) else m) = mx at *
  generalize (s.c : Int) = sc at *
  go_wp2_with fail
  go_loopg [15] k (fun gk j wr => ∃ (t : Nat) (s' : RS), j = .int .i64 (t : Int) ∧ t ≤ k ∧ gk = k - t ∧ Hid (s'.Pre (L.drop t) ∧ s'.n = s.n ∧ s'.pk = s.pk ∧ s'.rf = s.rf ∧ s'.low = s.low ∧ s'.high = s.high ∧ s'.pr = s.pr) ∧ Hid (sIs wr T B s') ∧ Hid (Chg (tw T B) w wr))
  case atStart => exact ⟨0, s, rfl, Nat.zero_le _, rfl, ⟨PR.out, rfl, rfl, rfl, rfl, rfl, rfl⟩, H, Chg.refl _ _⟩
  case round =>
    obtain ⟨t, s', rfl, ht, rfl, FF, K, G⟩ := hrel
    clear PR H
    by_cases ct : t < k
    · have ct' : (t : Int) < (k : Int) := by omega
      have hl : t < L.length := by have := HC.out; omega
      obtain ⟨v, hv⟩ : ∃ v, L.drop t = v :: L.drop (t + 1) := ⟨L[t], List.drop_eq_getElem_cons hl⟩
      have P0 := FF.out.1
      rw [hv] at P0
      have hc1 : 1 ≤ s'.c := by have := P0.cL; simp at this; omega
      have SH := hid0 (s_shed T B s' wr K.out P0.n1 P0.n2 P0.fn P0.len hc1 P0.cn)
      have F2 : Hid (s'.shed.Pre (L.drop (t + 1)) ∧ s'.shed.n = s.n ∧ s'.shed.pk = s.pk ∧ s'.shed.rf = s.rf ∧ s'.shed.low = s.low ∧ s'.shed.high = s.high ∧ s'.shed.pr = s.pr) := ⟨P0.shed, FF.out.2⟩
      clear P0 hv FF K hc1
      go_wp2_with fail
      refine SH.out.mono ?_
      rintro e w2 ⟨rfl, K2, G2⟩
      have K3 := hid0 K2
      have G3 := hid0 (G.out.trans G2)
      clear SH K2 G2 G
      go_wp2
      go_roundg (k - (t + 1))
      case measure => omega
      case rel => exact ⟨t + 1, _, by simp, by omega, rfl, F2, K3, G3⟩
    · have ct' : ¬ (t : Int) < (k : Int) := by omega
      obtain rfl : t = k := by omega
      have PRS := hid0 (s_press T B s' wr K.out)
      clear K
      go_wp2_with fail
      refine PRS.out.mono ?_
      rintro e w3 ⟨rfl, K, G4⟩
      have G5 := hid0 (G.out.trans (G4.wide (q := tw T B) (fun k _ h => .inl h)))
      have K5 := hid0 K
      clear PRS K G4 G
      go_wp2
      go_ret
      exact ⟨rfl, _, FF.out.1.press, FF.out.2.1, FF.out.2.2.1, FF.out.2.2.2.1, FF.out.2.2.2.2.1, ⟨FF.out.2.2.2.2.2.1, by rw [← FF.out.2.2.2.2.2.1, ← FF.out.2.2.2.2.2.2, ← FF.out.2.2.2.2.1]; rfl⟩, K5.out, G5.out⟩
end Go.Proofs.YtodlhclaboofiaaDoor
