/- The ring of texts: All, as it is asked for; Refused. -/
import Derived.Test.YtodlhclaboofiaaDoorSm
set_option linter.unusedSimpArgs false
set_option linter.unusedVariables false
namespace Go.Proofs.YtodlhclaboofiaaDoor
open Go.RowKit Go.Sort

theorem s_refused (T B : Nat) (s : RS) (w : World) (h : sIs w T B s) (hn : 1 ≤ s.n) : Calls Tryd.prog 45 #[.pointer (some ⟨T, 0, none⟩)] w fun e w' => e = .returned (.int .i64 (s.rf : Int)) ∧ w' = w := by
  have I := hid0 (s_absent T B s w h hn)
  have c2 := h.c7
  clear h
  generalize (s.rf : Int) = c at *
  go_enter Tryd.func45, Tryd.ntmps45
  go_wp2_with (go_at_call 17; refine I.out.mono ?_; rintro e w1 ⟨rfl, rfl⟩)
  go_ret
  exact ⟨rfl, rfl⟩
theorem s_row (n : Nat) : (madeCells #[sV 0] n).toList = (List.replicate n (0 : Int)).flatMap senc := by
  have := s_made n
  exact this
set_option maxHeartbeats 4000000 in
theorem s_all (T B : Nat) (s : RS) (L : List Int) (w : World) (h : sIs w T B s) (ok : s.Ok L) :
    Calls Tryd.prog 9 #[.pointer (some ⟨T, 0, none⟩)] w fun e w' => ∃ b N, e = .returned (.func (.func 20) #[] #[.pointer (some ⟨b, 0, none⟩)]) ∧ w.heap.size ≤ b ∧ w.heap.size ≤ N ∧ sKept w' b N L ∧ Gr w w' := by
  have hn := ok.n1
  have hn2 := ok.n2
  have hf := ok.fn
  have hcn := ok.cn
  have OK := hid0 ok
  have I := hid0 (s_len T B s w h hn)
  have MK := s_make s.c (by omega) w
  rw [sV_zero] at MK
  have g : Gr w ((w.alloc (.cells (madeCells #[.string ⟨#[]⟩] s.c) 9)).alloc (.cells #[.slice (some ⟨w.heap.size, 0, none⟩) s.c s.c] 61)) := ((Gr.refl w).alloc _).alloc _
  have kN : Bk ((w.alloc (.cells (madeCells #[.string ⟨#[]⟩] s.c) 9)).alloc (.cells #[.slice (some ⟨w.heap.size, 0, none⟩) s.c s.c] 61)) w.heap.size 9 ((List.replicate s.c (0 : Int)).flatMap senc) := by
    rw [← s_row, sV_zero]
    exact (Bk.new w 9 _).alloc _
  have kb := Bk.new (w.alloc (.cells (madeCells #[.string ⟨#[]⟩] s.c) 9)) 61 [.slice (some ⟨w.heap.size, 0, none⟩) s.c s.c]
  rw [World.size_alloc] at kb
  have H := hid0 (h.gr g)
  have KN := hid0 kN
  have KB := hid0 kb
  have G := hid0 g
  have hN : Hid (w.heap.size ≤ w.heap.size ∧ w.heap.size ≤ w.heap.size + 1 ∧ T ≠ w.heap.size ∧ B ≠ w.heap.size ∧ w.heap.size ≠ w.heap.size + 1) := ⟨Nat.le_refl _, by omega, by have := h.lt.1; omega, by have := h.lt.2; omega, by omega⟩
  clear h ok kN kb g
  go_enter Tryd.func9, Tryd.ntmps9
  go_upto_region 2 with (go_at_call 18; refine I.out.mono ?_; rintro e w1 ⟨rfl, hw⟩; cases hw)
  clear I MK
  obtain ⟨N, hNe⟩ : ∃ N, N = w.heap.size := ⟨_, rfl⟩
  obtain ⟨b, hbe⟩ : ∃ b, b = w.heap.size + 1 := ⟨_, rfl⟩
  have HN : Hid (w.heap.size ≤ N ∧ w.heap.size ≤ b ∧ T ≠ N ∧ B ≠ N ∧ N ≠ b) := by rw [hNe, hbe]; exact hN.out
  rw [← hbe] at KB ⊢
  rw [← hNe] at KN H G KB ⊢
  clear hN hNe hbe
  generalize (w.alloc (.cells (madeCells #[.string ⟨#[]⟩] s.c) 9)).alloc (.cells #[.slice (some ⟨N, 0, none⟩) s.c s.c] 61) = W at *
  have c0 := KB.out.one
  go_wp2_with fail
  go_loopg [10] s.c (fun gk j wr => ∃ (t : Nat) (es : List Int), j = .int .i64 (t : Int) ∧ t ≤ s.c ∧ gk = s.c - t ∧ Hid (es.length = s.c ∧ ∀ i, i < t → es[i]? = L[i]?) ∧ Hid (Bk wr N 9 (es.flatMap senc)) ∧ Hid (Bk wr b 61 [.slice (some ⟨N, 0, none⟩) s.c s.c]) ∧ Hid (sIs wr T B s) ∧ Hid (Gr w wr))
  case atStart => exact ⟨0, _, rfl, Nat.zero_le _, rfl, ⟨by simp, fun i hi => by omega⟩, KN, KB, H, G⟩
  case round =>
    obtain ⟨t, es, rfl, ht, rfl, ES, KN, KB, H, G⟩ := hrel
    clear c0
    by_cases ct : t < s.c
    · have ct' : (t : Int) < (s.c : Int) := by omega
      obtain ⟨v, hv, hes⟩ := OK.out.pre.at ct
      have WH := hid0 (s_where_d T B s s.n s.f t (t : Int) wr H.out rfl rfl rfl hn hn2 hf (by omega))
      have l1 : at_ s.n s.f t < s.n := at_lt hn
      have c0 := fun m => below_cell H.out.c0 ((Gr.refl wr).drewN m).below
      have cb := fun m => below_cell KB.out.one ((Gr.refl wr).drewN m).below
      have ce := fun m => below_cell (s_el T B _ _ v wr H.out hes) ((Gr.refl wr).drewN m).below
      obtain ⟨u, hu⟩ : ∃ u, es[t]? = some u := ⟨_, List.getElem?_eq_getElem (by have := ES.out.1; omega)⟩
      have X0 : Hid (∀ m, (wr.drewN m).cell? ⟨N, t, none⟩ = some (sV u)) := fun m => below_cell (s_row_at KN.out hu) ((Gr.refl wr).drewN m).below
      have X2 : Hid (∀ m, (wr.drewN m).frozen? ⟨N, t, none⟩ = false) := fun m => (KN.out.gr ((Gr.refl wr).drewN m)).frozen t
      have K1 : Hid (∀ m, Bk ((wr.drewN m).setCell ⟨N, t, none⟩ (sV v)) N 9 ((es.set t v).flatMap senc)) := fun m => by
        rw [flat_set1 (enc := senc) (g := sV) (fun _ => rfl)]
        exact (KN.out.gr ((Gr.refl wr).drewN m)).set t _
      have K2 : Hid (∀ m, Bk ((wr.drewN m).setCell ⟨N, t, none⟩ (sV v)) b 61 [.slice (some ⟨N, 0, none⟩) s.c s.c]) := fun m => (KB.out.gr ((Gr.refl wr).drewN m)).other (a := ⟨N, t, none⟩) HN.out.2.2.2.2.symm _
      have K3 : Hid (∀ m, sIs ((wr.drewN m).setCell ⟨N, t, none⟩ (sV v)) T B s) := fun m => by
        have k := H.out.gr ((Gr.refl wr).drewN m)
        exact ⟨k.blk.other (a := ⟨N, t, none⟩) HN.out.2.2.1 _, k.pls.other (a := ⟨N, t, none⟩) HN.out.2.2.2.1 _, k.ne⟩
      have G1 : Hid (∀ m, Gr w ((wr.drewN m).setCell ⟨N, t, none⟩ (sV v))) := fun m => (G.out.drewN m).setCell (p := ⟨N, t, none⟩) HN.out.1 _
      have ES2 : Hid ((es.set t v).length = s.c ∧ ∀ i, i < t + 1 → (es.set t v)[i]? = L[i]?) := ⟨by simpa using ES.out.1, fun i hi => by
        by_cases e : i = t
        · subst e
          rw [List.getElem?_set_self (by have := ES.out.1; omega), hv]
        · rw [List.getElem?_set_ne (fun x => e x.symm)]
          exact ES.out.2 i (by omega)⟩
      have ht6 : (t : Int) ≤ 65536 := by omega
      clear ES KN KB H G hv hes hu
      generalize at_ s.n s.f t = x at *
      have l1' : (x : Int) < (s.n : Int) := by omega
      go_wp2_with fail
      obtain ⟨nF, hnF⟩ : ∃ nF : Nat, 5 ≤ nF := ⟨5, by omega⟩
      refine (wpIn_wide (n := nF)).1 ?_
      refine region_head_lit 12 (by kernel_rfl) (by kernel_rfl) (by simp) (by kernel_rfl) ?_
      simp only [List.take_succ_cons, List.take_zero, List.drop_succ_cons, List.drop_zero]
      repeat (gi_big_quiet_step (fail))
      refine BigFrame.wpQuietIn_want (by intro w _ f hf; exact trivial) (by rfl) ?_
      intro K hK
      gi_big_quiet_op
      gi_big_quiet_call (exact ⟨fun _ => by omega, callsIn_wide.2 (WH.out _)⟩)
      repeat (gi_big_quiet_step (fail))
      refine wpQuietIn_nil ?_
      intro _ hw'
      obtain ⟨q, rfl⟩ := hw'
      have y0 := X0.out q
      have y2 := X2.out q
      have k1 := hid0 (K1.out q)
      have k2 := hid0 (K2.out q)
      have k3 := hid0 (K3.out q)
      have g1 := hid0 (G1.out q)
      clear c0 cb ce X0 X2 K1 K2 K3 G1 WH
      generalize wr.drewN q = wq at *
      gi_wp2
      go_wp2
      go_roundg (s.c - (t + 1))
      case measure => omega
      case rel => exact ⟨t + 1, _, by simp, by omega, rfl, ES2, k1, k2, k3, g1⟩
    · have ct' : ¬ (t : Int) < (s.c : Int) := by omega
      obtain rfl : t = s.c := by omega
      have hL : Hid (es = L) := by
        show es = L
        refine List.ext_getElem? fun i => ?_
        by_cases e : i < s.c
        · exact ES.out.2 i e
        · rw [List.getElem?_eq_none (by have := ES.out.1; omega), List.getElem?_eq_none (by have := OK.out.cL; omega)]
      have KK : Hid (sKept wr b N L) := by
        refine ⟨?_, by rw [← hL.out]; exact KN.out⟩
        have := KB.out
        rw [← OK.out.cL] at this
        exact this
      clear ES KN KB H hL
      go_wp2
      go_ret
      exact ⟨b, rfl, HN.out.2.1, N, HN.out.1, KK.out, G.out⟩
end Go.Proofs.YtodlhclaboofiaaDoor
