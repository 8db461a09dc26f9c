/- QueueOrder's walk. -/
import Derived.Test.YtodlhclaboofiaaWk
set_option linter.unusedSimpArgs false
set_option linter.unusedVariables false
namespace Go.Proofs.Ytodlhclaboofiaa
open Go.RowKit Go.Sort

/-- The numbers from o on. -/
def seqL (o c : Nat) : List Int := (List.range' o c).map Int.ofNat
theorem seqL_push (o c : Nat) : seqL o c ++ [((o + c : Nat) : Int)] = seqL o (c + 1) := by
  unfold seqL
  rw [List.range'_concat]
  simp
theorem seqL_pop (o c : Nat) : seqL o (c + 1) = (o : Int) :: seqL (o + 1) c := by
  unfold seqL
  rw [List.range'_succ]
  simp
/-- Bools that a slice reads. -/
def Bits (w : World) (ao : Option Addr) (l : List Bool) : Prop := ∀ k x, l[k]? = some x → ∃ b off, ao = some ⟨b, off, none⟩ ∧ w.cell? ⟨b, off + k, none⟩ = some (.bool x)
theorem Bits.below {w w' : World} {ao : Option Addr} {l : List Bool} (h : Bits w ao l) (g : Below w.heap.size w w') : Bits w' ao l := fun k x hx => by
  obtain ⟨b, off, e, h0⟩ := h k x hx
  exact ⟨b, off, e, below_cell h0 g⟩
theorem order_no (p : Int) (al : Option Addr) (N cl : Nat) (w : World) (hp : p < 1 ∨ 65536 < p) :
    Calls Try.prog 3 #[.int .i64 p, .slice al N cl] w fun e w' => e = .returned (.bool true) ∧ Below w.heap.size w w' := by
  have NW := hid0 (i_new_no p w hp)
  have WK := hid0 (works_any w)
  by_cases c : p < 1
  · clear hp
    go_enter Try.func3, Try.ntmps3
    go_wp2_with fail
    refine NW.out.mono ?_
    rintro e w1 ⟨rfl, hw⟩
    cases hw
    go_wp2_with fail
    refine WK.out.mono ?_
    rintro e w1 ⟨rfl, hb⟩
    go_wp2
    go_ret
    exact ⟨rfl, hb⟩
  · have e1 : decide ((65536 : Int) < p) = true := by simp; omega
    clear hp
    go_enter Try.func3, Try.ntmps3
    go_wp2_with fail
    refine NW.out.mono ?_
    rintro e w1 ⟨rfl, hw⟩
    cases hw
    go_wp2_with fail
    refine WK.out.mono ?_
    rintro e w1 ⟨rfl, hb⟩
    go_wp2
    go_ret
    exact ⟨rfl, hb⟩
/-- What holds between two rounds. -/
structure OrI (w wr : World) (T B n k o : Nat) (s : RS) : Prop where
  ring : iIs wr T B s
  ok : s.Ok (seqL o s.c)
  n : s.n = n
  few : o + s.c ≤ k
  rf : s.rf ≤ k
  tb : w.heap.size ≤ T ∧ w.heap.size ≤ B
  ch : Chg (tw T B) w wr
theorem OrI.below {w wr : World} {T B n k o : Nat} {s : RS} (h : OrI w wr T B n k o s) : Below w.heap.size w wr := h.ch.below (Nat.le_refl _) (by rintro k (rfl | rfl); exact h.tb.1; exact h.tb.2)
set_option maxRecDepth 100000 in
set_option maxHeartbeats 8000000 in
theorem order_yes (n : Nat) (l : List Bool) (al : Option Addr) (cl : Nat) (w : World) (h1 : 1 ≤ n) (h2 : n ≤ 65536) (hl : Bits w al l) (hN : l.length ≤ 140737488351232) :
    Calls Try.prog 3 #[.int .i64 (n : Int), .slice al l.length cl] w fun e w' => e = .returned (.bool true) ∧ Below w.heap.size w w' := by
  obtain ⟨N, hN'⟩ : ∃ N, N = l.length := ⟨_, rfl⟩
  have HN := hid0 hN'
  rw [← hN'] at hN ⊢
  clear hN'
  have HL := hid0 hl
  have NW := hid0 (i_new_yes n w h1 h2)
  have e1 : decide ((n : Int) < 1) = false := by simp; omega
  have e2 : decide ((65536 : Int) < (n : Int)) = false := by simp; omega
  clear hl
  go_enter Try.func3, Try.ntmps3
  go_wp2_with fail
  refine NW.out.mono ?_
  rintro e w1 ⟨T, B, rfl, hT, hB, K, g⟩
  have INV : Hid (OrI w w1 T B n 0 0 (RS.made n)) := ⟨K, RS.made_ok n h1 h2, rfl, by show 0 + 0 ≤ 0; omega, Nat.le_refl _, ⟨hT, hB⟩, Chg.of_gr g⟩
  clear NW hT hB K g
  have hpn : decide ((RS.made n).pk = n) = false := by show decide (0 = n) = false; simp; omega
  go_wp2_with fail
  go_loopg [9, 10, 11, 12] N (fun gk iv ov fv kv wr => ∃ (k o : Nat) (s : RS) (I O : Int), iv = .int .i64 I ∧ ov = .int .i64 O ∧ fv = .bool (decide (s.pk = n)) ∧ kv = .int .i64 (k : Int) ∧ k ≤ N ∧ gk = N - k ∧ Hid (I = (o : Int) + (s.c : Int)) ∧ Hid (O = (o : Int)) ∧ Hid (OrI w wr T B n k o s))
  case atStart => exact ⟨0, 0, RS.made n, 0, 0, rfl, rfl, by rw [hpn], rfl, Nat.zero_le _, rfl, rfl, rfl, INV⟩
  case round =>
    obtain ⟨k, o, s, I, O, rfl, rfl, rfl, rfl, hk, rfl, HI, HO, INV⟩ := hrel
    have hsz : s.c ≤ n ∧ o + s.c ≤ k := by have := INV.out.ok.cn; have := INV.out.n; exact ⟨by omega, INV.out.few⟩
    have b1 : 0 ≤ O := by have := HO.out; omega
    have b2 : O ≤ I := by have := HO.out; have := HI.out; omega
    have b3 : I ≤ 140737488351232 := by have := HI.out; omega
    have b4 : I - O ≤ 65536 := by have := HO.out; have := HI.out; omega
    clear hpn
    by_cases ck : k < N
    · have ck' : (k : Int) < (N : Int) := by omega
      obtain ⟨x, hx⟩ : ∃ x, l[k]? = some x := ⟨l[k]'(by have := HN.out; omega), List.getElem?_eq_getElem _⟩
      obtain ⟨bl, ol, rfl, cc⟩ := (HL.out.below INV.out.below) k x hx
      clear hx
      cases x with
      | true =>
        by_cases cf : s.c = n
        · have t1 : decide (I - O < (n : Int)) = false := by have := HO.out; have := HI.out; simp; omega
          have PF := hid0 (i_push_full T B s I wr INV.out.ring INV.out.ok.n1 INV.out.ok.n2 (by rw [INV.out.n]; exact cf) INV.out.ok.rf2)
          have hpk : s.pk = n := by have h3 := INV.out.ok.pk1; have h4 := INV.out.ok.pk2; have h5 := INV.out.n; omega
          have hpk' : decide (s.pk = n) = true := by simpa using hpk
          clear hpk
          rw [hpk']
          go_wp2_with fail
          refine PF.out.mono ?_
          rintro e w2 ⟨rfl, K2, G2⟩
          have INV2 : Hid (OrI w w2 T B n (k + 1) o { s with rf := s.rf + 1 }) := ⟨K2, INV.out.ok.refused (by have := INV.out.rf; omega), INV.out.n, by have := INV.out.few; show o + s.c ≤ k + 1; omega, by have := INV.out.rf; show s.rf + 1 ≤ k + 1; omega, INV.out.tb, INV.out.ch.trans (G2.wide (q := tw T B) (fun k _ h => .inl h))⟩
          have HI2 := HI
          have HO2 := HO
          clear PF K2 G2 INV
          have LN := hid0 (i_len T B _ w2 INV2.out.ring INV2.out.ok.n1)
          have q0 : ((s.c : Nat) : Int) = I - O := by have := HO2.out; have := HI2.out; omega
          have q2 : decide ((n : Int) < I - O) = false := by have := INV2.out.ok.cn; have := INV2.out.n; simp; omega
          try dsimp only at LN
          rw [q0] at LN
          clear q0
          go_wp2_with fail
          refine LN.out.mono ?_
          rintro e w3 ⟨rfl, hw⟩
          cases hw
          go_wp2_with fail
          refine LN.out.mono ?_
          rintro e w3 ⟨rfl, hw⟩
          cases hw
          clear LN
          go_wp2
          go_roundg (N - (k + 1))
          case measure => omega
          case rel => exact ⟨k + 1, o, { s with rf := s.rf + 1 }, I, O, rfl, rfl, by show _ = Value.bool (decide (s.pk = n)); rw [hpk'], by simp, by omega, rfl, HI, HO, INV2⟩
        · have t1 : decide (I - O < (n : Int)) = true := by have := HO.out; have := HI.out; simp; omega
          have PF := hid0 (i_push_yes T B s _ I wr INV.out.ring INV.out.ok (by rw [INV.out.n]; omega))
          have hI : Hid (I = ((o + s.c : Nat) : Int)) := by have := HI.out; show I = _; omega
          rw [show [I] = [((o + s.c : Nat) : Int)] by rw [hI.out], seqL_push] at PF
          have tt : Hid ((decide (s.pk = n) || (I + 1 - O == (n : Int))) = decide (max s.pk (s.c + 1) = n)) := by
            have h3 := INV.out.ok.pk2
            have h5 := INV.out.n
            have := HO.out
            have := HI.out
            show (decide (s.pk = n) || (I + 1 - O == (n : Int))) = decide (max s.pk (s.c + 1) = n)
            rw [Bool.eq_iff_iff]
            simp
            omega
          go_wp2_with fail
          refine PF.out.mono ?_
          rintro e w2 ⟨rfl, s2, ok2, n2, p2, r2, _, _, K2, G2⟩
          have hc2 : s2.c = s.c + 1 := by have := ok2.cL; simpa [seqL] using this.symm
          have INV2 : Hid (OrI w w2 T B n (k + 1) o s2) := ⟨K2, by rw [hc2]; exact ok2, n2.trans INV.out.n, by have := INV.out.few; omega, by have := INV.out.rf; omega, INV.out.tb, INV.out.ch.trans G2⟩
          have HI2 : Hid (I + 1 = (o : Int) + (s2.c : Int)) := by have := HI.out; show I + 1 = _; omega
          have HO2 := HO
          have P2 := hid0 p2
          clear PF K2 G2 INV ok2 n2 p2 r2 hc2
          by_cases hfu : s.pk = n
          · have hfu' : decide (s.pk = n) = true := by simpa using hfu
            rw [hfu', Bool.true_or] at tt
            rw [hfu']
            clear hfu
            have LN := hid0 (i_len T B s2 w2 INV2.out.ring INV2.out.ok.n1)
            have q0 : ((s2.c : Nat) : Int) = (I + 1) - O := by have := HO2.out; have := HI2.out; omega
            have q2 : decide ((n : Int) < (I + 1) - O) = false := by have := INV2.out.ok.cn; have := INV2.out.n; simp; omega
            try dsimp only at LN
            rw [q0] at LN
            clear q0
            go_wp2_with fail
            refine LN.out.mono ?_
            rintro e w3 ⟨rfl, hw⟩
            cases hw
            go_wp2_with fail
            refine LN.out.mono ?_
            rintro e w3 ⟨rfl, hw⟩
            cases hw
            clear LN
            go_wp2
            go_roundg (N - (k + 1))
            case measure => omega
            case rel => exact ⟨k + 1, o, s2, I + 1, O, rfl, rfl, by rw [P2.out, ← tt.out], by simp, by omega, rfl, HI2, HO, INV2⟩
          · have hfu' : decide (s.pk = n) = false := by simpa using hfu
            rw [hfu', Bool.false_or] at tt
            rw [hfu']
            clear hfu
            have tt2 : Hid ((I + 1 - O == (n : Int)) = decide (s2.pk = n)) := by rw [P2.out]; exact tt.out
            clear tt P2
            have LN := hid0 (i_len T B s2 w2 INV2.out.ring INV2.out.ok.n1)
            have q0 : ((s2.c : Nat) : Int) = (I + 1) - O := by have := HO2.out; have := HI2.out; omega
            have q2 : decide ((n : Int) < (I + 1) - O) = false := by have := INV2.out.ok.cn; have := INV2.out.n; simp; omega
            try dsimp only at LN
            rw [q0] at LN
            clear q0
            go_wp2_with fail
            refine LN.out.mono ?_
            rintro e w3 ⟨rfl, hw⟩
            cases hw
            go_wp2_with fail
            refine LN.out.mono ?_
            rintro e w3 ⟨rfl, hw⟩
            cases hw
            clear LN
            go_wp2
            go_roundg (N - (k + 1))
            case measure => omega
            case rel => exact ⟨k + 1, o, s2, I + 1, O, rfl, rfl, by rw [← tt2.out], by simp, by omega, rfl, HI2, HO, INV2⟩
      | false =>
        by_cases cf : s.c = 0
        · have t1 : decide (O < I) = false := by have := HO.out; have := HI.out; simp; omega
          have PF := hid0 (i_pop_no T B s wr INV.out.ring INV.out.ok.n1 cf)
          go_wp2_with fail
          refine PF.out.mono ?_
          rintro e w2 ⟨rfl, hw⟩
          cases hw
          have INV2 : Hid (OrI w wr T B n (k + 1) o s) := ⟨INV.out.ring, INV.out.ok, INV.out.n, by have := INV.out.few; omega, by have := INV.out.rf; omega, INV.out.tb, INV.out.ch⟩
          have HI2 := HI
          have HO2 := HO
          clear PF INV
          have LN := hid0 (i_len T B s wr INV2.out.ring INV2.out.ok.n1)
          have q0 : ((s.c : Nat) : Int) = I - O := by have := HO2.out; have := HI2.out; omega
          have q2 : decide ((n : Int) < I - O) = false := by have := INV2.out.ok.cn; have := INV2.out.n; simp; omega
          try dsimp only at LN
          rw [q0] at LN
          clear q0
          go_wp2_with fail
          refine LN.out.mono ?_
          rintro e w3 ⟨rfl, hw⟩
          cases hw
          go_wp2_with fail
          refine LN.out.mono ?_
          rintro e w3 ⟨rfl, hw⟩
          cases hw
          clear LN
          go_wp2
          go_roundg (N - (k + 1))
          case measure => omega
          case rel => exact ⟨k + 1, o, s, I, O, rfl, rfl, rfl, by simp, by omega, rfl, HI, HO, INV2⟩
        · have t1 : decide (O < I) = true := by have := HO.out; have := HI.out; simp; omega
          obtain ⟨d, hd⟩ : ∃ d, s.c = d + 1 := ⟨s.c - 1, by omega⟩
          have PF := hid0 (i_pop_yes T B s (seqL (o + 1) d) (o : Int) wr INV.out.ring (by rw [← seqL_pop, ← hd]; exact INV.out.ok))
          rw [show ((o : Nat) : Int) = O from HO.out.symm] at PF
          go_wp2_with fail
          refine PF.out.mono ?_
          rintro e w2 ⟨rfl, s2, ok2, n2, p2, r2, _, _, K2, G2⟩
          have hc2 : s2.c = d := by have := ok2.cL; simpa [seqL] using this.symm
          have INV2 : Hid (OrI w w2 T B n (k + 1) (o + 1) s2) := ⟨K2, by rw [hc2]; exact ok2, n2.trans INV.out.n, by have := INV.out.few; omega, by have := INV.out.rf; omega, INV.out.tb, INV.out.ch.trans G2⟩
          have HI2 : Hid (I = ((o + 1 : Nat) : Int) + (s2.c : Int)) := by have := HI.out; show I = _; omega
          have HO2 : Hid (O + 1 = ((o + 1 : Nat) : Int)) := by have := HO.out; show O + 1 = _; omega
          have P2 := hid0 p2
          clear PF K2 G2 INV ok2 n2 p2 r2 hc2
          have LN := hid0 (i_len T B s2 w2 INV2.out.ring INV2.out.ok.n1)
          have q0 : ((s2.c : Nat) : Int) = I - (O + 1) := by have := HO2.out; have := HI2.out; omega
          have q2 : decide ((n : Int) < I - (O + 1)) = false := by have := INV2.out.ok.cn; have := INV2.out.n; simp; omega
          try dsimp only at LN
          rw [q0] at LN
          clear q0
          go_wp2_with fail
          refine LN.out.mono ?_
          rintro e w3 ⟨rfl, hw⟩
          cases hw
          go_wp2_with fail
          refine LN.out.mono ?_
          rintro e w3 ⟨rfl, hw⟩
          cases hw
          clear LN
          go_wp2
          go_roundg (N - (k + 1))
          case measure => omega
          case rel => exact ⟨k + 1, o + 1, s2, I, O + 1, rfl, rfl, by rw [P2.out], by simp, by omega, rfl, HI2, HO2, INV2⟩
    · have ck' : ¬ (k : Int) < (N : Int) := by omega
      have PK := hid0 (i_peak T B s wr INV.out.ring INV.out.ok.n1)
      have WK := hid0 (works_any wr)
      have hb := hid0 INV.out.below
      clear INV HI HO hsz b1 b2 b3 b4
      by_cases hfu : s.pk = n
      · have hfu' : decide (s.pk = n) = true := by simpa using hfu
        rw [hfu']
        rw [hfu] at PK
        clear hfu
        go_wp2_with fail
        refine PK.out.mono ?_
        rintro e w2 ⟨rfl, hw⟩
        cases hw
        go_wp2_with fail
        refine WK.out.mono ?_
        rintro e w2 ⟨rfl, h2⟩
        go_wp2
        go_ret
        exact ⟨rfl, hb.out.trans (h2.mono hb.out.size)⟩
      · have hfu' : decide (s.pk = n) = false := by simpa using hfu
        have hfi : (((s.pk : Nat) : Int) == (n : Int)) = false := by simp; omega
        rw [hfu']
        clear hfu
        go_wp2_with fail
        refine PK.out.mono ?_
        rintro e w2 ⟨rfl, hw⟩
        cases hw
        go_wp2_with fail
        refine WK.out.mono ?_
        rintro e w2 ⟨rfl, h2⟩
        go_wp2
        go_ret
        exact ⟨rfl, hb.out.trans (h2.mono hb.out.size)⟩
end Go.Proofs.Ytodlhclaboofiaa
