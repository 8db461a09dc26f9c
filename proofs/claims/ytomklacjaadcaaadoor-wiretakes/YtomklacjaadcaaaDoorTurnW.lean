/- The law WireTurned, walked. -/
import Derived.Test.YtomklacjaadcaaaDoorWorks
import Derived.Test.YtomklacjaadcaaaDoorTurnP
namespace Go.Proofs.YtomklacjaadcaaaDoor
open Go.RowKit Go.Sort

def xL (ao : Option Addr) (n cap : Nat) (At : Int) (y0 y1 y2 y3 : UInt8) (four : Bool) : List Value := [.slice ao n cap, .int .i64 At, .int .u8 (y0.toNat : Nat), .int .u8 (y1.toNat : Nat), .int .u8 (y2.toNat : Nat), .int .u8 (y3.toNat : Nat), .bool four]
theorem un31 : Tryd.prog.underlying 31 = some (.slice 5) := Tryd.underlying31
theorem un5 : Tryd.prog.underlying 5 = some (.int .u8) := by kernel_rfl
theorem un9 : Tryd.prog.underlying 9 = some .string := by kernel_rfl
/-- What a slice of bytes is as a string. -/
theorem run_str {w : World} {ao : Option Addr} {cap n : Nat} {l : List UInt8} (hn : l.length = n) (h0 : ao = none → l = [] ∧ cap = 0) (h : By w ao l) : (convert 31 9 (.slice ao n cap)).run Tryd.prog w = .ok (.string ⟨l.toArray⟩) w := by
  subst hn
  cases ao with
  | none =>
    obtain ⟨rfl, rfl⟩ := h0 rfl
    exact run_convert_bytes_nil (P := Tryd.prog) w 31 5 un31 un5 0 0 9 un9
  | some a =>
    refine run_convert_bytes_back w 31 9 5 a cap l un31 un5 un9 (fun j hj => ?_)
    obtain ⟨b, off, e, hc⟩ := h j hj
    cases e
    rw [Addr.add_lit, hc]
    simp [List.getD, hj]
theorem open_at {ao : Option Addr} {cap n : Nat} {l : List UInt8} (hn : l.length = n) (hl : n ≤ 140737488351232) (hcap : n ≤ cap) {w : World} (hb : By w ao l) (hR : RemIs w) :
    Calls Tryd.prog 28 #[.slice ao n cap] w fun e w' => ∃ v, e = .returned (.tuple #[v, .int .i64 (openE l : Nat)]) ∧ Own w' w.heap.size v (if openE l = 0 then l.drop 8 else []) ∧ Below w.heap.size w w' := by
  subst hn; exact open_any ao cap l hl hcap w hb hR
theorem Row.all {w : World} {g t : Nat} {l : List UInt8} (h : Row w g t (bc l)) : By w (some ⟨g, 0, none⟩) l := h.by 0 l fun i hi => by
  rw [Nat.zero_add]; exact bc_at hi
theorem Own.isNone {w : World} {B : Nat} {ao : Option Addr} {n cap : Nat} {l : List UInt8} (h : Own w B (.slice ao n cap) l) : ao = none → l = [] ∧ cap = 0 := by
  rcases h.2 with ⟨h2, h3⟩ | ⟨g, cap, cur, h3, _⟩
  · cases h2
    exact fun _ => ⟨List.eq_nil_of_length_eq_zero h3, rfl⟩
  · cases h3
    intro e
    cases e
set_option maxRecDepth 20000 in
set_option maxHeartbeats 6400000 in
theorem turned_over (ao : Option Addr) (cap : Nat) (l : List UInt8) (At : Int) (y0 y1 y2 y3 : UInt8) (four : Bool) (w : World) (hl : 8184 < l.length) (hb : l.length ≤ 140737488351232) (hR : RemIs w) :
    Calls Tryd.prog 8 #[.agg #[.slice ao l.length cap, .int .i64 At, .int .u8 (y0.toNat : Nat), .int .u8 (y1.toNat : Nat), .int .u8 (y2.toNat : Nat), .int .u8 (y3.toNat : Nat), .bool four]] w fun e w' => e = .returned (.bool true) ∧ Below w.heap.size w w' := by
  have HF := hid' (fun w => frame_over ao cap l.length hl w)
  have HR := hid' hR
  clear hR
  go_enter Tryd.func8, Tryd.ntmps8
  go_upto_region 1 with fail
  have rx : Row (w.alloc (.cells #[.slice ao l.length cap, .int .i64 At, .int .u8 (y0.toNat : Nat), .int .u8 (y1.toNat : Nat), .int .u8 (y2.toNat : Nat), .int .u8 (y3.toNat : Nat), .bool four] 78)) w.heap.size 78 (xL ao l.length cap At y0 y1 y2 y3 four) := Row.new w 78 _
  have g1 : Below w.heap.size w (w.alloc (.cells #[.slice ao l.length cap, .int .i64 At, .int .u8 (y0.toNat : Nat), .int .u8 (y1.toNat : Nat), .int .u8 (y2.toNat : Nat), .int .u8 (y3.toNat : Nat), .bool four] 78)) := (Below.refl _ w).alloc (Nat.le_refl _) _
  generalize w.alloc (.cells #[.slice ao l.length cap, .int .i64 At, .int .u8 (y0.toNat : Nat), .int .u8 (y1.toNat : Nat), .int .u8 (y2.toNat : Nat), .int .u8 (y3.toNat : Nat), .bool four] 78) = W at *
  have c0 : W.cell? ⟨w.heap.size, 0, none⟩ = some (.slice ao l.length cap) := rx.cell 0
  have HW := hid' (works_any W (HR.out.mono g1))
  clear rx
  go_wp2_with (first
    | (go_at_call 24; refine (HF.out _).mono ?_; rintro e w1 ⟨rfl, rfl⟩)
    | (go_at_call 10; refine HW.out.mono ?_; rintro e w2 ⟨rfl, b2⟩))
  go_ret
  exact ⟨rfl, g1.trans (b2.mono g1.size)⟩
theorem at_k (t n : Int) (hn : 0 < n) (hb : n ≤ 10000) : ∃ k : Nat, (k : Int) < n ∧ wrap64 ((wrap64 (wrap64 (t.tmod n + n))).tmod n) = (k : Int) := by
  have a := Int.lt_tmod_of_pos t (b := n) hn
  have b := Int.tmod_lt_of_pos t (b := n) hn
  have e1 : wrap64 (t.tmod n + n) = t.tmod n + n := by unfold wrap64; omega
  rw [e1, e1]
  have c := Int.tmod_nonneg (a := t.tmod n + n) n (by omega)
  have d := Int.tmod_lt_of_pos (t.tmod n + n) (b := n) hn
  have e2 : wrap64 ((t.tmod n + n).tmod n) = (t.tmod n + n).tmod n := by unfold wrap64; omega
  exact ⟨((t.tmod n + n).tmod n).toNat, by omega, by omega⟩
abbrev tb (ys : List UInt8) (k : Nat) : Bool := (ys.take k).any (· != 0)
theorem tb_more {ys : List UInt8} {k : Nat} (h : k < ys.length) : tb ys (k + 1) = (tb ys k || (ys.getD k 0 != 0)) := by
  unfold tb
  rw [List.take_add_one, List.getElem?_eq_getElem h, List.any_append]
  simp [List.getD, h]
theorem take_more {ys : List UInt8} {k : Nat} (h : k < ys.length) : ys.take (k + 1) = ys.take k ++ [ys.getD k 0] := by
  rw [List.take_add_one, List.getElem?_eq_getElem h]
  simp [List.getD, h]
theorem xL_at (ao : Option Addr) (n cap : Nat) (At : Int) (y0 y1 y2 y3 : UInt8) (four : Bool) (k : Nat) (h : k < 4) : (xL ao n cap At y0 y1 y2 y3 four)[2 + k]? = some (.int .u8 (([y0, y1, y2, y3].getD k 0).toNat : Nat)) := by
  match k, h with
  | 0, _ => rfl
  | 1, _ => rfl
  | 2, _ => rfl
  | 3, _ => rfl
theorem bc_set (l : List UInt8) (i : Nat) (x : UInt8) : (bc l).set i (.int .u8 (x.toNat : Nat)) = bc (l.set i x) := by simp [bc, List.map_set]
theorem tb_iff (ys : List UInt8) (k : Nat) : (∀ x ∈ ys.take k, x = 0) ↔ tb ys k = false := by
  unfold tb
  simp
set_option maxRecDepth 20000 in
set_option maxHeartbeats 6400000 in
theorem turned_one (ao : Option Addr) (cap : Nat) (l : List UInt8) (At : Int) (y0 y1 y2 y3 : UInt8) (w : World) (hl : l.length ≤ 8184) (h0 : ao = none → l = [] ∧ cap = 0) (hb : By w ao l) (hR : RemIs w) :
    Calls Tryd.prog 8 #[.agg #[.slice ao l.length cap, .int .i64 At, .int .u8 (y0.toNat : Nat), .int .u8 (y1.toNat : Nat), .int .u8 (y2.toNat : Nat), .int .u8 (y3.toNat : Nat), .bool false]] w fun e w' => e = .returned (.bool true) ∧ Below w.heap.size w w' := by
  have HB := hid' hb
  have HR := hid' hR
  have H0 := hid' h0
  clear hR hb h0
  have hd1 : decide (8184 < (l.length : Int)) = false := by simp; omega
  have hd2 : ((l.length : Int) + 8 == 0) = false := by simp; omega
  go_enter Tryd.func8, Tryd.ntmps8
  go_upto_region 1 with fail
  have rx : Row (w.alloc (.cells #[.slice ao l.length cap, .int .i64 At, .int .u8 (y0.toNat : Nat), .int .u8 (y1.toNat : Nat), .int .u8 (y2.toNat : Nat), .int .u8 (y3.toNat : Nat), .bool false] 78)) w.heap.size 78 (xL ao l.length cap At y0 y1 y2 y3 false) := Row.new w 78 _
  have g1 : Below w.heap.size w (w.alloc (.cells #[.slice ao l.length cap, .int .i64 At, .int .u8 (y0.toNat : Nat), .int .u8 (y1.toNat : Nat), .int .u8 (y2.toNat : Nat), .int .u8 (y3.toNat : Nat), .bool false] 78)) := (Below.refl _ w).alloc (Nat.le_refl _) _
  generalize w.alloc (.cells #[.slice ao l.length cap, .int .i64 At, .int .u8 (y0.toNat : Nat), .int .u8 (y1.toNat : Nat), .int .u8 (y2.toNat : Nat), .int .u8 (y3.toNat : Nat), .bool false] 78) = W at *
  have c0 : W.cell? ⟨w.heap.size, 0, none⟩ = some (.slice ao l.length cap) := rx.cell 0
  have HF := hid' (frame_any ao cap l H0.out hl W (HB.out.mono g1) (HR.out.mono g1))
  go_upto_region 2 with (go_at_call 24; refine HF.out.mono ?_; rintro e w1 ⟨g, rfl, rf, hg, b1⟩)
  have rx1 := rx.below b1 rx.lt
  have hWw : w.heap.size ≤ W.heap.size := g1.size
  have hgx : w.heap.size ≠ g := by have := rx.lt; omega
  replace g1 := g1.trans (b1.mono g1.size)
  have c0' : w1.cell? ⟨w.heap.size, 0, none⟩ = some (.slice ao l.length cap) := rx1.cell 0
  have HO := hid' (open_at (cap := l.length + 8) (frameP_len l) (by omega) (Nat.le_refl _) rf.all (HR.out.mono g1))
  rw [frame_open hl, if_pos rfl, (frame_parts l).2.2.2.1] at HO
  clear c0 HF
  go_upto_region 7 with (go_at_call 28; refine HO.out.mono ?_; rintro e w2 ⟨v, rfl, o2, b2⟩; obtain ⟨ao2, cap2, rfl, hb2, _, _, hn2, hs2⟩ := o2.shape)
  have s1 := run_str (cap := cap2) rfl o2.isNone hb2
  replace g1 := g1.trans (b2.mono g1.size)
  have s2 := run_str (cap := cap) rfl H0.out (HB.out.mono g1)
  have rx2 := rx1.below b2 rx1.lt
  have rf2 := rf.below b2 rf.lt
  have c0 : w2.cell? ⟨w.heap.size, 0, none⟩ = some (.slice ao l.length cap) := rx2.cell 0
  have c1 : w2.cell? ⟨w.heap.size, 1, none⟩ = some (.int .i64 At) := rx2.cell 1
  have c6 : w2.cell? ⟨w.heap.size, 6, none⟩ = some (.bool false) := rx2.cell 6
  clear HO c0' o2 hb2 hn2 hs2 b2 b1 rx rx1 rf
  go_upto_region 15 with fail
  obtain ⟨a, ha, hA⟩ := at_k At ((l.length : Int) + 8) (by omega) (by omega)
  rw [hA]
  clear hA s1 s2 c0 c1 c6
  have RX := hid' rx2
  have RF := hid' rf2
  have hF := frameP_len l
  clear rx2 rf2
  go_wp2
  go_loopw [9, 10] (fun vt vk wr => ∃ k : Nat, k ≤ 1 ∧ a + k ≤ l.length + 8 ∧ vk = .int .i64 k ∧ vt = .bool (tb [y0, y1, y2, y3] k) ∧ Hid (Row wr g 5 (bc (turn (frameP l) a ([y0, y1, y2, y3].take k)))) ∧ Hid (w2.grownBy wr (some g))) (fun _ vk _ => 1 - (intOf vk).toNat)
  case atStart => exact ⟨0, by omega, by omega, rfl, rfl, RF, World.grownBy.refl _ _⟩
  case round =>
    obtain ⟨k, hk, hak, rfl, rfl, hRow, hG⟩ := hrel
    by_cases hlt : k < 1
    · by_cases hin : a + k < l.length + 8
      · have rxr := RX.out.grown hG.out (by intro e; cases e; exact hgx rfl)
        have cx := rxr.cell (2 + k)
        rw [xL_at _ _ _ _ _ _ _ _ _ k (by omega)] at cx
        have hcl := turn_len ([y0, y1, y2, y3].take k) (frameP l) a
        have hkl : ([y0, y1, y2, y3].take k).length = k := by simp; omega
        have E1 := hid' (turn_more ([y0, y1, y2, y3].take k) (frameP l) a ([y0, y1, y2, y3].getD k 0))
        rw [hkl, ← take_more (by simp; omega)] at E1
        have E2 := hid' (tb_more (ys := [y0, y1, y2, y3]) (k := k) (by simp; omega))
        have cf := hRow.out.cell (a + k)
        rw [bc_at (by rw [hcl]; omega)] at cf
        have ff := hRow.out.frozen (a + k)
        have hE := u8_xor_nat ((turn (frameP l) a ([y0, y1, y2, y3].take k)).getD (a + k) 0).toNat ([y0, y1, y2, y3].getD k 0).toNat (UInt8.toNat_lt _) (UInt8.toNat_lt _)
        rw [← UInt8.toNat_xor] at hE
        have HT : Hid (∀ W', Row W' g 5 (bc (turn (frameP l) a ([y0, y1, y2, y3].take k))) → Row (W'.setCell ⟨g, a + k, none⟩ (.int .u8 (((turn (frameP l) a ([y0, y1, y2, y3].take k)).getD (a + k) 0 ^^^ [y0, y1, y2, y3].getD k 0).toNat : Nat))) g 5 (bc (turn (frameP l) a ([y0, y1, y2, y3].take (k + 1))))) := fun W' hW => by
          rw [E1.out, ← bc_set]
          exact hW.set _ _
        have hy : (([y0, y1, y2, y3].getD k 0 != 0) = true) ∨ (([y0, y1, y2, y3].getD k 0 != 0) = false) := by cases ([y0, y1, y2, y3].getD k 0 != 0) <;> simp
        have hyy : ([y0, y1, y2, y3].getD k 0 != 0) = ((([y0, y1, y2, y3].getD k 0).toNat : Int) != 0) := by
          have : ∀ u : UInt8, (u != 0) = ((u.toNat : Int) != 0) := fun u => by
            by_cases h : u = 0
            · subst h; rfl
            · have h0 : u.toNat ≠ 0 := fun e => h (u8_zero e)
              have h1 : (u != 0) = true := by simpa using h
              have h2 : ((u.toNat : Int) != 0) = true := by simp; omega
              rw [h1, h2]
          exact this _
        rw [hyy] at E2
        clear hyy hy E1
        generalize hZ : (turn (frameP l) a ([y0, y1, y2, y3].take k)).getD (a + k) 0 ^^^ [y0, y1, y2, y3].getD k 0 = Z at *
        generalize ((turn (frameP l) a ([y0, y1, y2, y3].take k)).getD (a + k) 0).toNat = X at *
        have hYl := ([y0, y1, y2, y3].getD k 0).toNat_lt
        generalize ([y0, y1, y2, y3].getD k 0).toNat = Y at *
        clear hZ
        generalize tb [y0, y1, y2, y3] k = T at *
        go_upto_region 19 with fail
        go_region
        have R3 : Hid (Row (wr.setCell ⟨g, a + k, none⟩ (.int .u8 (Z.toNat : Nat))).drew g 5 (bc (turn (frameP l) a ([y0, y1, y2, y3].take (k + 1))))) := HT.out wr hRow.out
        have G3 : Hid (w2.grownBy (wr.setCell ⟨g, a + k, none⟩ (.int .u8 (Z.toNat : Nat))).drew (some g)) := by
          have g4 := setCells_grown (g := g) [.int .u8 (Z.toNat : Nat)] (a + k) wr
          exact grown_trans hG.out ⟨g4.os, g4.tape, g4.output, g4.size, g4.block⟩
        have cx3 : (wr.setCell ⟨g, a + k, none⟩ (.int .u8 (Z.toNat : Nat))).drew.cell? ⟨w.heap.size, 2 + k, none⟩ = some (.int .u8 (Y : Nat)) := by
          have r4 := rxr.setOther (p := ⟨g, a + k, none⟩) hgx (.int .u8 (Z.toNat : Nat))
          rw [rxr.cell] at cx
          exact (r4.cell _).trans cx
        clear cf ff hE HT hRow hG rxr cx
        generalize (wr.setCell ⟨g, a + k, none⟩ (.int .u8 (Z.toNat : Nat))).drew = W3 at *
        cases T with
        | true =>
          go_wp2
          go_roundw
          case rel => exact ⟨k + 1, by omega, by omega, by go_num, by rw [E2.out]; rfl, R3, G3⟩
          case measure => simp [intOf]; omega
        | false =>
          go_wp2
          go_roundw
          case rel => exact ⟨k + 1, by omega, by omega, by go_num, by rw [E2.out]; rfl, R3, G3⟩
          case measure => simp [intOf]; omega
      · exact absurd hin (by omega)
    · have hk1 : k = 1 := by omega
      subst hk1
      have hRef := turned_refused (l := l) (e := [y0, y1, y2, y3].take 1) (a := a) hl (by rw [show ([y0, y1, y2, y3].take 1).length = 1 from rfl]; omega) (.inl (by simp))
      rw [tb_iff] at hRef
      have hR1 := HR.out.lt
      have hwg : w.heap.size ≤ g := Nat.le_trans hWw hg
      have Bf : Below w.heap.size w wr := g1.grown hG.out g1.size (fun i hi => by cases hi; exact hwg)
      have HO2 := hid' (open_at (cap := l.length + 8) (n := l.length + 8) (by rw [turn_len, hF]) (by omega) (Nat.le_refl _) hRow.out.all (HR.out.mono Bf))
      generalize turn (frameP l) a ([y0, y1, y2, y3].take 1) = f' at *
      generalize tb [y0, y1, y2, y3] 1 = T at *
      generalize openE f' = E at *
      clear hRow hG RX RF
      cases T with
      | true =>
        have hE : E ≠ 0 := fun h => by simpa using hRef.1 h
        rw [if_neg hE] at HO2
        have hE1 : ((E : Int) == 0) = false := by simp; omega
        have hE2 : ((E : Int) != 0) = true := by simp; omega
        have hE3 : ¬ (E : Int) = 0 := by omega
        clear hRef hE
        go_wp2_with (go_at_call 28; refine HO2.out.mono ?_; rintro e w3 ⟨v, rfl, o3, b3⟩; obtain ⟨ao3, cap3, rfl, _⟩ := o3.shape)
        go_ret
        exact ⟨rfl, Bf.trans (b3.mono Bf.size)⟩
      | false =>
        have hE : E = 0 := hRef.2 rfl
        subst hE
        rw [if_pos rfl] at HO2
        generalize f'.drop 8 = r at *
        clear hRef
        go_wp2_with (go_at_call 28; refine HO2.out.mono ?_; rintro e w3 ⟨v, rfl, o3, b3⟩; obtain ⟨ao3, cap3, rfl, _⟩ := o3.shape)
        all_goals go_ret
        all_goals exact ⟨rfl, Bf.trans (b3.mono Bf.size)⟩
end Go.Proofs.YtomklacjaadcaaaDoor
