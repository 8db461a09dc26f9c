/- The law WireTakes, walked: for any bytes and any wants the call returns true, and the memory that was there is as it was. -/
import Derived.Test.YtomklacjaadcaaaDoorWTk
import Derived.Deep.RegionHeld3
namespace Go.Proofs.YtomklacjaadcaaaDoor
open Go.RowKit Go.Sort

abbrev S2w (a0 a1 : Addr) (x0 x1 : Value) (K : Nat) (W : World) (w : World) : Prop := w.cell? a0 = some x0 ∧ w.cell? a1 = some x1 ∧ Below K W w
theorem S2w.call {a0 a1 : Addr} {x0 x1 : Value} {K : Nat} {W w w' : World} (h : S2w a0 a1 x0 x1 K W w) (h0 : a0.block < K) (h1 : a1.block < K) (g : Below K w w') : S2w a0 a1 x0 x1 K W w' :=
  ⟨(g.cell h0).trans h.1, (g.cell h1).trans h.2.1, h.2.2.trans g⟩
theorem gb {B : Nat} {w w' : World} {g : Nat} (k : w.grownBy w' (some g)) (hB : B ≤ w.heap.size) (hg : B ≤ g) : Below B w w' :=
  (Below.refl _ _).grown k hB (fun j hj => by cases hj; exact hg)

theorem own_by {w : World} {B : Nat} {v : Value} {l : List UInt8} (h : Own w B v l) : ∃ ao cap, v = .slice ao l.length cap ∧ By w ao l ∧ l.length ≤ cap := by
  have hl := h.1
  rcases h.2 with ⟨rfl, hn⟩ | ⟨g, cap, cur, rfl, _, h2, h3, _, _, h6⟩
  · exact ⟨none, 0, by rw [hn], fun i hi => by omega, by omega⟩
  · refine ⟨_, cap, rfl, fun i hi => ⟨g, 0, rfl, ?_⟩, h3⟩
    have c := h.cells (g := g) rfl i (.int .u8 ((l.getD i 0).toNat : Nat)) (by simp [bc, List.getD, hi])
    have e : (⟨g, 0, none⟩ : Addr).add i = ⟨g, 0 + i, none⟩ := by unfold Addr.add; split <;> simp_all
    rw [e] at c
    exact c

set_option maxRecDepth 20000 in
set_option maxHeartbeats 8000000 in
theorem takes_walk (ao : Option Addr) (cap : Nat) (l : List UInt8) (wo : Option Addr) (cw : Nat) (ws : List (Int × Int)) (w : World) (hl : l.length ≤ 140737488351232) (hc : l.length ≤ cap) (h0 : ao = none → l = [] ∧ cap = 0) (hb : By w ao l) (hao : ∀ a, ao = some a → a.block < w.heap.size) (hws : ws.length ≤ 281474976710656) (hw : Wts w wo ws) (hR : RemIs w) (hsz : 0 < w.heap.size) :
    Calls Tryd.prog 4 #[.slice ao l.length cap, .slice wo ws.length cw] w fun e w' => e = .returned (.bool true) ∧ Below w.heap.size w w' := by
  obtain ⟨i0, hi', hz0, hz1, hz2⟩ := info_parts info5
  have HB := hid' hb
  have HW := hid' hw
  have HR := hid' hR
  have H0 := hid' h0
  have e20 : wrap64 ((l.length : Int) + 20) = (l.length : Int) + 20 := by unfold wrap64; omega
  have e20' : ((l.length + 20 : Nat) : Int) = (l.length : Int) + 20 := by omega
  clear hb hw hR h0
  go_enter Tryd.func4, Tryd.ntmps4
  go_upto_region 2 with (at_make; refine wpList_make_full _ rfl _ _ 31 rfl w.heap.size 5 i0 (.int .u8 0) 1 Tryd.underlying31 hi' hz0 hz1 .i64 .i64 _ _ (l.length + 20) rfl rfl (by omega) (by omega) (by rw [hz2]; omega) (by unfold maxLen; omega) (Nat.le_refl _) ?_; intro w1 o1 g1)
  obtain ⟨L, r1, hL⟩ := full_row o1
  have b1 : Below w.heap.size w w1 := (Below.refl _ _).grown g1 (Nat.le_refl _) (fun k hk => by cases hk)
  obtain ⟨w2, hrun, r2, hbc⟩ := copy_in (cap := cap) r1 hL rfl (by omega) (HB.out.mono b1) (fun e => (H0.out e).1)
  have b2 : Below w.heap.size w w2 := b1.trans (hbc _ (Nat.le_refl _))
  clear o1 g1 hbc
  have hle : l.length ≤ l.length + 20 := by omega
  go_upto_region 4 with fail
  have hby2 : By w2 (some ⟨w.heap.size, 0, none⟩) l := Row.by r2 0 l (fun i hi => by
    rw [Nat.zero_add, List.getElem?_append_left (by rw [bc_len]; exact hi)]
    simp [bc, List.getD, hi])
  have RD := hid' (read_any (some ⟨w.heap.size, 0, none⟩) (l.length + 20) l.length l rfl (fun e => by cases e) hl w2 hby2)
  go_wp2_with fail
  refine RD.out.mono ?_
  rintro e w3 ⟨gi, v, rfl, hgi, r3, o3, hne, b3⟩
  obtain ⟨ao', cap', rfl, hby3, hc', _, hown, _⟩ := o3.shape
  have hne' : ∀ a, ao' = some a → a.block ≠ gi := fun a ha => hne a.block (by rw [ha]; rfl)
  have hI : InIs w3 gi l 0 0 := ⟨ao', cap', r3, hby3, hc', hne', Nat.zero_le _, hl⟩
  have hown' : ∀ a, ao' = some a → w.heap.size < a.block := fun a ha => Nat.lt_of_lt_of_le r2.lt (hown a ha).1
  have b03 : Below w.heap.size w w3 := b2.trans (b3.mono b2.size)
  have hgi' : w.heap.size < gi := Nat.lt_of_lt_of_le r2.lt hgi
  have r23 : Row w3 w.heap.size 5 (bc l ++ L.drop l.length) := r2.below b3 r2.lt
  have R3 := hid' r3
  have B3 := hid' hby3
  clear RD r3 hby3 hown o3 hne b3 b1 r1 b2 r2 hrun hby2
  go_upto_region 9 with fail
  have g9 : Gr w3 (((w3.alloc (.cells #[.slice ao l.length cap, .int .i64 0, .int .i64 0, .int .i64 0] 49)).alloc (.cells #[.slice none 0 0, .int .i64 0, .int .i64 0] 51)).alloc (.cells #[.slice none 0 0, .int .i64 0, .int .i64 0, .int .i64 0] 49)) := (((Gr.refl _).alloc _).alloc _).alloc _
  have hlt3 : w.heap.size ≤ w3.heap.size := b03.size
  have hgi3 : gi < w3.heap.size := hI.lt
  have RZ := (Row.new (w3.alloc (.cells #[.slice ao l.length cap, .int .i64 0, .int .i64 0, .int .i64 0] 49)) 51 [.slice none 0 0, .int .i64 0, .int .i64 0]).alloc (.cells #[.slice none 0 0, .int .i64 0, .int .i64 0, .int .i64 0] 49)
  have RY := Row.new ((w3.alloc (.cells #[.slice ao l.length cap, .int .i64 0, .int .i64 0, .int .i64 0] 49)).alloc (.cells #[.slice none 0 0, .int .i64 0, .int .i64 0] 51)) 49 [.slice none 0 0, .int .i64 0, .int .i64 0, .int .i64 0]
  have RR := ((Row.new w3 49 [.slice ao l.length cap, .int .i64 0, .int .i64 0, .int .i64 0]).alloc (.cells #[.slice none 0 0, .int .i64 0, .int .i64 0] 51)).alloc (.cells #[.slice none 0 0, .int .i64 0, .int .i64 0, .int .i64 0] 49)
  have e1 : (w3.alloc (.cells #[.slice ao l.length cap, .int .i64 0, .int .i64 0, .int .i64 0] 49)).heap.size = w3.heap.size + 1 := by simp only [World.alloc, Array.size_push]
  have e2 : ((w3.alloc (.cells #[.slice ao l.length cap, .int .i64 0, .int .i64 0, .int .i64 0] 49)).alloc (.cells #[.slice none 0 0, .int .i64 0, .int .i64 0] 51)).heap.size = w3.heap.size + 1 + 1 := by simp only [World.alloc, Array.size_push]
  rw [e1] at RZ
  rw [e2] at RY
  have RI := R3.out.below g9.below R3.out.lt
  have BI := B3.out.mono g9.below
  have BR := HB.out.mono (b03.trans (g9.below.mono hlt3))
  have r9 := r23.below g9.below r23.lt
  have b9 := b03.trans (g9.below.mono hlt3)
  clear r23 b03 hI R3 B3 e1 e2
  generalize hr0 : w3.heap.size = r0 at *
  generalize ((w3.alloc (.cells #[.slice ao l.length cap, .int .i64 0, .int .i64 0, .int .i64 0] 49)).alloc (.cells #[.slice none 0 0, .int .i64 0, .int .i64 0] 51)).alloc (.cells #[.slice none 0 0, .int .i64 0, .int .i64 0, .int .i64 0] 49) = W at *
  clear g9 hr0
  have FA : Hid (∀ V, W.grownBy V (some w.heap.size) → Four4 V gi r0 (r0 + 1) (r0 + 1 + 1) l 0 0 0 0) := fun V k =>
    ⟨⟨ao', cap', RI.grown k (by intro e; have := Option.some.inj e; omega), BI.grown k (fun a ha e => by have := hown' a ha; have := Option.some.inj e; omega), hc', hne', Nat.zero_le _, hl⟩,
     ⟨ao, cap, RR.grown k (by intro e; have := Option.some.inj e; omega), BR.grown k (fun a ha e => by have := hao a ha; have := Option.some.inj e; omega), hc, (fun a ha => by have := hao a ha; omega), Nat.zero_le _, hl⟩,
     ⟨none, 0, RZ.grown k (by intro e; have := Option.some.inj e; omega), fun i hi => absurd hi (Nat.not_lt_zero _), Nat.le_refl _, (fun a ha => by cases ha), Nat.le_refl _, by decide⟩,
     ⟨none, 0, RY.grown k (by intro e; have := Option.some.inj e; omega), fun i hi => absurd hi (Nat.not_lt_zero _), Nat.le_refl _, (fun a ha => by cases ha), Nat.le_refl _, by decide⟩⟩
  have F4 := FA.out W (World.grownBy.refl _ _)
  clear RI RR RZ RY BI BR
  have hby9 : By W (some ⟨w.heap.size, 0, none⟩) l := Row.by r9 0 l (fun i hi => by
    rw [Nat.zero_add, List.getElem?_append_left (by rw [bc_len]; exact hi)]
    simp [bc, List.getD, hi])
  have s1 := run_str (w := W) (cap := l.length + 20) (n := l.length) rfl (fun e => by cases e) hby9
  have s2 := run_str (w := W) (cap := cap) (n := l.length) rfl H0.out (HB.out.mono b9)
  have ST1 := hid' (stands_any gi r0 0 0 l W F4.I F4.R)
  go_upto_region 10 with (go_at_call 17; refine ST1.out.mono ?_; rintro e w4 ⟨rfl, g4⟩; have ST2 := hid' (stands_any _ _ 0 0 [] w4 (F4.Z.below g4.below) (F4.Y.below g4.below)); go_upto_region 10 with (go_at_call 17; refine ST2.out.mono ?_; rintro e w5 ⟨rfl, g5⟩))
  have g5' : W.grownBy w5 (some w.heap.size) := by
    have h := g4.below.trans (g5.below.mono g4.below.size)
    exact ⟨h.os, h.tape, h.output, h.size, fun k hk _ => h.block k hk⟩
  have r5 := (r9.below g4.below r9.lt).below g5.below (r9.below g4.below r9.lt).lt
  clear s1 s2 ST1 ST2 F4 g4 g5 hby9 r9
  have R5 := hid' r5
  have G5 := hid' g5'
  have hLL : (bc l ++ L.drop l.length).length = l.length + 20 := by simp [bc_len]; omega
  have hby : ∀ j, j < l.length → ∃ x : UInt8, (bc l ++ L.drop l.length)[j]? = some (.int .u8 (x.toNat : Nat)) := fun j hj => ⟨l.getD j 0, by
    rw [List.getElem?_append_left (by rw [bc_len]; exact hj)]
    simp [bc, List.getD, hj]⟩
  generalize bc l ++ L.drop l.length = M at *
  clear r5 g5' hL
  go_wp2
  go_loopw [11] (fun vk wr => ∃ (k : Nat) (N : List Value), k ≤ l.length ∧ vk = .int .i64 k ∧ N.length = l.length + 20 ∧ (∀ j, j < l.length → ∃ x : UInt8, N[j]? = some (.int .u8 (x.toNat : Nat))) ∧ Hid (Row wr w.heap.size 5 N) ∧ Hid (W.grownBy wr (some w.heap.size))) (fun vk _ => l.length - (intOf vk).toNat)
  case atStart => exact ⟨0, M, by omega, rfl, hLL, hby, R5, G5⟩
  case round =>
    obtain ⟨k, N, hk, rfl, hN, hx, hRow, hG⟩ := hrel
    by_cases hlt : k < l.length
    · obtain ⟨x, hxk⟩ := hx k hlt
      have cf := hRow.out.cell k
      rw [hxk] at cf
      have ff := hRow.out.frozen k
      have hX : Hid (((x.toNat : Int) + 1) % 256 = (((x + 1 : UInt8).toNat : Nat) : Int)) := by
        show ((x.toNat : Int) + 1) % 256 = (((x + 1 : UInt8).toNat : Nat) : Int)
        rw [UInt8.toNat_add, show (1 : UInt8).toNat = 1 from rfl]
        omega
      go_wp2
      rw [hX.out]
      refine ⟨⟨k + 1, N.set k (.int .u8 ((x + 1 : UInt8).toNat : Nat)), by omega, by go_num, by rw [List.length_set]; exact hN, fun j hj => ?_, hRow.out.set k _, ?_⟩, by simp [intOf]; omega⟩
      · by_cases hjk : j = k
        · subst hjk
          exact ⟨x + 1, by rw [List.getElem?_set_self (by omega)]⟩
        · rw [List.getElem?_set_ne (fun e => hjk e.symm)]
          exact hx j hj
      · exact grown_trans hG.out (setCells_grown (g := w.heap.size) [.int .u8 ((x + 1 : UInt8).toNat : Nat)] k wr)
    · have hkl : k = l.length := by omega
      subst hkl
      have F5 := FA.out wr hG.out
      have b5 : Below w.heap.size w wr := b9.grown hG.out b9.size (fun i hi => by cases hi; exact Nat.le_refl _)
      clear FA hG hRow hx hN b9 R5 G5 hby hLL
      have F := hid' F5
      have B5 := hid' b5
      clear F5 b5
      go_wp2
      go_loopw [12] (fun vk wr => ∃ (k a f a2 f2 : Nat), k ≤ ws.length ∧ vk = .int .i64 k ∧ Hid (Four4 wr gi r0 (r0 + 1) (r0 + 1 + 1) l a f a2 f2) ∧ Hid (Below w.heap.size w wr)) (fun vk _ => ws.length - (intOf vk).toNat)
      case atStart => exact ⟨0, 0, 0, 0, 0, by omega, rfl, F, B5⟩
      case round =>
        clear F B5
        obtain ⟨k, a, f, a2, f2, hk, rfl, F, B5⟩ := hrel
        by_cases hlt : k < ws.length
        · obtain ⟨b, off, rfl, c0, c1⟩ := HW.out k hlt
          have hbl : b < w.heap.size := World.block_lt_of_cell? w ⟨b, off + k * 2, none⟩ c0
          replace c0 := (B5.out.cell (p := ⟨b, off + k * 2, none⟩) hbl).trans c0
          replace c1 := (B5.out.cell (p := ⟨b, off + k * 2 + 1, none⟩) hbl).trans c1
          generalize (ws.getD k (0, 0)).1 = kind at *
          generalize (ws.getD k (0, 0)).2 = most at *
          obtain ⟨N1, S1, a', f', HA, HB1⟩ := alike kind most l a f
          obtain ⟨N2, S2, a2', f2', HC, HD⟩ := alike kind most [] a2 f2
          unfold gotV at HA HB1 HC HD
          replace HA := hid' HA
          replace HB1 := hid' HB1
          replace HC := hid' HC
          replace HD := hid' HD
          go_upto_region 18 with fail
          have I0 : InIs wr.drew gi l a f := F.out.I
          have R0 : RefIs wr.drew r0 l a f := F.out.R
          have Z0 : InIs wr.drew (r0 + 1) [] a2 f2 := F.out.Z
          have Y0 : RefIs wr.drew (r0 + 1 + 1) [] a2 f2 := F.out.Y
          have hs0 : w.heap.size ≤ wr.drew.heap.size := B5.out.size
          have hS0 : Hid (S2w ⟨b, off + k * 2, none⟩ ⟨b, off + k * 2 + 1, none⟩ (.int .i64 kind) (.int .i64 most) w.heap.size wr wr.drew) := ⟨c0, c1, (Below.refl _ _).drew⟩
          go_region_held3 (S2w ⟨b, off + k * 2, none⟩ ⟨b, off + k * 2 + 1, none⟩ (.int .i64 kind) (.int .i64 most) w.heap.size wr)
            (first | with_reducible exact hS0.out | exact S2w.call (by assumption) hbl hbl (by assumption))
            (first
              | (go_at_call 17; refine (stands_any (r0 + 1) (r0 + 1 + 1) _ _ [] _ Z5 Y5).mono ?_; rintro e z5 ⟨rfl, k5⟩; have hb5 := k5.below.mono hs5; have hs6 := Nat.le_trans hs5 k5.below.size; have F6 : Hid (Four4 z5 gi r0 (r0 + 1) (r0 + 1 + 1) l a' f' a2' f2') := ⟨I5.below k5.below, R5.below k5.below, Z5.below k5.below, Y5.below k5.below⟩)
              | (go_at_call 19; refine (HD.out _ (r0 + 1 + 1) Y4).mono ?_; rintro e z4 ⟨rfl, Y5, k4⟩; have hb4 := gb (B := w.heap.size) k4 hs4 (by omega); have hs5 := Nat.le_trans hs4 k4.size; have I5 := I4.off Y4.noBy (by omega) k4; have R5 := R4.off Y4.noBy (by omega) k4; have Z5 := Z4.off Y4.noBy (by omega) k4)
              | (go_at_call 18; refine (HC.out _ (r0 + 1) Z3).mono ?_; rintro e z3 ⟨rfl, Z4, k3⟩; have hb3 := gb (B := w.heap.size) k3 hs3 (by omega); have hs4 := Nat.le_trans hs3 k3.size; have I4 := I3.off Z3.noBy (by omega) k3; have R4 := R3.off Z3.noBy (by omega) k3; have Y4 := Y3.off Z3.noBy (by omega) k3)
              | (go_at_call_of 17 gi; refine (stands_any gi r0 _ _ l _ I2 R2).mono ?_; rintro e z2 ⟨rfl, k2⟩; have hb2 := k2.below.mono hs2; have hs3 := Nat.le_trans hs2 k2.below.size; have I3 := I2.below k2.below; have R3 := R2.below k2.below; have Z3 := Z2.below k2.below; have Y3 := Y2.below k2.below)
              | (go_at_call_of 19 r0; refine (HB1.out _ r0 R1).mono ?_; rintro e z1 ⟨rfl, R2, k1⟩; have hb1 := gb (B := w.heap.size) k1 hs1 (by omega); have hs2 := Nat.le_trans hs1 k1.size; have I2 := I1.off R1.noBy (by omega) k1; have Z2 := Z1.off R1.noBy (by omega) k1; have Y2 := Y1.off R1.noBy (by omega) k1)
              | (go_at_call_of 18 gi; refine (HA.out _ gi I0).mono ?_; rintro e z0 ⟨rfl, I1, k0⟩; have hb0 := gb (B := w.heap.size) k0 hs0 (by omega); have hs1 := Nat.le_trans hs0 k0.size; have R1 := R0.off I0.noBy (by omega) k0; have Z1 := Z0.off I0.noBy (by omega) k0; have Y1 := Y0.off I0.noBy (by omega) k0))
          have hS5 : S2w ⟨b, off + k * 2, none⟩ ⟨b, off + k * 2 + 1, none⟩ (.int .i64 kind) (.int .i64 most) w.heap.size wr z5 := by assumption
          have B6 : Hid (Below w.heap.size w z5) := B5.out.trans (hS5.2.2.mono (Nat.le_refl _))
          have d0 := hS5.1
          have d1 := hS5.2.1
          have NT := hid' (nil_takes kind most z5 (by omega))
          unfold gotV at NT
          clear hS5 hb0 hb1 hb2 hb3 hb4 hb5 k0 k1 k2 k3 k4 k5 I0 I1 I2 I3 I4 I5 R0 R1 R2 R3 R4 R5 Z0 Z1 Z2 Z3 Z4 Z5 Y0 Y1 Y2 Y3 Y4 Y5 HA HB1 HC HD F B5 hS0 c0 c1
          go_wp2_with (go_at_call 18; refine NT.out.mono ?_; rintro e z6 ⟨rfl, b6⟩)
          go_roundw
          case rel => exact ⟨k + 1, a', f', a2', f2', by omega, by go_num, F6.out.below b6, B6.out.trans (b6.mono hs6)⟩
          case measure => simp [intOf]; omega
        · have hk2 : k = ws.length := by omega
          subst hk2
          have hR := HR.out.mono (B5.out)
          have HWk := hid' (works_any wr hR)
          clear F
          go_wp2_with (first
            | (go_at_call 20; refine (fault_nil _).mono ?_; rintro e w' ⟨rfl, rfl⟩)
            | (go_at_call 21; refine (at_nil _).mono ?_; rintro e w' ⟨rfl, rfl⟩)
            | (go_at_call 22; refine (end_nil _).mono ?_; rintro e w' ⟨rfl, rfl⟩)
            | (go_at_call 10; refine HWk.out.mono ?_; rintro e wz ⟨rfl, bz⟩))
          go_ret
          exact ⟨rfl, B5.out.trans (bz.mono B5.out.size)⟩
end Go.Proofs.YtomklacjaadcaaaDoor
