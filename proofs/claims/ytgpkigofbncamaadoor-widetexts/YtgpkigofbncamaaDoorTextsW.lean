/- The law WideTexts, walked: for any number of 128 bits and any text the call returns true, and the memory that was there is as it was. -/
import Derived.Test.YtgpkigofbncamaaDoorTextsP
import Derived.Test.YtgpkigofbncamaaDoorText
namespace Go.Proofs.YtgpkigofbncamaaDoor
open Go.RowKit Go.Sort Go.Lib Go.Proofs

theorem pair_join (m : Int) (hm : inI m) : hiI m * 18446744073709551616 + loI m = m ∧ (-9223372036854775808 ≤ hiI m ∧ hiI m ≤ 9223372036854775807) ∧ 0 ≤ loI m ∧ loI m ≤ 18446744073709551615 := by
  unfold inI hiI loI at *; omega
theorem num_in (m : Int) (hm : inI m) (w : World) : Calls Tryd.prog 7 #[.agg #[.int .i64 (hiI m), .int .u64 (loI m)]] w fun e w' => ∃ z, e = .returned z ∧ Nm w' z m ∧ Below w.heap.size w w' := by
  obtain ⟨e, ⟨h0, h1⟩, h2, h3⟩ := pair_join m hm
  have := num_any (hiI m) (loI m) w h0 h1 h2 h3
  rw [e] at this
  exact this
theorem big_in {n : Int} (h : inI n) : -p2 6000 < n ∧ n < p2 6000 := by
  have := big_6000
  unfold inI at h
  omega

set_option maxRecDepth 20000 in
set_option maxHeartbeats 4000000 in
theorem texts_walk (m : Int) (hm : inI m) (l : List UInt8) (hl : l.length ≤ 281474976710656) (w : World) (htab : TabIs Tryd.prog w "internal/strconv.uint64pow10" .u64 pow10Tab)
    (ev : Value) (hev : w.cell? ⟨7, 0, none⟩ = some ev) (hev' : ev = .nilIface ∨ ∃ te pe, ev = .iface te pe) :
    Calls Tryd.prog 3 #[.agg #[.int .i64 (hiI m), .int .u64 (loI m)], .string ⟨l.toArray⟩] w fun e w' => e = .returned (.bool true) ∧ Below w.heap.size w w' := by
  have HM : Hid (inI m) := hm
  have HT : Hid (TabIs Tryd.prog w "internal/strconv.uint64pow10" .u64 pow10Tab) := htab
  have HE : Hid (w.cell? ⟨7, 0, none⟩ = some ev) := hev
  have HE' : Hid (ev = .nilIface ∨ ∃ te pe, ev = .iface te pe) := hev'
  have HL : Hid (l.length ≤ 281474976710656) := hl
  have RT := read_text hm
  have R1 : Hid (∀ w : World, w.cell? ⟨7, 0, none⟩ = some ev → Calls Tryd.prog 8 #[.string ⟨(textI m).toArray⟩] w fun e w' => e = .returned (.tuple #[.agg #[.int .i64 (hiI m), .int .u64 (loI m)], .int .i64 0]) ∧ Below w.heap.size w w') := fun w h => by
    have := wparse_any (textI m) (by have := text_len' hm; omega) w ev h hev'
    rw [RT.1, RT.2] at this
    exact this
  have R2 : Hid (∀ (x : Value) (w : World), Nm w x m → Calls Tryd.prog 6 #[x] w fun e w' => e = .returned (.string ⟨(textI m).toArray⟩) ∧ Below w.heap.size w w') := fun x w h => rtext_num x m w h hm (by have := text_len hm; omega)
  have R3 : Hid (∀ w : World, TabIs Tryd.prog w "internal/strconv.uint64pow10" .u64 pow10Tab → Calls Tryd.prog 5 #[.agg #[.int .i64 (hiI m), .int .u64 (loI m)]] w fun e w' => e = .returned (.string ⟨(textI m).toArray⟩) ∧ Below w.heap.size w w') := fun w h => wtext_any m hm w h
  have hG := ((Gr.refl w).alloc (.cells #[.int .i64 (hiI m), .int .u64 (loI m)] 24)).below
  have k0 : Bx (w.alloc (.cells #[.int .i64 (hiI m), .int .u64 (loI m)] 24)) 24 w.heap.size (.int .i64 (hiI m)) (.int .u64 (loI m)) := Bx.new w 24 _ _
  clear hm htab hev hev' hl RT
  generalize textI m = T at *
  go_enter Tryd.func3, Tryd.ntmps3
  go_upto_region 1 with fail
  generalize w.alloc (.cells #[.int .i64 (hiI m), .int .u64 (loI m)] 24) = W at *
  have x0 := k0.c0
  have x1 := k0.c1
  go_upto_region 2 with (first
    | (go_at_call 4; refine (of_any (hiI m) (loI m) _).mono ?_; rintro e w1 ⟨rfl, g1⟩)
    | (go_at_call 5; refine (R3.out _ (tab_mono HT.out (hG.trans (g1.below.mono hG.size)))).mono ?_; rintro e w2 ⟨rfl, hb2⟩))
  replace k0 := (k0.gr g1).mono hb2 (k0.gr g1).lt
  replace hG := (hG.trans (g1.below.mono hG.size)).trans (hb2.mono (Nat.le_trans hG.size g1.size))
  clear x0 x1 g1 hb2
  have x0 := k0.c0
  have x1 := k0.c1
  go_upto_region 4 with (first
    | (go_at_call 7; refine (num_in m HM.out _).mono ?_; rintro e w3 ⟨z, rfl, hz, hb3⟩; obtain ⟨r3, o3, l3, c3, rfl, hz3⟩ := hz.shape; clear hz)
    | (go_at_call 6; refine (R2.out _ _ hz3.out).mono ?_; rintro e w4 ⟨rfl, hb4⟩))
  replace k0 := (k0.mono hb3 k0.lt).mono hb4 (k0.mono hb3 k0.lt).lt
  replace hG := (hG.trans (hb3.mono hG.size)).trans (hb4.mono (Nat.le_trans hG.size hb3.size))
  clear x0 x1 hb3 hb4 hz3
  go_upto_region 5 with (go_at_call 8; refine (R1.out _ (below_cell HE.out hG)).mono ?_; rintro e w5 ⟨rfl, hb5⟩)
  replace k0 := (k0.mono hb5 k0.lt).alloc (.cells #[.int .i64 (hiI m), .int .u64 (loI m)] 25)
  have k1 := Bx.new w5 25 (.int .i64 (hiI m)) (.int .u64 (loI m))
  replace hG := (hG.trans (hb5.mono hG.size)).trans ((((Gr.refl w5).alloc (.cells #[.int .i64 (hiI m), .int .u64 (loI m)] 25)).below).mono (Nat.le_trans hG.size hb5.size))
  clear hb5 R1 R2 R3
  generalize w5.alloc (.cells #[.int .i64 (hiI m), .int .u64 (loI m)] 25) = W6 at *
  generalize w5.heap.size = X6 at *
  have r0 := dgr k0.c0
  have r1 := dgr k0.c1
  have r2 := dgr k1.c0
  have r3 := dgr k1.c1
  refine wp_region_quiet_grown (by kernel_rfl) (by kernel_rfl) ?_
  repeat (go_big_quiet_step ((go_at_call 4; refine Calls.grown_of (of_any _ _ _))))
  refine wpQuiet_nil ?_
  intro _ hw'
  obtain ⟨⟨nq, osq⟩, hw''⟩ := hw'
  subst hw''
  have g6 : Gr W6 (grow (W6.drewN nq) osq) := ⟨nq, osq, rfl⟩
  replace hG := hG.trans (g6.below.mono hG.size)
  clear r0 r1 r2 r3 k0 k1 g6
  generalize grow (W6.drewN nq) osq = W7 at *
  have R4 : Hid (∀ w : World, w.cell? ⟨7, 0, none⟩ = some ev → Calls Tryd.prog 8 #[.string ⟨l.toArray⟩] w fun e w' => e = .returned (.tuple #[.agg #[.int .i64 (hiI (pnum l)), .int .u64 (loI (pnum l))], .int .i64 (pcode l)]) ∧ Below w.heap.size w w') := fun w h => wparse_any l HL.out w ev h HE'.out
  have R5 := hid' (fun w => rparse_any l HL.out w)
  have BI : Hid (-p2 6000 < pnum l ∧ pnum l < p2 6000) := big_in (pnum_in l)
  have R6 : Hid (pcode l = 0 → ∀ w : World, TabIs Tryd.prog w "internal/strconv.uint64pow10" .u64 pow10Tab → Calls Tryd.prog 5 #[.agg #[.int .i64 (hiI (pnum l)), .int .u64 (loI (pnum l))]] w fun e w' => e = .returned (.string ⟨l.toArray⟩) ∧ Below w.heap.size w w') := fun h w ht => by
    have := wtext_any (pnum l) (pnum_in l) w ht
    rw [text_read h] at this
    exact this
  generalize pcode l = C at *
  generalize pnum l = n at *
  go_upto_region 8 with (go_at_call 8; refine (R4.out _ (below_cell HE.out hG)).mono ?_; rintro e w8 ⟨rfl, hb8⟩)
  have k1 := Bx.new w8 25 (.int .i64 (hiI n)) (.int .u64 (loI n))
  replace hG := (hG.trans (hb8.mono hG.size)).trans ((((Gr.refl w8).alloc (.cells #[.int .i64 (hiI n), .int .u64 (loI n)] 25)).below).mono (Nat.le_trans hG.size hb8.size))
  clear hb8 R4
  generalize w8.alloc (.cells #[.int .i64 (hiI n), .int .u64 (loI n)] 25) = W8 at *
  generalize w8.heap.size = X8 at *
  go_upto_region 9 with (go_at_call 9; refine (R5.out _).mono ?_; rintro e w9 ⟨z, rfl, hz, hb9⟩; obtain ⟨r9, o9, l9, c9, rfl, hz9⟩ := hz.shape; clear hz)
  have NZ := hmono hz9 ((Gr.refl w9).alloc (.cells #[.bool r9, .slice o9 l9 c9] 31)).below
  have k2 := Bk.new w9 (.bool r9) (.slice o9 l9 c9)
  replace k1 := (k1.mono hb9 k1.lt).alloc (.cells #[.bool r9, .slice o9 l9 c9] 31)
  replace hG := (hG.trans (hb9.mono hG.size)).trans ((((Gr.refl w9).alloc (.cells #[.bool r9, .slice o9 l9 c9] 31)).below).mono (Nat.le_trans hG.size hb9.size))
  clear hb9 R5 hz9
  generalize w9.alloc (.cells #[.bool r9, .slice o9 l9 c9] 31) = W9 at *
  generalize w9.heap.size = X9 at *
  have y0 := k1.c0
  have y1 := k1.c1
  have z0 := k2.c0
  have z1 := k2.c1
  go_upto_region 11 with (go_at_call 10; refine (is_any _ n _ NZ.out BI.out.1 BI.out.2).mono ?_; rintro e w10 ⟨rfl, hb10⟩)
  replace k1 := k1.mono hb10 k1.lt
  replace hG := hG.trans (hb10.mono hG.size)
  clear hb10 NZ y0 y1 z0 z1 k2
  have y0 := k1.c0
  have y1 := k1.c1
  by_cases hC : C = 0
  · have R7 := hid' (R6.out hC w10 (tab_mono HT.out hG))
    clear R6
    go_wp2_with (go_at_call 5; refine R7.out.mono ?_; rintro e w11 ⟨rfl, hb11⟩)
    go_ret
    exact ⟨rfl, hG.trans (hb11.mono hG.size)⟩
  · have hC' : (C == 0) = false := by simpa using hC
    go_wp2
    go_ret
    exact ⟨rfl, hG⟩
end Go.Proofs.YtgpkigofbncamaaDoor
