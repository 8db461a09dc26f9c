/- The law WideMuls, walked: for any four numbers of 64 bits the call returns true, and the memory that was there is as it was. -/
import Derived.Test.YtgpkigofbncamaaMuls
import Derived.Test.YtgpkigofbncamaaAdds
namespace Go.Proofs.Ytgpkigofbncamaa
open Go.RowKit Go.Sort

theorem S4.drew {a0 a1 a2 a3 : Addr} {x0 x1 x2 x3 : Value} {K : Nat} {W w : World} (h : S4 a0 a1 a2 a3 x0 x1 x2 x3 K W w) : S4 a0 a1 a2 a3 x0 x1 x2 x3 K W w.drew := ⟨h.1, h.2.1, h.2.2.1, h.2.2.2.1, h.2.2.2.2.drew⟩
theorem S4.alloc {a0 a1 a2 a3 : Addr} {x0 x1 x2 x3 : Value} {K : Nat} {W w : World} (h : S4 a0 a1 a2 a3 x0 x1 x2 x3 K W w) (hK : K ≤ W.heap.size) (o : Obj) : S4 a0 a1 a2 a3 x0 x1 x2 x3 K W (w.alloc o) := h.call hK ((Gr.refl _).alloc _).below

set_option maxRecDepth 20000 in
set_option maxHeartbeats 4000000 in
theorem muls_walk (a b c d : Int) (ha : inW a) (hb : inW b) (hc : inW c) (hd : inW d) (w : World) :
    Calls Try.prog 4 #[.agg #[.int .i64 a, .int .i64 b, .int .i64 c, .int .i64 d]] w fun e w' => e = .returned (.bool true) ∧ Below w.heap.size w w' := by
  have HA : Hid (inW a) := ha
  have HB : Hid (inW b) := hb
  have HC : Hid (inW c) := hc
  have HD : Hid (inW d) := hd
  clear ha hb hc hd
  go_enter Try.func4, Try.ntmps4
  go_upto_region 1 with fail
  have hG := ((Gr.refl w).alloc (.cells #[.int .i64 a, .int .i64 b, .int .i64 c, .int .i64 d] 45)).below
  generalize hW : w.alloc (.cells #[.int .i64 a, .int .i64 b, .int .i64 c, .int .i64 d] 45) = W at *
  have x0 : W.cell? ⟨w.heap.size, 0, none⟩ = some (.int .i64 a) := by subst hW; go_simp
  have x1 : W.cell? ⟨w.heap.size, 1, none⟩ = some (.int .i64 b) := by subst hW; go_simp
  have x2 : W.cell? ⟨w.heap.size, 2, none⟩ = some (.int .i64 c) := by subst hW; go_simp
  have x3 : W.cell? ⟨w.heap.size, 3, none⟩ = some (.int .i64 d) := by subst hW; go_simp
  clear hW
  go_upto_region 2 with (go_at_call 23; refine (cmpfrac_any a b c d _ HA.out.1 HA.out.2 HB.out.1 HB.out.2 HC.out.1 HC.out.2 HD.out.1 HD.out.2).mono ?_; rintro e w1 ⟨rfl, g1⟩)
  have hb1 := g1.below
  replace hG := hG.trans (hb1.mono hG.size)
  replace x0 := below_cell x0 hb1
  replace x1 := below_cell x1 hb1
  replace x2 := below_cell x2 hb1
  replace x3 := below_cell x3 hb1
  clear g1 hb1
  go_upto_region 3 with (go_at_call 24; refine (rcmpfrac_any a b c d _ HA.out HB.out HC.out HD.out).mono ?_; rintro e w2 ⟨rfl, hb1⟩)
  replace hG := hG.trans (hb1.mono hG.size)
  replace x0 := below_cell x0 hb1
  replace x1 := below_cell x1 hb1
  replace x2 := below_cell x2 hb1
  replace x3 := below_cell x3 hb1
  clear hb1
  generalize (if b = 0 ∨ d = 0 then 0 else fracI a b c d) = F1
  generalize (if b = 0 ∨ d = 0 then 13 else 0 : Int) = F2
  have hK : w2.heap.size ≤ w2.heap.size := Nat.le_refl _
  have hS0 : Hid (S4 ⟨w.heap.size, 0, none⟩ ⟨w.heap.size, 1, none⟩ ⟨w.heap.size, 2, none⟩ ⟨w.heap.size, 3, none⟩ (.int .i64 a) (.int .i64 b) (.int .i64 c) (.int .i64 d) w2.heap.size w2 w2.drew) := ⟨x0, x1, x2, x3, (Below.refl _ _).drew⟩
  go_region_held3 (S4 ⟨w.heap.size, 0, none⟩ ⟨w.heap.size, 1, none⟩ ⟨w.heap.size, 2, none⟩ ⟨w.heap.size, 3, none⟩ (.int .i64 a) (.int .i64 b) (.int .i64 c) (.int .i64 d) w2.heap.size w2)
    (first | with_reducible exact hS0.out | exact S4.call (by assumption) hK (by assumption))
    (first
      | (go_at_call 25; refine (cmpmul_any a b c d _ HA.out.1 HA.out.2 HB.out.1 HB.out.2 HC.out.1 HC.out.2 HD.out.1 HD.out.2).mono ?_; rintro e w3 ⟨rfl, hg3⟩; have hb3 := hg3.below)
      | (go_at_call 26; refine (rcmpmul_any a b c d _ HA.out HB.out HC.out HD.out).mono ?_; rintro e w4 ⟨rfl, hb4⟩))
  have hbW : Below w2.heap.size w2 w4 := (by assumption : S4 ⟨w.heap.size, 0, none⟩ ⟨w.heap.size, 1, none⟩ ⟨w.heap.size, 2, none⟩ ⟨w.heap.size, 3, none⟩ (.int .i64 a) (.int .i64 b) (.int .i64 c) (.int .i64 d) w2.heap.size w2 w4).2.2.2.2
  replace hG := hG.trans (hbW.mono hG.size)
  replace x0 := below_cell x0 hbW
  replace x1 := below_cell x1 hbW
  replace x2 := below_cell x2 hbW
  replace x3 := below_cell x3 hbW
  clear hS0 hbW hK
  go_upto_region 5 with fail
  have hK : w4.heap.size ≤ w4.heap.size := Nat.le_refl _
  have hB : w.heap.size < w4.heap.size := World.block_lt_of_cell? _ _ x0
  have SA : Hid (small a) := small_W HA.out
  have SB : Hid (small b) := small_W HB.out
  go_cut [7] (fun s7 w' => ∃ X7, s7 = .pointer (some ⟨X7, 0, none⟩) ∧ w4.heap.size ≤ X7 ∧ Vr w' X7 (a * b) ∧ Below w4.heap.size w4 w')
  case first =>
    have hS0 : Hid (S4 ⟨w.heap.size, 0, none⟩ ⟨w.heap.size, 1, none⟩ ⟨w.heap.size, 2, none⟩ ⟨w.heap.size, 3, none⟩ (.int .i64 a) (.int .i64 b) (.int .i64 c) (.int .i64 d) w4.heap.size w4 w4.drew) := ⟨x0, x1, x2, x3, (Below.refl _ _).drew⟩
    have hSW : Hid (S4 ⟨w.heap.size, 0, none⟩ ⟨w.heap.size, 1, none⟩ ⟨w.heap.size, 2, none⟩ ⟨w.heap.size, 3, none⟩ (.int .i64 a) (.int .i64 b) (.int .i64 c) (.int .i64 d) w4.heap.size w4 w4) := ⟨x0, x1, x2, x3, Below.refl _ _⟩
    go_region_held3 (S4 ⟨w.heap.size, 0, none⟩ ⟨w.heap.size, 1, none⟩ ⟨w.heap.size, 2, none⟩ ⟨w.heap.size, 3, none⟩ (.int .i64 a) (.int .i64 b) (.int .i64 c) (.int .i64 d) w4.heap.size w4)
      (repeat (first | with_reducible exact hS7.out | with_reducible exact hS6.out | with_reducible exact hS5.out | with_reducible exact hS0.out | with_reducible exact hSW.out | with_reducible refine S4.drew ?_ | with_reducible refine S4.alloc ?_ hK _ | (with_reducible refine S4.set ?_ (by simp only []; omega) (by simp only []; omega) (by simp only []; omega) (by simp only []; omega) (by simp only []; omega) _)))
      (first
        | (go_at_call_of 28 (Value.int IntKind.i64 a); refine (of_num a _ HA.out.1 HA.out.2).mono ?_; rintro e w5 ⟨z, rfl, hz5, hb5⟩; obtain ⟨r5, o5, l5, c5, rfl, hz5'⟩ := hz5.shape; clear hz5; have sz5 := hb5.size; have hS5 : Hid (S4 ⟨w.heap.size, 0, none⟩ ⟨w.heap.size, 1, none⟩ ⟨w.heap.size, 2, none⟩ ⟨w.heap.size, 3, none⟩ (.int .i64 a) (.int .i64 b) (.int .i64 c) (.int .i64 d) w4.heap.size w4 w5) := S4.call (by assumption) hK hb5; have sz5' : w4.heap.size ≤ w5.heap.size := hS5.out.2.2.2.2.size; first | (have a1 := (Bk.new w4 (.bool false) (.slice none 0 0)).drew.mono hb5 (by simp only [World.size_drew, World.size_alloc]; omega)) | skip)
        | (go_at_call_of 28 (Value.int IntKind.i64 b); refine (of_num b _ HB.out.1 HB.out.2).mono ?_; rintro e w6 ⟨z, rfl, hz6, hb6⟩; obtain ⟨r6, o6, l6, c6, rfl, hz6'⟩ := hz6.shape; clear hz6; have sz6 := hb6.size; have hS6 : Hid (S4 ⟨w.heap.size, 0, none⟩ ⟨w.heap.size, 1, none⟩ ⟨w.heap.size, 2, none⟩ ⟨w.heap.size, 3, none⟩ (.int .i64 a) (.int .i64 b) (.int .i64 c) (.int .i64 d) w4.heap.size w4 w6) := S4.call (by assumption) hK hb6; have sz6' : w4.heap.size ≤ w6.heap.size := hS6.out.2.2.2.2.size; have hz7 : Hid (Nm w6 (.agg #[.bool r5, .slice o5 l5 c5]) a) := (by first | with_reducible exact hmono hz5' hb6 | exact hmono (hmono hz5' ((Gr.refl _).alloc _).below) hb6); first | (have a2 := a1.mono hb6 a1.lt) | (have a2 := (Bk.new w5 (.bool false) (.slice none 0 0)).mono hb6 (by simp only [World.size_alloc]; omega)) | skip)
        | (go_at_call 27; refine (mul_num _ _ a b _ ?_ ?_ SA.out SB.out).mono ?_; (first | with_reducible exact hz7.out | exact hz7.out.mono ((Gr.refl _).alloc _).below); (first | with_reducible exact hz6'.out | exact hz6'.out.mono ((Gr.refl _).alloc _).below); rintro e w7 ⟨z, rfl, hz8, hb7⟩; obtain ⟨r7, o7, l7, c7, rfl, hz8'⟩ := hz8.shape; clear hz8; have sz7 := hb7.size; have hS7 : Hid (S4 ⟨w.heap.size, 0, none⟩ ⟨w.heap.size, 1, none⟩ ⟨w.heap.size, 2, none⟩ ⟨w.heap.size, 3, none⟩ (.int .i64 a) (.int .i64 b) (.int .i64 c) (.int .i64 d) w4.heap.size w4 w7) := S4.call (by assumption) hK hb7; have sz7' : w4.heap.size ≤ w7.heap.size := hS7.out.2.2.2.2.size; first | (have p1 := a2.mono hb7 a2.lt; have e0 := p1.c0; have e1 := p1.c1; have e2 := p1.f0; have e3 := p1.f1; have e4 := p1.lt) | (have p1 := (Bk.new w6 (.bool false) (.slice none 0 0)).mono hb7 (by simp only [World.size_alloc]; omega); have e0 := p1.c0; have e1 := p1.c1; have e2 := p1.f0; have e3 := p1.f1; have e4 := p1.lt) | skip))
    all_goals
      go_wp2
      go_meet
      case rel =>
        first
          | exact ⟨_, rfl, sz7', Vr.made hz8'.out, (hS7.out.2.2.2.2).trans (((Gr.refl _).alloc _).below.mono sz7')⟩
          | exact ⟨_, rfl, by omega, Vr.put p1 hz8'.out, keep2 hS7.out.2.2.2.2 (by omega) _ _⟩
  case rest =>
    obtain ⟨X7, rfl, hX7, ⟨r, o, l, cc, kx, hx⟩, hbl⟩ := hcut
    replace hG := hG.trans (hbl.mono hG.size)
    replace x0 := below_cell x0 hbl
    replace x1 := below_cell x1 hbl
    have y0 := kx.c0
    have y1 := kx.c1
    have M : Hid (Nm wc (.agg #[.bool r, .slice o l cc]) (a * b)) := hx
    have T : Hid (-p2 6000 < a * b ∧ a * b < p2 6000) := by
      have h := prod_bd HA.out HB.out
      unfold inI at h
      exact small_in (by omega) (by omega)
    clear hx hbl hX7 kx x2 x3 hK hB SA SB hb4 hb3 hg3
    have hK : wc.heap.size ≤ wc.heap.size := Nat.le_refl _
    have hS0 : Hid (S4 ⟨w.heap.size, 0, none⟩ ⟨w.heap.size, 1, none⟩ ⟨X7, 0, none⟩ ⟨X7, 1, none⟩ (.int .i64 a) (.int .i64 b) (.bool r) (.slice o l cc) wc.heap.size wc wc.drew) := ⟨x0, x1, y0, y1, (Below.refl _ _).drew⟩
    go_upto_region 6 with fail
    go_region_held3 (S4 ⟨w.heap.size, 0, none⟩ ⟨w.heap.size, 1, none⟩ ⟨X7, 0, none⟩ ⟨X7, 1, none⟩ (.int .i64 a) (.int .i64 b) (.bool r) (.slice o l cc) wc.heap.size wc)
      (first | with_reducible exact hS0.out | exact S4.call (by assumption) hK (by assumption))
      (first
        | (go_at_call 29; refine (wmul_any a b _ HA.out.1 HA.out.2 HB.out.1 HB.out.2).mono ?_; rintro e w8 ⟨rfl, hg8⟩; have hb8 := hg8.below)
        | (go_at_call 10; refine (is_any _ (a * b) _ (M.out.mono (by assumption : S4 ⟨w.heap.size, 0, none⟩ ⟨w.heap.size, 1, none⟩ ⟨X7, 0, none⟩ ⟨X7, 1, none⟩ (.int .i64 a) (.int .i64 b) (.bool r) (.slice o l cc) wc.heap.size wc _).2.2.2.2) T.out.1 T.out.2).mono ?_; rintro e w9 ⟨rfl, hb9⟩)
        | (go_at_call 30; refine (wgcd_any a b _ HA.out.1 HA.out.2 HB.out.1 HB.out.2).mono ?_; rintro e w10 ⟨rfl, hg10⟩; have hb10 := hg10.below)
        | (go_at_call 31; refine (rgcd_any a b _ HA.out.1 HA.out.2 HB.out.1 HB.out.2).mono ?_; rintro e w11 ⟨rfl, hb11⟩))
    have hbW : Below wc.heap.size wc w11 := (by assumption : S4 ⟨w.heap.size, 0, none⟩ ⟨w.heap.size, 1, none⟩ ⟨X7, 0, none⟩ ⟨X7, 1, none⟩ (.int .i64 a) (.int .i64 b) (.bool r) (.slice o l cc) wc.heap.size wc w11).2.2.2.2
    replace hG := hG.trans (hbW.mono hG.size)
    replace x0 := below_cell x0 hbW
    replace x1 := below_cell x1 hbW
    replace y0 := below_cell y0 hbW
    replace y1 := below_cell y1 hbW
    clear hS0 hbW hK M T
    go_upto_region 8 with fail
    have hK : w11.heap.size ≤ w11.heap.size := Nat.le_refl _
    have hS0 : Hid (S4 ⟨w.heap.size, 0, none⟩ ⟨w.heap.size, 1, none⟩ ⟨X7, 0, none⟩ ⟨X7, 1, none⟩ (.int .i64 a) (.int .i64 b) (.bool r) (.slice o l cc) w11.heap.size w11 w11.drew) := ⟨x0, x1, y0, y1, (Below.refl _ _).drew⟩
    have T1 : Hid (-p2 6000 < a ∧ a < p2 6000) := small_in (by have := HA.out.1; omega) (by have := HA.out.2; omega)
    have hU := wrap_u64_bd a
    have T2 : Hid (-p2 6000 < IntKind.u64.wrap a ∧ IntKind.u64.wrap a < p2 6000) := small_in (by omega) (by omega)
    go_region_held3 (S4 ⟨w.heap.size, 0, none⟩ ⟨w.heap.size, 1, none⟩ ⟨X7, 0, none⟩ ⟨X7, 1, none⟩ (.int .i64 a) (.int .i64 b) (.bool r) (.slice o l cc) w11.heap.size w11)
      (first | with_reducible exact hS0.out | exact S4.call (by assumption) hK (by assumption))
      (first
        | (go_at_call 32; refine (wof_any a _ HA.out.1 HA.out.2).mono ?_; rintro e w12 ⟨rfl, hg12⟩; have hb12 := hg12.below)
        | (go_at_call 28; refine (of_num a _ HA.out.1 HA.out.2).mono ?_; rintro e w13 ⟨z, rfl, hz, hb13⟩; obtain ⟨r3, o3, l3, q3, rfl, hz3⟩ := hz.shape; clear hz)
        | (go_at_call 33; refine (wuns_any (IntKind.u64.wrap a) _ hU.1 (by omega)).mono ?_; rintro e w12 ⟨rfl, hg12⟩; have hb12 := hg12.below)
        | (go_at_call 34; refine (uns_num (IntKind.u64.wrap a) _ hU.1 (by omega)).mono ?_; rintro e w13 ⟨z, rfl, hz, hb13⟩; obtain ⟨r3, o3, l3, q3, rfl, hz3⟩ := hz.shape; clear hz)
        | (go_at_call_of 10 (Value.int IntKind.i64 (hiI a)); refine (is_any _ a _ hz3.out T1.out.1 T1.out.2).mono ?_; rintro e w14 ⟨rfl, hb14⟩)
        | (go_at_call_of 10 (Value.int IntKind.i64 (hiI (IntKind.u64.wrap a))); refine (is_any _ (IntKind.u64.wrap a) _ hz3.out T2.out.1 T2.out.2).mono ?_; rintro e w14 ⟨rfl, hb14⟩))
    have hbW : Below w11.heap.size w11 w14 := (by assumption : S4 ⟨w.heap.size, 0, none⟩ ⟨w.heap.size, 1, none⟩ ⟨X7, 0, none⟩ ⟨X7, 1, none⟩ (.int .i64 a) (.int .i64 b) (.bool r) (.slice o l cc) w11.heap.size w11 w14).2.2.2.2
    replace hG := hG.trans (hbW.mono hG.size)
    clear hS0 hbW hK T1 T2
    go_wp2
    go_ret
    exact ⟨rfl, hG⟩
end Go.Proofs.Ytgpkigofbncamaa
