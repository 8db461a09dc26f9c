/- Contract of the reference's text of a number. -/
import Derived.Test.YtgpkigofbncamaaDoorLaw
import Derived.Test.YtgpkigofbncamaaDoorDec
import Derived.Deep.LoopGhost
import Derived.Laws.IdiomStrings
import Derived.Laws.Concat
namespace Go.Proofs.YtgpkigofbncamaaDoor
open Go.RowKit Go.Sort Go.Lib

theorem hmono {w w' : World} {x : Value} {n : Int} (h : Hid (Nm w x n)) (g : Below w.heap.size w w') : Hid (Nm w' x n) := h.out.mono g
theorem conv_one (w : World) {d : Nat} (h : d < 10) : (convert 51 9 (.slice (some ⟨w.heap.size, 0, none⟩) 1 1)).run Tryd.prog (w.alloc (.cells #[.int .u8 (48 + (d : Int))] 5)) = .ok (.string ⟨[dsg d].toArray⟩) (w.alloc (.cells #[.int .u8 (48 + (d : Int))] 5)) := by
  refine run_convert_bytes_back (P := Tryd.prog) _ 51 9 5 ⟨w.heap.size, 0, none⟩ 1 [dsg d] (by kernel_rfl) (by kernel_rfl) (by kernel_rfl) ?_
  intro j hj
  have : j = 0 := by simpa using hj
  subst this
  have e : ([dsg d][0].toNat : Int) = 48 + (d : Int) := by
    show ((dsg d).toNat : Int) = _
    rw [dsg_nat h]; omega
  rw [e]
  simp [Addr.add]
theorem hid' {p : Prop} (h : p) : Hid p := h
/-- A number's text. -/
def textI (m : Int) : List UInt8 := if m < 0 then 45 :: decDigits m.natAbs else decDigits m.natAbs

set_option maxRecDepth 20000 in
set_option maxHeartbeats 4000000 in
theorem rtext_num (x : Value) (m : Int) (w : World) (hx : Nm w x m) (hm : inI m) (hlen : (decDigits m.natAbs).length ≤ 60) :
    Calls Tryd.prog 6 #[x] w fun e w' => e = .returned (.string ⟨(textI m).toArray⟩) ∧ Below w.heap.size w w' := by
  obtain ⟨s, ao, la, ca, rfl, hx'⟩ := hx.shape
  have hb0 := below2 w (.cells #[.bool s, .slice ao la ca] 31) (.cells #[.bool false, .slice ao la ca] 31)
  have k0 : Bk ((w.alloc (.cells #[.bool s, .slice ao la ca] 31)).alloc (.cells #[.bool false, .slice ao la ca] 31)) w.heap.size (.bool s) (.slice ao la ca) := (Bk.new w _ _).alloc _
  have hS : Hid (s = decide (m < 0)) := hx'.out.sign
  have hA : m.natAbs ≤ 170141183460469231731687303715884105728 := by unfold inI at hm; omega
  have v3 : Vr ((w.alloc (.cells #[.bool s, .slice ao la ca] 31)).alloc (.cells #[.bool false, .slice ao la ca] 31)) (w.heap.size + 1) ((m.natAbs : Nat) : Int) :=
    ⟨false, ao, la, ca, Bk.new' w _ _ _, (hx'.out.mono hb0).abs⟩
  have bg := big_6000
  have HX : Hid (textI m = if s then 45 :: decDigits m.natAbs else decDigits m.natAbs) := by
    unfold Hid textI; rw [hS.out]; by_cases c : m < 0 <;> simp [c]
  clear hx hx' hm
  generalize m.natAbs = A at *
  go_enter Tryd.func6, Tryd.ntmps6
  go_wp2
  generalize (w.alloc (.cells #[.bool s, .slice ao la ca] 31)).alloc (.cells #[.bool false, .slice ao la ca] 31) = W at *
  have l0 := v3.lt
  have hB : Below (w.heap.size + 1) W W := Below.refl _ _
  go_loopg [3] (A + 1) (fun gk f wr => ∃ (y : Nat) (suf : List UInt8), gk = y + 1 ∧ y ≤ A ∧ f = .string ⟨suf.toArray⟩ ∧ Hid (decDigits A = decDigits y ++ suf) ∧ Vr wr (w.heap.size + 1) ((y : Nat) : Int) ∧ Below (w.heap.size + 1) W wr)
  case atStart => exact ⟨A, [], rfl, Nat.le_refl _, rfl, by unfold Hid; simp, v3, hB⟩
  case round =>
    clear v3 hB
    obtain ⟨y, suf, hgk, hy, rfl, hD, v3, hB⟩ := hrel
    have hbw : Below w.heap.size w wr := hb0.trans (hB.mono (by omega))
    have szw := hB.size
    have hsuf : suf.length ≤ 60 := by have := hD.out; rw [this, List.length_append] at hlen; omega
    have v3' := v3
    obtain ⟨r1, o1, l1, c1, k3, n3⟩ := v3'
    have N3 : Hid (Nm wr (.agg #[.bool r1, .slice o1 l1 c1]) ((y : Nat) : Int)) := n3
    have x0 := k3.c0
    have x1 := k3.c1
    have v0 : 0 ≤ ((y : Nat) : Int) := Int.natCast_nonneg _
    have v1 : ((y : Nat) : Int) < p2 6000 := by omega
    have hM1 : Hid (((y : Nat) : Int) / 10 = ((y / 10 : Nat) : Int)) := by unfold Hid; omega
    have hM2 : Hid (((y : Nat) : Int) % 10 = ((y % 10 : Nat) : Int)) := by unfold Hid; omega
    clear n3 k3
    generalize hV : ((y : Nat) : Int) = V at *
    clear hV
    have hlt3 := v3.lt
    go_wp2
    go_cut [5, 6] (fun s7 s8 w' => ∃ X7 X8, s7 = .pointer (some ⟨X7, 0, none⟩) ∧ s8 = .pointer (some ⟨X8, 0, none⟩) ∧ wr.heap.size ≤ X7 ∧ wr.heap.size ≤ X8 ∧ X7 ≠ X8 ∧ Vr w' X7 (V / 10) ∧ Vr w' X8 (V % 10) ∧ Below wr.heap.size wr w')
    case first =>
      have hS0 : Hid (S2 ⟨w.heap.size + 1, 0, none⟩ ⟨w.heap.size + 1, 1, none⟩ (.bool r1) (.slice o1 l1 c1) wr wr.drew) := ⟨x0, x1, (Below.refl _ _).drew⟩
      have hSW : Hid (S2 ⟨w.heap.size + 1, 0, none⟩ ⟨w.heap.size + 1, 1, none⟩ (.bool r1) (.slice o1 l1 c1) wr wr) := ⟨x0, x1, Below.refl _ _⟩
      go_region_held3 (S2 ⟨w.heap.size + 1, 0, none⟩ ⟨w.heap.size + 1, 1, none⟩ (.bool r1) (.slice o1 l1 c1) wr)
        (repeat (first | with_reducible exact hS3.out | with_reducible exact hS2.out | with_reducible exact hS0.out | with_reducible exact hSW.out | with_reducible refine S2.drew ?_ | with_reducible refine S2.alloc ?_ _ | (with_reducible refine S2.set ?_ (by simp only []; omega) (by simp only []; omega) (by simp only []; omega) _)))
        (first
          | (go_at_call 16; refine (uns_num 10 _ (by omega) (by omega)).mono ?_; rintro e y2 ⟨z, rfl, hz2, hb2⟩; obtain ⟨r2, o2, l2, c2, rfl, hz2'⟩ := hz2.shape; clear hz2; have sz2 := hb2.size; have hS2 : Hid (S2 ⟨w.heap.size + 1, 0, none⟩ ⟨w.heap.size + 1, 1, none⟩ (.bool r1) (.slice o1 l1 c1) wr y2) := S2.call (by assumption) hb2; have sz2' : wr.heap.size ≤ y2.heap.size := hS2.out.2.2.size; first
              | (have a1 := ((Bk.new wr (.bool false) (.slice none 0 0)).alloc (.cells #[.bool false, .slice none 0 0] 31)).drew.mono hb2 (by simp only [World.size_drew, World.size_alloc]; omega); have a2 := (Bk.new' wr (.bool false) (.slice none 0 0) (.cells #[.bool false, .slice none 0 0] 31)).drew.mono hb2 (by simp only [World.size_drew, World.size_alloc]; omega))
              | (have a1 := (Bk.new wr (.bool false) (.slice none 0 0)).drew.mono hb2 (by simp only [World.size_drew, World.size_alloc]; omega))
              | skip)
          | (go_at_call 15; refine (div_num _ _ (V) 10 _ ?_ ?_ v0 (by omega) v1 (by omega)).mono ?_; exact N3.out.mono (by assumption : S2 ⟨w.heap.size + 1, 0, none⟩ ⟨w.heap.size + 1, 1, none⟩ (.bool r1) (.slice o1 l1 c1) wr _).2.2; (first | exact hz2'.out | exact hz2'.out.mono ((Gr.refl _).alloc _).below | exact hz2'.out.mono (below2 _ _ _)); rintro e y3 ⟨z1, z2, rfl, hq, hl, hb3⟩; obtain ⟨r3, o3, l3, c3, rfl, hq'⟩ := hq.shape; obtain ⟨r4, o4, l4, c4, rfl, hl'⟩ := hl.shape; clear hq hl; have sz3 := hb3.size; have hS3 : Hid (S2 ⟨w.heap.size + 1, 0, none⟩ ⟨w.heap.size + 1, 1, none⟩ (.bool r1) (.slice o1 l1 c1) wr y3) := S2.call (by assumption) hb3; have sz3' : wr.heap.size ≤ y3.heap.size := hS3.out.2.2.size; first
              | (have p1 := a1.mono hb3 a1.lt; have p3 := a2.mono hb3 a2.lt; have e0 := p1.c0; have e1 := p1.c1; have e2 := p1.f0; have e3 := p1.f1; have e4 := p1.lt; have f0 := p3.c0; have f1 := p3.c1; have f2 := p3.f0; have f3 := p3.f1; have f4 := p3.lt)
              | (have ne1 := Nat.ne_of_lt a1.lt; have ne2 := ne1.symm; have p1 := (a1.alloc (.cells #[.bool false, .slice none 0 0] 31)).mono hb3 (Nat.lt_of_lt_of_le a1.lt (by simp only [World.size_alloc]; omega)); have p3 := (Bk.new y2 (.bool false) (.slice none 0 0)).mono hb3 (by simp only [World.size_alloc]; omega); have e0 := p1.c0; have e1 := p1.c1; have e2 := p1.f0; have e3 := p1.f1; have e4 := p1.lt; have f0 := p3.c0; have f1 := p3.c1; have f2 := p3.f0; have f3 := p3.f1; have f4 := p3.lt)
              | (have p1 := a1.mono hb3 a1.lt; have e0 := p1.c0; have e1 := p1.c1; have e2 := p1.f0; have e3 := p1.f1; have e4 := p1.lt)
              | (have p1 := ((Bk.new y2 (.bool false) (.slice none 0 0)).alloc (.cells #[.bool false, .slice none 0 0] 31)).mono hb3 (by simp only [World.size_alloc]; omega); have p3 := (Bk.new' y2 (.bool false) (.slice none 0 0) (.cells #[.bool false, .slice none 0 0] 31)).mono hb3 (by simp only [World.size_alloc]; omega); have e0 := p1.c0; have e1 := p1.c1; have e2 := p1.f0; have e3 := p1.f1; have e4 := p1.lt; have f0 := p3.c0; have f1 := p3.c1; have f2 := p3.f0; have f3 := p3.f1; have f4 := p3.lt)
              | (have p1 := (Bk.new y2 (.bool false) (.slice none 0 0)).mono hb3 (by simp only [World.size_alloc]; omega); have e0 := p1.c0; have e1 := p1.c1; have e2 := p1.f0; have e3 := p1.f1; have e4 := p1.lt)
              | skip))
      all_goals
        go_wp2
        go_meet
        case rel =>
          have hbW := hS3.out.2.2
          refine ⟨_, _, rfl, rfl, ?_, ?_, ?_, ?_⟩
          · omega
          · omega
          · omega
          · first
              | with_reducible exact finA hq'.out hl'.out hbW sz3'
              | with_reducible exact turn3 (finA hl'.out hq'.out hbW sz3')
              | with_reducible exact finB p1 hq'.out hl'.out hbW (by omega)
              | with_reducible exact turn3 (finB p1 hl'.out hq'.out hbW (by omega))
              | with_reducible exact finC p1 p3 (by omega) hq'.out hl'.out hbW (by omega) (by omega)
              | with_reducible exact finC p3 p1 (by omega) hq'.out hl'.out hbW (by omega) (by omega)
    case rest =>
      obtain ⟨X7, X8, rfl, rfl, h7, h8, hne, v7, v8, hbl⟩ := hcut
      rw [hM1.out] at v7
      rw [hM2.out] at v8
      obtain ⟨lr, lo, ll, lc, kl, hl⟩ := v8
      have z0 := kl.c0
      have z1 := kl.c1
      have NL : Hid (Nm wc (.agg #[.bool lr, .slice lo ll lc]) ((y % 10 : Nat) : Int)) := hl
      have hd : y % 10 < 10 := Nat.mod_lt _ (by omega)
      have hD2 : Hid (decDigits A = (if y / 10 = 0 then [] else decDigits (y / 10)) ++ (dsg (y % 10) :: suf)) := by
        unfold Hid; rw [hD.out, dec_step y, List.append_assoc]; rfl
      generalize y % 10 = dd at *
      go_upto_region 5 with (go_at_call 17; refine (word_num _ ((dd : Nat) : Int) _ NL.out (by omega) (by omega)).mono ?_; rintro e w9 ⟨rfl, g9⟩; have RC := conv_one w9 hd; have RS := fun w => run_string_add_lists (P := Tryd.prog) w [dsg dd] suf (by simp) (by omega))
      have g10 := g9.alloc (.cells #[.int .u8 (48 + (dd : Int))] 5)
      have hb10 := hbl.trans (g10.below.mono hbl.size)
      replace v3 := v3.mono hb10
      replace v7 := v7.mono g10.below
      replace hB := hB.trans (hb10.mono (by omega))
      clear RC RS NL hl z0 z1 x0 x1 kl hbl g9 g10 hb10 N3 hM1 hM2 v0 v1
      generalize w9.alloc (.cells #[.int .u8 (48 + (dd : Int))] 5) = W9 at *
      obtain ⟨qr, qo, ql, qc, kq, nq⟩ := v7
      obtain ⟨b1, b2, b3, b4, k3, n3⟩ := v3
      have hz := nq.len0
      have z0 := kq.c0
      have z1 := kq.c1
      have e0 := k3.c0
      have e1 := k3.c1
      have e2 := k3.f0
      have e3 := k3.f1
      have HV : Hid (Vr ((W9.setCell ⟨w.heap.size + 1, 0, none⟩ (.bool qr)).setCell ⟨w.heap.size + 1, 1, none⟩ (.slice qo ql qc)) (w.heap.size + 1) ((y / 10 : Nat) : Int)) := Vr.put k3 nq
      have HB := hid' (keep2 hB (Nat.le_refl _) (.bool qr) (.slice qo ql qc))
      have sz := hB.size
      have kb := ((k0.mono hB (by omega)).other (p := ⟨w.heap.size + 1, 0, none⟩) (by simp only []; omega) (.bool qr)).other (p := ⟨w.heap.size + 1, 1, none⟩) (by simp only []; omega) (.slice qo ql qc)
      by_cases hy0 : y / 10 = 0
      · have hq : ql = 0 := hz.2 (by omega)
        subst hq
        have hT : Hid (decDigits A = dsg dd :: suf) := by unfold Hid; rw [hD2.out, if_pos hy0]; rfl
        have hl2 : (dsg dd :: suf).length ≤ 60 := by rw [← hT.out]; exact hlen
        have b0 := kb.c0
        clear hz nq n3 hD hD2 hy0
        go_upto_region 7 with fail
        generalize (W9.setCell ⟨w.heap.size + 1, 0, none⟩ (.bool qr)).setCell ⟨w.heap.size + 1, 1, none⟩ (.slice qo 0 qc) = WA at *
        have hbf : Below w.heap.size w WA := hb0.trans (HB.out.mono (by omega))
        cases s with
        | false =>
          have E : Hid (textI m = dsg dd :: suf) := by unfold Hid; rw [HX.out, ← hT.out]; simp
          go_wp2
          go_ret
          exact ⟨by rw [E.out]; rfl, hbf⟩
        | true =>
          have E : Hid (textI m = 45 :: (dsg dd :: suf)) := by unfold Hid; rw [HX.out, ← hT.out]; simp
          have RS := fun w => run_string_add_lists (P := Tryd.prog) w [45] (dsg dd :: suf) (by simp) (by omega)
          go_wp2
          go_ret
          exact ⟨by rw [E.out]; rfl, hbf⟩
      · have hq : ql ≠ 0 := fun e => hy0 (by have := hz.1 e; omega)
        have hq' : ((ql : Int) == 0) = false := by simp; omega
        have hT : Hid (decDigits A = decDigits (y / 10) ++ (dsg dd :: suf)) := by unfold Hid; rw [hD2.out, if_neg hy0]
        have hlt : y / 10 + 1 < y + 1 := by omega
        have hle : y / 10 ≤ A := by omega
        clear hz nq n3 hD hD2 hy0
        subst hgk
        go_wp2
        go_roundg (y / 10 + 1)
        case measure => exact hlt
        case rel => exact ⟨y / 10, dsg dd :: suf, rfl, hle, rfl, hT, HV.out, HB.out⟩
end Go.Proofs.YtgpkigofbncamaaDoor
