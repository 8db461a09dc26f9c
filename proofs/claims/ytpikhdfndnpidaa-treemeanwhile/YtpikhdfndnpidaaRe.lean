/- The reference's Put: its walk. -/
import Derived.Test.YtpikhdfndnpidaaRd
import Derived.Deep.CutBlock
set_option linter.unusedSimpArgs false
set_option linter.unusedVariables false
namespace Go.Proofs.Ytpikhdfndnpidaa
open Go.RowKit Go.Sort Go.Shelf

/-- k is one of the reference's rows. -/
def RefB (w : World) (R k : Nat) : Prop := ∃ iv bw, Bk w R 29 [iv, bw] ∧ (iv.ownBlock = some k ∨ bw.ownBlock = some k)
/-- What a call of the reference's may change. -/
structure RCh (w w' : World) (base R : Nat) : Prop where
  below : Below base w w'
  keep : ∀ k, k < w.heap.size → k ≠ R → ¬ RefB w R k → w'.heap[k]? = w.heap[k]?
  rows : ∀ k, RefB w' R k → RefB w R k ∨ w.heap.size ≤ k
  size : w.heap.size ≤ w'.heap.size
theorem RCh.trans {a b c : World} {base R : Nat} (h : RCh a b base R) (k : RCh b c base R) : RCh a c base R := by
  refine ⟨h.below.trans k.below, fun j hj hR hn => ?_, fun j hj => ?_, Nat.le_trans h.size k.size⟩
  · have hb : ¬ RefB b R j := fun hb => (h.rows j hb).elim hn (fun h => by omega)
    exact (k.keep j (Nat.lt_of_lt_of_le hj h.size) hR hb).trans (h.keep j hj hR hn)
  · rcases k.rows j hj with h1 | h1
    · exact h.rows j h1
    · have := h.size; exact .inr (by omega)
theorem RCh.gr {w w' : World} {base R : Nat} {l : List Value} (k : Bk w R 29 l) (g : Gr w w') (hb : base ≤ w.heap.size) : RCh w w' base R := by
  refine ⟨g.below.mono hb, fun j hj _ _ => g.below.block j hj, fun j hj => ?_, g.size⟩
  obtain ⟨iv, bw, h1, h2⟩ := hj
  have h3 := k.gr g
  have e : l = [iv, bw] := by
    unfold Bk at h1 h3
    rw [h3] at h1
    simpa using h1
  exact .inl ⟨iv, bw, e ▸ k, h2⟩
theorem bk_same {w : World} {R : Nat} {iv bw iv' bw' : Value} (h : Bk w R 29 [iv, bw]) (k : Bk w R 29 [iv', bw']) : iv = iv' ∧ bw = bw' := by
  unfold Bk at h k
  rw [h] at k
  simpa using k
theorem Try.info36 : (Try.prog.info? 36).map (fun i => (i.zero, i.size, i.bytes)) = some (some (.agg #[.int .i32 0, .int .i32 0, .int .i32 0, .int .i32 0]), 4, 16) := by kernel_rfl
theorem four_new (w : World) (x0 x1 x2 x3 : Value) : ∀ (j : Nat) (u : Value), [x0, x1, x2, x3][j]? = some u → (w.alloc (.cells #[x0, x1, x2, x3] 36)).cell? ((⟨w.heap.size, 0, none⟩ : Addr).add j) = some u := by
  intro j u hj
  rw [add_zero, (Bk.new w 36 [x0, x1, x2, x3]).at j]
  exact hj
/-- R is no row. -/
theorem not_row {w : World} {base e s n R : Nat} {v : Value} {xs l : List Value} (o : w.ownsRow base e s v n xs) (k : Bk w R 29 l) (he : e ≠ 29) : v.ownBlock ≠ some R := fun h => by
  obtain ⟨_, _, cur, hc⟩ := own_lt o h
  unfold Bk at k
  rw [k] at hc
  cases hc
  exact he rfl
/-- A row of the reference's is grown and laid into R. -/
theorem RCh.grow {w w1 : World} {base R : Nat} {iv bw v' tmp : Value} {T : Obj} {c : Nat} (k : Bk w R 29 [iv, bw]) (hbR : base ≤ R) (hb : base ≤ w.heap.size) (old : Option Nat) (hold : old = iv.ownBlock ∧ c = 0 ∨ old = bw.ownBlock ∧ c = 1) (hol : ∀ g, old = some g → base ≤ g ∧ g ≠ R)
    (hg : (w.alloc T).grownBy w1 old) (hat : v'.ownBlock = old ∨ v'.ownBlock = some (w.alloc T).heap.size) : RCh w (w1.setCell ⟨R, c, none⟩ v') base R := by
  have k1 : Bk (w.alloc T) R 29 [iv, bw] := k.alloc T
  have k2 : Bk w1 R 29 [iv, bw] := k1.same (hg.block R k1.lt (fun e => (hol R e.symm).2 rfl))
  have sz : w.heap.size ≤ w1.heap.size := by have := hg.size; simp at this; omega
  refine ⟨?_, fun m hm hR hn => ?_, fun m hm => ?_, by simp [World.setCell]; omega⟩
  · have b1 : Below base w (w.alloc T) := (Below.refl base w).alloc hb T
    exact (b1.grown hg (by simp; omega) (fun r e => (hol r e).1)).setCell (p := ⟨R, c, none⟩) hbR v'
  · rw [Below.heap_setCell _ _ _ _ (show m ≠ R from hR), hg.block m (by simp; omega) (fun e => hn ⟨iv, bw, k, by rcases hold with ⟨h, _⟩ | ⟨h, _⟩ <;> simp [← h, e]⟩)]
    exact ((Gr.refl w).alloc T).below.block m hm
  · obtain ⟨iv', bw', h1, h2⟩ := hm
    have k3 := k2.set c v'
    rcases hold with ⟨h, rfl⟩ | ⟨h, rfl⟩
    · obtain ⟨rfl, rfl⟩ := bk_same k3 h1
      rcases h2 with h2 | h2
      · rcases hat with e | e
        · exact .inl ⟨iv, bw, k, .inl (by rw [← h, ← e, h2])⟩
        · rw [h2] at e; simp at e; exact .inr (by omega)
      · exact .inl ⟨iv, bw, k, .inr h2⟩
    · obtain ⟨rfl, rfl⟩ := bk_same k3 h1
      rcases h2 with h2 | h2
      · exact .inl ⟨iv, bw, k, .inl h2⟩
      · rcases hat with e | e
        · exact .inl ⟨iv, bw, k, .inr (by rw [← h, ← e, h2])⟩
        · rw [h2] at e; simp at e; exact .inr (by omega)
/-- A store into a row of the reference's. -/
theorem RCh.row {w : World} {base R g j : Nat} {iv bw : Value} (k : Bk w R 29 [iv, bw]) (hg : iv.ownBlock = some g ∨ bw.ownBlock = some g) (ne : R ≠ g) (hb : base ≤ g) (u : Value) : RCh w (w.setCell ⟨g, j, none⟩ u) base R := by
  refine ⟨(Below.refl base w).setCell (p := ⟨g, j, none⟩) hb u, fun m hm hR hn => Below.heap_setCell _ _ _ _ (fun e => hn ⟨iv, bw, k, e ▸ hg⟩), fun m hm => ?_, by simp [World.setCell]⟩
  obtain ⟨iv', bw', h1, h2⟩ := hm
  obtain ⟨rfl, rfl⟩ := bk_same (k.other (a := ⟨g, j, none⟩) ne u) h1
  exact .inl ⟨iv, bw, k, h2⟩
set_option maxRecDepth 20000 in
set_option maxHeartbeats 8000000 in
theorem rput_ok (base R : Nat) (l : List E) (i : Int) (q : Q4) (w : World) (h : RefIs w base R l) (s : PT.Srt l) (hz : putE i q l = 0) (hbw : base ≤ w.heap.size) :
    Calls Try.prog 14 #[.pointer (some ⟨R, 0, none⟩), .int .u32 i, bv q] w fun e w' => e = .returned (.int .i64 0) ∧ RefIs w' base R (insL i q l) ∧ RCh w w' base R := by
  obtain ⟨cq, ch, cl⟩ := putE_zero.1 hz
  obtain ⟨i0, hi, hz0, hz1, hz2⟩ := info_parts Try.info32
  obtain ⟨W, hW⟩ : ∃ W, W = w.alloc (.cells #[.int .i32 q.1, .int .i32 q.2.1, .int .i32 q.2.2.1, .int .i32 q.2.2.2] 36) := ⟨_, rfl⟩
  have g0 : Gr w W := hW ▸ (Gr.refl w).alloc _
  have kb : Bk W w.heap.size 36 [.int .i32 q.1, .int .i32 q.2.1, .int .i32 q.2.2.1, .int .i32 q.2.2.2] := hW ▸ Bk.new w 36 _
  have RR := hid0 (rright_any q.1 q.2.1 q.2.2.1 q.2.2.2 W)
  rw [show rgB q.1 q.2.1 q.2.2.1 q.2.2.2 = true from cq] at RR
  have PL : Hid (∀ V, Gr W V → Calls Try.prog 35 #[.pointer (some ⟨R, 0, none⟩), .int .u32 i] V fun e w' => e = .returned (.tuple #[.int .i64 (posL i l : Nat), .bool false]) ∧ Gr V w') := fun V g => by
    have := place_any base R l i V ((h.gr g0).gr g) s (by omega)
    rw [ch] at this
    exact this
  obtain ⟨hbR, iv, bw, kR, o1, o2⟩ := h
  have KR0 := hid0 kR
  have HBW := hid0 hbw
  have OB : Hid (∀ g, bw.ownBlock = some g → g < w.heap.size) := fun g e => (own_lt o2 e).1
  have S0 := hid0 s
  obtain ⟨N, hN⟩ : ∃ N, N = l.length := ⟨_, rfl⟩
  have HN := hid0 hN
  obtain ⟨P, hP⟩ : ∃ P, P = posL i l := ⟨_, rfl⟩
  have HP := hid0 hP
  rw [← hP] at PL
  have hPN : P ≤ N := by rw [hP, hN]; exact List.length_filter_le _ _
  have hN6 : N < 65536 := by omega
  rw [← hN] at o1 o2
  obtain ⟨y0, y1, y2, y3⟩ := kb.four
  clear s hN hP cl cq hz
  go_enter Try.func14, Try.ntmps14
  go_upto_region 1 with fail
  rw [← hW]
  clear hW
  obtain ⟨BE, hBE⟩ : ∃ BE, BE = w.heap.size := ⟨_, rfl⟩
  rw [← hBE] at kb y0 y1 y2 y3 ⊢
  have HBE := hid0 hBE
  clear hBE
  go_wp2_with fail
  refine RR.out.mono ?_
  rintro e v1 ⟨rfl, g1⟩
  clear y0 y1 y2 y3 RR
  go_wp2_with fail
  refine (PL.out _ g1).mono ?_
  rintro e v2 ⟨rfl, g2⟩
  have gA := (g0.trans g1).trans g2
  have kR2 := kR.gr gA
  have kb2 := kb.gr (g1.trans g2)
  have o1' : v2.ownsRow base 32 1 iv N (idC l) := own_keep o1 gA.grownBy (fun _ _ e => by cases e)
  have o2' : v2.ownsRow base 36 4 bw N (boxC l) := own_keep o2 gA.grownBy (fun _ _ e => by cases e)
  have hb2 : base ≤ v2.heap.size := Nat.le_trans hbw gA.size
  clear PL g1 g2
  obtain ⟨j0, hj, hj0, hj1, hj2⟩ := info_parts Try.info36
  have r0 := kR2.at 0
  have r1 := kR2.at 1
  simp only [List.getElem?_cons_zero, List.getElem?_cons_succ] at r0 r1
  obtain ⟨ai, ci0, hiv⟩ : ∃ ao c, iv = .slice ao N c := by
    rcases o1'.2 with ⟨e, h0⟩ | ⟨g, c, cur, e, _⟩
    · exact ⟨none, 0, by rw [e, h0]⟩
    · exact ⟨_, _, e⟩
  have hn1 := not_row o1' kR2 (by decide)
  have hn2 := not_row o2' kR2 (by decide)
  have fR0 := kR2.frozen 0
  have c65 : decide ((65536 : Int) ≤ (N : Int)) = false := decide_eq_false (by omega)
  have HN6 : Hid (N < 65536) := hN6
  clear hN6
  subst hiv
  have OH1 := hid0 o1'
  have OH2 := hid0 o2'
  clear o1 o2 o1' o2'
  replace hn1 := hid0 hn1
  replace hn2 := hid0 hn2
  have HBR := hid0 hbR
  have CH := hid0 ch
  have HB2 := hid0 hb2
  have HGA := hid0 gA
  clear kR hbR ch hb2 gA g0 kb hbw
  go_upto_region 8 with fail
  go_upto_region 9 with (at_builtin; refine wpList_append_own_at _ rfl (.tmp 30) (.tmp 31) 26 rfl base 32 i0 (.int .u32 0) 1 4 Try.underlying26 hi hz0 hz1 hz2 rfl (by decide) (.slice ai N ci0) N (idC l) rfl (OH1.out.alloc _) ⟨v2.heap.size, 0, none⟩ 1 1 [.int .u32 0] rfl rfl (one_new _ _) (by simp [Value.oneCell']) (by have := HN6.out; unfold maxLen; omega) (by have := HN6.out; omega) (by have := HB2.out; simp; omega) ?_; intro v' w1 hown' hgrow _ hat; obtain ⟨gi, ci, rfl⟩ := ownsRow_succ hown'; have kA : Bk w1 R 29 [.slice ai N ci0, bw] := (kR2.alloc _).same (hgrow.block R (kR2.alloc _).lt (fun e => hn1.out e.symm)); have q0 := kA.at 0; have q1 := kA.frozen 0; simp only [List.getElem?_cons_zero, List.getElem?_cons_succ] at q0)
  have hgr : (v2.alloc (.cells #[.int .u32 0] 32)).grownBy w1 (Value.slice ai N ci0).ownBlock := hgrow
  have hat' : (Value.slice (some ⟨gi, 0, none⟩) (N + 1) ci).ownBlock = (Value.slice ai N ci0).ownBlock ∨ (Value.slice (some ⟨gi, 0, none⟩) (N + 1) ci).ownBlock = some (v2.alloc (.cells #[.int .u32 0] 32)).heap.size := hat
  have RC1 : Hid (RCh v2 (w1.setCell ⟨R, 0, none⟩ (.slice (some ⟨gi, 0, none⟩) (N + 1) ci)) base R) := RCh.grow (tmp := .nilFunc) kR2 HBR.out HB2.out _ (.inl ⟨rfl, rfl⟩) (fun g e => ⟨(own_lt OH1.out e).2.1, fun e' => hn1.out (by rw [e, e'])⟩) hgr hat'
  have kX : Bk (w1.setCell ⟨R, 0, none⟩ (.slice (some ⟨gi, 0, none⟩) (N + 1) ci)) R 29 [.slice (some ⟨gi, 0, none⟩) (N + 1) ci, bw] := kA.set 0 _
  have n1R : gi ≠ R := fun e => not_row hown' kA (by decide) (by rw [← e]; rfl)
  have OX1 : Hid ((w1.setCell ⟨R, 0, none⟩ (.slice (some ⟨gi, 0, none⟩) (N + 1) ci)).ownsRow base 32 1 (.slice (some ⟨gi, 0, none⟩) (N + 1) ci) (N + 1) (idC l ++ [.int .u32 0])) := own_keep hown' (ch_set w1 R 0 _) (fun g e e' => by simp [Value.ownBlock] at e; cases e'; exact n1R e)
  have OX2 : Hid ((w1.setCell ⟨R, 0, none⟩ (.slice (some ⟨gi, 0, none⟩) (N + 1) ci)).ownsRow base 36 4 bw N (boxC l)) := by
    refine own_keep (own_keep (OH2.out.alloc _) hgr (fun g e e' => ?_)) (ch_set w1 R 0 _) (fun g e e' => by cases e'; exact hn2.out e)
    obtain ⟨_, _, c1, h1⟩ := own_lt OH1.out e'.symm
    obtain ⟨_, _, c2, h2⟩ := own_lt OH2.out e
    rw [h1] at h2
    cases h2
  have kbX : Hid (Bk (w1.setCell ⟨R, 0, none⟩ (.slice (some ⟨gi, 0, none⟩) (N + 1) ci)) BE 36 [.int .i32 q.1, .int .i32 q.2.1, .int .i32 q.2.2.1, .int .i32 q.2.2.2]) := by
    refine Bk.other (Bk.same (kb2.alloc _) (hgr.block BE (kb2.alloc _).lt (fun e => ?_))) (a := ⟨R, 0, none⟩) (fun e => ?_) _
    · obtain ⟨_, _, c1, h1⟩ := own_lt OH1.out e.symm
      unfold Bk at kb2
      rw [kb2] at h1
      cases h1
    · exact (Bk.ne kb2 kR2 (by decide)) e
  have hbX : Hid (base ≤ (w1.setCell ⟨R, 0, none⟩ (.slice (some ⟨gi, 0, none⟩) (N + 1) ci)).heap.size) := Nat.le_trans HB2.out RC1.out.size
  clear hgr hat' hat hgrow hown' kA q0 q1 r0 r1 fR0 kb2 kR2 OH1 OH2 hn1 n1R
  generalize w1.setCell ⟨R, 0, none⟩ (.slice (some ⟨gi, 0, none⟩) (N + 1) ci) = X1 at *
  have r1 := kX.at 1
  simp only [List.getElem?_cons_zero, List.getElem?_cons_succ] at r1
  have hx2 := hid0 (not_row OX2.out kX (by decide))
  go_upto_region 10 with (at_builtin; refine wpList_append_own_at _ rfl (.tmp 39) (.tmp 41) 27 rfl base 36 j0 (.agg #[.int .i32 0, .int .i32 0, .int .i32 0, .int .i32 0]) 4 16 Try.underlying27 hj hj0 hj1 hj2 rfl (by decide) bw N (boxC l) rfl (OX2.out.alloc _) ⟨X1.heap.size, 0, none⟩ 1 1 [.int .i32 0, .int .i32 0, .int .i32 0, .int .i32 0] rfl rfl (four_new _ _ _ _ _) (by simp [Value.oneCell']) (by have := HN6.out; unfold maxLen; omega) (by have := HN6.out; omega) (by have := hbX.out; simp; omega) ?_; intro v' w1 hown' hgrow _ hat; obtain ⟨gb, cb, rfl⟩ := ownsRow_succ hown'; have kA : Bk w1 R 29 [.slice (some ⟨gi, 0, none⟩) (N + 1) ci, bw] := (kX.alloc _).same (hgrow.block R (kX.alloc _).lt (fun e => hx2.out e.symm)); have q0 := kA.at 1; have q1 := kA.frozen 1; simp only [List.getElem?_cons_zero, List.getElem?_cons_succ] at q0)
  have hgr : (X1.alloc (.cells #[.int .i32 0, .int .i32 0, .int .i32 0, .int .i32 0] 36)).grownBy w1 bw.ownBlock := hgrow
  have hat' : (Value.slice (some ⟨gb, 0, none⟩) (N + 1) cb).ownBlock = bw.ownBlock ∨ (Value.slice (some ⟨gb, 0, none⟩) (N + 1) cb).ownBlock = some (X1.alloc (.cells #[.int .i32 0, .int .i32 0, .int .i32 0, .int .i32 0] 36)).heap.size := hat
  have RC2 : Hid (RCh v2 (w1.setCell ⟨R, 1, none⟩ (.slice (some ⟨gb, 0, none⟩) (N + 1) cb)) base R) := RC1.out.trans (RCh.grow (tmp := .nilFunc) kX HBR.out hbX.out _ (.inr ⟨rfl, rfl⟩) (fun g e => ⟨(own_lt OX2.out e).2.1, fun e' => hx2.out (by rw [e, e'])⟩) hgr hat')
  have n1R : gb ≠ R := fun e => not_row hown' kA (by decide) (by rw [← e]; rfl)
  have LI : Hid (Lie (w1.setCell ⟨R, 1, none⟩ (.slice (some ⟨gb, 0, none⟩) (N + 1) cb)) base R gi ci gb cb (l.map (fun x => x.1) ++ [0]) (l.map (fun x => x.2) ++ [(0, 0, 0, 0)])) := by
    have e1 : (l.map (fun x => x.1) ++ [(0 : Int)]).length = N + 1 := by simp [HN.out]
    have e2 : (l.map (fun x => x.2) ++ [((0, 0, 0, 0) : Q4)]).length = N + 1 := by simp [HN.out]
    have e3 : numC (l.map (fun x => x.1) ++ [(0 : Int)]) = idC l ++ [.int .u32 0] := by simp [numC, idC]
    have e4 : quadC (l.map (fun x => x.2) ++ [((0, 0, 0, 0) : Q4)]) = boxC l ++ [.int .i32 0, .int .i32 0, .int .i32 0, .int .i32 0] := by rw [quadC_append, boxC_quad]; rfl
    refine ⟨?_, ?_, ?_⟩
    · rw [e1, e2]; exact kA.set 1 _
    · rw [e1, e3]
      refine own_keep (own_keep (OX1.out.alloc _) hgr (fun g e e' => ?_)) (ch_set w1 R 1 _) (fun g e e' => ?_)
      · obtain ⟨_, _, c1, h1⟩ := own_lt OX1.out e
        obtain ⟨_, _, c2, h2⟩ := own_lt OX2.out e'.symm
        rw [h1] at h2
        cases h2
      · cases e'
        exact not_row OX1.out kX (by decide) e
    · rw [e2, e4]
      exact own_keep hown' (ch_set w1 R 1 _) (fun g e e' => by simp [Value.ownBlock] at e; cases e'; exact n1R e)
  have kbY : Hid (Bk (w1.setCell ⟨R, 1, none⟩ (.slice (some ⟨gb, 0, none⟩) (N + 1) cb)) BE 36 [.int .i32 q.1, .int .i32 q.2.1, .int .i32 q.2.2.1, .int .i32 q.2.2.2] ∧ BE ≠ gb) := by
    have hBX : BE < X1.heap.size := kbX.out.lt
    refine ⟨Bk.other (Bk.same (kbX.out.alloc _) (hgr.block BE (kbX.out.alloc _).lt (fun e => ?_))) (a := ⟨R, 1, none⟩) (fun e => ?_) _, fun e => ?_⟩
    · have := OB.out BE e.symm; have := HBE.out; omega
    · exact (Bk.ne kbX.out kX (by decide)) e
    · rcases hat' with h | h
      · have := OB.out BE (by rw [← h, ← e]; rfl); have := HBE.out; omega
      · simp [Value.ownBlock] at h; omega
  clear hgr hat' hat hgrow hown' kA q0 q1 r1 kX OX1 OX2 hx2 n1R RC1 kbX hbX hn2
  generalize w1.setCell ⟨R, 1, none⟩ (.slice (some ⟨gb, 0, none⟩) (N + 1) cb) = X2 at *
  have l0 : X2.cell? ⟨R, 0, none⟩ = some (.slice (some ⟨gi, 0, none⟩) (N + 1) ci) := by have := LI.out.blk.at 0; simpa [HN.out] using this
  have hw0 : wrap64 (((N + 1 : Nat) : Int) - 1) = (N : Int) := by have := HN6.out; unfold wrap64; omega
  go_upto_block 0 with fail
  go_cut [] (fun w1 => ∃ (I : List Int) (Q : List Q4), Hid (Lie w1 base R gi ci gb cb I Q) ∧ Hid (Up (l.map (fun x => x.1)) P I ∧ Up (l.map (fun x => x.2)) P Q) ∧ Hid (Bk w1 BE 36 [.int .i32 q.1, .int .i32 q.2.1, .int .i32 q.2.2.1, .int .i32 q.2.2.2]) ∧ Hid (RCh v2 w1 base R))
  case first =>
    go_wp2_with fail
    go_loopg [9] (N - P) (fun gk v wr => ∃ (j : Nat) (I : List Int) (Q : List Q4), v = .int .i64 (j : Int) ∧ P ≤ j ∧ j ≤ N ∧ gk = j - P ∧ Hid (Lie wr base R gi ci gb cb I Q) ∧ Hid (Up (l.map (fun x => x.1)) j I ∧ Up (l.map (fun x => x.2)) j Q) ∧ Hid (Bk wr BE 36 [.int .i32 q.1, .int .i32 q.2.1, .int .i32 q.2.2.1, .int .i32 q.2.2.2]) ∧ Hid (RCh v2 wr base R))
    case atStart => exact ⟨N, _, _, by show Value.int .i64 (wrap64 (N : Int)) = _; rw [show wrap64 (N : Int) = (N : Int) by have := HN6.out; unfold wrap64; omega], hPN, Nat.le_refl _, rfl, LI, ⟨by have := Up.start (l.map (fun x => x.1)) (0 : Int); rwa [List.length_map, ← HN.out] at this, by have := Up.start (l.map (fun x => x.2)) ((0, 0, 0, 0) : Q4); rwa [List.length_map, ← HN.out] at this⟩, kbY.out.1, RC2⟩
    case round =>
      obtain ⟨j, I, Q, rfl, hPj, hjN, hgk, LI', UP, KB', RC'⟩ := hrel
      have HGK := hid0 hgk
      clear hgk LI RC2 l0 hw0
      have lenI : Hid (I.length = N + 1) := by unfold Hid; rw [UP.out.1.len, List.length_map, HN.out]
      have lenQ : Hid (Q.length = N + 1) := by unfold Hid; rw [UP.out.2.len, List.length_map, HN.out]
      have z0 : wr.cell? ⟨R, 0, none⟩ = some (.slice (some ⟨gi, 0, none⟩) (N + 1) ci) := by have := LI'.out.blk.at 0; rw [lenI.out] at this; exact this
      have z1 : wr.cell? ⟨R, 1, none⟩ = some (.slice (some ⟨gb, 0, none⟩) (N + 1) cb) := by have := LI'.out.blk.at 1; rw [lenQ.out] at this; exact this
      by_cases c : P < j
      · cases j with
        | zero => omega
        | succ j =>
          have ci' : (P : Int) < ((j + 1 : Nat) : Int) := by omega
          have hjl : j < l.length := by have := HN.out; omega
          obtain ⟨x, hx⟩ : ∃ x, l[j]? = some x := ⟨l[j], List.getElem?_eq_getElem hjl⟩
          have ij : I[j]? = some x.1 := by rw [UP.out.1.lo j (by omega), List.getElem?_map, hx]; rfl
          have qj : Q[j]? = some x.2 := by rw [UP.out.2.lo j (by omega), List.getElem?_map, hx]; rfl
          obtain ⟨oi, hoi⟩ : ∃ o, I[j + 1]? = some o := ⟨I[j + 1]'(by have := lenI.out; omega), List.getElem?_eq_getElem _⟩
          obtain ⟨oq, hoq⟩ : ∃ o, Q[j + 1]? = some o := ⟨Q[j + 1]'(by have := lenQ.out; omega), List.getElem?_eq_getElem _⟩
          have UP2 : Hid (Up (l.map (fun x => x.1)) j (I.set (j + 1) x.1) ∧ Up (l.map (fun x => x.2)) j (Q.set (j + 1) x.2)) := ⟨UP.out.1.step (by rw [List.getElem?_map, hx]; rfl), UP.out.2.step (by rw [List.getElem?_map, hx]; rfl)⟩
          have hw1 : wrap64 (((j + 1 : Nat) : Int) - 1) = (j : Int) := by have := HN6.out; unfold wrap64; omega
          have hwa : IntKind.i64.wrap (((j + 1 : Nat) : Int) - 1) = (j : Int) := by rw [IntKind.wrap_i64]; have := HN6.out; omega
          have hwb : IntKind.i64.wrap (j : Int) = (j : Int) := by rw [IntKind.wrap_i64]; have := HN6.out; omega
          have hwc : IntKind.i64.wrap ((j : Int) + 1 - 1) = (j : Int) := by rw [IntKind.wrap_i64]; have := HN6.out; omega
          have jN : j < N + 1 := by omega
          have jN1 : j + 1 < N + 1 := by omega
          have a0 := fun n => below_cell z0 ((Gr.refl wr).drewN n).below
          have a1 := fun n => below_cell (LI'.out.id ij).1 ((Gr.refl wr).drewN n).below
          go_wp2_with fail
          refine (wpIn_wide (n := 5)).1 ?_
          refine region_head_lit 14 (by kernel_rfl) (by kernel_rfl) (by simp) (by kernel_rfl) ?_
          simp only [List.take_succ_cons, List.take_zero, List.drop_succ_cons, List.drop_zero]
          repeat (gi_big_quiet_step (fail))
          refine wpQuietIn_nil ?_
          intro _ hw'
          obtain ⟨n, rfl⟩ := hw'
          have gn : Gr wr (wr.drewN n) := (Gr.refl wr).drewN n
          have LIn := LI'.out.gr gn
          obtain ⟨c0, c1⟩ := LIn.id hoi
          have k29 : Bk (wr.drewN n) R 29 _ := LIn.blk
          have nR := LIn.ne
          have bI : base ≤ gi := (own_lt (g := gi) LIn.ids rfl).2.1
          have bB : base ≤ gb := (own_lt (g := gb) LIn.box rfl).2.1
          have RC3 : Hid (RCh v2 ((wr.drewN n).setCell ⟨gi, j + 1, none⟩ (.int .u32 x.1)) base R) := (RC'.out.trans (RCh.gr LI'.out.blk gn (Nat.le_trans HB2.out RC'.out.size))).trans (RCh.row k29 (.inl rfl) nR.2.1 bI _)
          have LI3 : Hid (Lie ((wr.drewN n).setCell ⟨gi, j + 1, none⟩ (.int .u32 x.1)) base R gi ci gb cb (I.set (j + 1) x.1) Q) := LIn.setI (j + 1) x.1
          have nBI : BE ≠ gi := fun e => by
            obtain ⟨cu, hcu⟩ := own_block LIn.ids
            have := KB'.out.gr gn
            unfold Bk at this
            rw [e, hcu] at this
            cases this
          have KB3 : Hid (Bk ((wr.drewN n).setCell ⟨gi, j + 1, none⟩ (.int .u32 x.1)) BE 36 [.int .i32 q.1, .int .i32 q.2.1, .int .i32 q.2.2.1, .int .i32 q.2.2.2]) := (KB'.out.gr gn).other (a := ⟨gi, j + 1, none⟩) nBI _
          clear a0 a1 z0 z1 LI' RC' KB' k29 gn LIn ij hoi
          gi_wp2
          generalize (wr.drewN n).setCell ⟨gi, j + 1, none⟩ (.int .u32 x.1) = X3 at *
          have z1 : X3.cell? ⟨R, 1, none⟩ = some (.slice (some ⟨gb, 0, none⟩) (N + 1) cb) := by have := LI3.out.blk.at 1; rw [lenQ.out] at this; exact this
          obtain ⟨⟨b0, b1, b2, b3⟩, _⟩ := LI3.out.bx qj
          have a0 := fun n => below_cell z1 ((Gr.refl X3).drewN n).below
          have a1 := fun n => below_cell b0 ((Gr.refl X3).drewN n).below
          have a2 := fun n => below_cell b1 ((Gr.refl X3).drewN n).below
          have a3 := fun n => below_cell b2 ((Gr.refl X3).drewN n).below
          have a4 := fun n => below_cell b3 ((Gr.refl X3).drewN n).below
          clear b0 b1 b2 b3 c0 c1 z1
          go_wp2_with fail
          refine (wpIn_wide (n := 5)).1 ?_
          refine region_head_lit 14 (by kernel_rfl) (by kernel_rfl) (by simp) (by kernel_rfl) ?_
          simp only [List.take_succ_cons, List.take_zero, List.drop_succ_cons, List.drop_zero]
          repeat (gi_big_quiet_step (fail))
          refine wpQuietIn_nil ?_
          intro _ hw'
          obtain ⟨n2, rfl⟩ := hw'
          have gn : Gr X3 (X3.drewN n2) := (Gr.refl X3).drewN n2
          have LIn := LI3.out.gr gn
          obtain ⟨⟨c0, c1, c2, c3⟩, cf⟩ := LIn.bx hoq
          have f0 := cf ((j + 1) * 4)
          have f1 := cf ((j + 1) * 4 + 1)
          have f2 := cf ((j + 1) * 4 + 2)
          have f3 := cf ((j + 1) * 4 + 3)
          have LI4 := hid0 (LIn.setB (j + 1) x.2)
          have KBn := KB3.out.gr gn
          have KB4 := hid0 ((((KBn.other (a := ⟨gb, (j + 1) * 4, none⟩) kbY.out.2 (.int .i32 x.2.1)).other (a := ⟨gb, (j + 1) * 4 + 1, none⟩) kbY.out.2 (.int .i32 x.2.2.1)).other (a := ⟨gb, (j + 1) * 4 + 2, none⟩) kbY.out.2 (.int .i32 x.2.2.2.1)).other (a := ⟨gb, (j + 1) * 4 + 3, none⟩) kbY.out.2 (.int .i32 x.2.2.2.2))
          have RC4 : Hid (RCh v2 (((((X3.drewN n2).setCell ⟨gb, (j + 1) * 4, none⟩ (.int .i32 x.2.1)).setCell ⟨gb, (j + 1) * 4 + 1, none⟩ (.int .i32 x.2.2.1)).setCell ⟨gb, (j + 1) * 4 + 2, none⟩ (.int .i32 x.2.2.2.1)).setCell ⟨gb, (j + 1) * 4 + 3, none⟩ (.int .i32 x.2.2.2.2)) base R) := by
            have kA := LIn.blk
            have kB := kA.other (a := ⟨gb, (j + 1) * 4, none⟩) nR.2.2 (.int .i32 x.2.1)
            have kC := kB.other (a := ⟨gb, (j + 1) * 4 + 1, none⟩) nR.2.2 (.int .i32 x.2.2.1)
            have kD := kC.other (a := ⟨gb, (j + 1) * 4 + 2, none⟩) nR.2.2 (.int .i32 x.2.2.2.1)
            exact ((((RC3.out.trans (RCh.gr LI3.out.blk gn (Nat.le_trans HB2.out RC3.out.size))).trans (RCh.row kA (.inr rfl) nR.2.2 bB _)).trans (RCh.row kB (.inr rfl) nR.2.2 bB _)).trans (RCh.row kC (.inr rfl) nR.2.2 bB _)).trans (RCh.row kD (.inr rfl) nR.2.2 bB _)
          clear a0 a1 a2 a3 a4 LI3 RC3 KB3 KBn gn LIn cf hoq qj
          gi_wp2
          go_wp2
          go_roundg (j - P)
          case measure => have := HGK.out; omega
          case rel => exact ⟨j, _, _, rfl, by omega, by omega, rfl, LI4, UP2, KB4, RC4⟩
      · have ec : j = P := by omega
        subst ec
        have ci' : ¬ (j : Int) < (j : Int) := by omega
        go_wp2_with fail
        go_meet
        case rel => exact ⟨I, Q, LI', UP, KB', RC'⟩
  case rest =>
    obtain ⟨I, Q, LI', UP, KB', RC'⟩ := hcut
    clear LI RC2 l0 hw0
    have lenI : Hid (I.length = N + 1) := by unfold Hid; rw [UP.out.1.len, List.length_map, HN.out]
    have lenQ : Hid (Q.length = N + 1) := by unfold Hid; rw [UP.out.2.len, List.length_map, HN.out]
    have z0 : wc.cell? ⟨R, 0, none⟩ = some (.slice (some ⟨gi, 0, none⟩) (N + 1) ci) := by have := LI'.out.blk.at 0; rw [lenI.out] at this; exact this
    obtain ⟨oi, hoi⟩ : ∃ o, I[P]? = some o := ⟨I[P]'(by have := lenI.out; omega), List.getElem?_eq_getElem _⟩
    obtain ⟨oq, hoq⟩ : ∃ o, Q[P]? = some o := ⟨Q[P]'(by have := lenQ.out; omega), List.getElem?_eq_getElem _⟩
    obtain ⟨c0, c1⟩ := LI'.out.id hoi
    have PN : P < N + 1 := by omega
    have nR := hid0 LI'.out.ne
    have bI : Hid (base ≤ gi) := (own_lt (g := gi) LI'.out.ids rfl).2.1
    have bB : Hid (base ≤ gb) := (own_lt (g := gb) LI'.out.box rfl).2.1
    have RC3 : Hid (RCh v2 (wc.setCell ⟨gi, P, none⟩ (.int .u32 i)) base R) := RC'.out.trans (RCh.row LI'.out.blk (.inl rfl) nR.out.2.1 bI.out _)
    have LI3 : Hid (Lie (wc.setCell ⟨gi, P, none⟩ (.int .u32 i)) base R gi ci gb cb (I.set P i) Q) := LI'.out.setI P i
    have nBI : BE ≠ gi := fun e => by
      obtain ⟨cu, hcu⟩ := own_block LI'.out.ids
      have := KB'.out
      unfold Bk at this
      rw [e, hcu] at this
      cases this
    have KB3 : Hid (Bk (wc.setCell ⟨gi, P, none⟩ (.int .u32 i)) BE 36 [.int .i32 q.1, .int .i32 q.2.1, .int .i32 q.2.2.1, .int .i32 q.2.2.2]) := KB'.out.other (a := ⟨gi, P, none⟩) nBI _
    clear LI' RC' KB' hoi nBI
    go_upto_region 16 with fail
    generalize wc.setCell ⟨gi, P, none⟩ (.int .u32 i) = X3 at *
    have z1 : X3.cell? ⟨R, 1, none⟩ = some (.slice (some ⟨gb, 0, none⟩) (N + 1) cb) := by have := LI3.out.blk.at 1; rw [lenQ.out] at this; exact this
    obtain ⟨y0, y1, y2, y3⟩ := KB3.out.four
    have a0 := fun n => below_cell z1 ((Gr.refl X3).drewN n).below
    have a1 := fun n => below_cell y0 ((Gr.refl X3).drewN n).below
    have a2 := fun n => below_cell y1 ((Gr.refl X3).drewN n).below
    have a3 := fun n => below_cell y2 ((Gr.refl X3).drewN n).below
    have a4 := fun n => below_cell y3 ((Gr.refl X3).drewN n).below
    clear y0 y1 y2 y3 c0 c1 z0 z1
    refine (wpIn_wide (n := 5)).1 ?_
    refine region_head_lit 7 (by kernel_rfl) (by kernel_rfl) (by simp) (by kernel_rfl) ?_
    simp only [List.take_succ_cons, List.take_zero, List.drop_succ_cons, List.drop_zero]
    repeat (gi_big_quiet_step (fail))
    refine wpQuietIn_nil ?_
    intro _ hw'
    obtain ⟨n2, rfl⟩ := hw'
    have gn : Gr X3 (X3.drewN n2) := (Gr.refl X3).drewN n2
    have LIn := LI3.out.gr gn
    obtain ⟨⟨c0, c1, c2, c3⟩, cf⟩ := LIn.bx hoq
    have f0 := cf (P * 4)
    have f1 := cf (P * 4 + 1)
    have f2 := cf (P * 4 + 2)
    have f3 := cf (P * 4 + 3)
    have LI4 := hid0 (LIn.setB P q)
    have RC4 : Hid (RCh v2 (((((X3.drewN n2).setCell ⟨gb, P * 4, none⟩ (.int .i32 q.1)).setCell ⟨gb, P * 4 + 1, none⟩ (.int .i32 q.2.1)).setCell ⟨gb, P * 4 + 2, none⟩ (.int .i32 q.2.2.1)).setCell ⟨gb, P * 4 + 3, none⟩ (.int .i32 q.2.2.2)) base R) := by
      have kA := LIn.blk
      have kB := kA.other (a := ⟨gb, P * 4, none⟩) nR.out.2.2 (.int .i32 q.1)
      have kC := kB.other (a := ⟨gb, P * 4 + 1, none⟩) nR.out.2.2 (.int .i32 q.2.1)
      have kD := kC.other (a := ⟨gb, P * 4 + 2, none⟩) nR.out.2.2 (.int .i32 q.2.2.1)
      exact ((((RC3.out.trans (RCh.gr LI3.out.blk gn (Nat.le_trans HB2.out RC3.out.size))).trans (RCh.row kA (.inr rfl) nR.out.2.2 bB.out _)).trans (RCh.row kB (.inr rfl) nR.out.2.2 bB.out _)).trans (RCh.row kC (.inr rfl) nR.out.2.2 bB.out _)).trans (RCh.row kD (.inr rfl) nR.out.2.2 bB.out _)
    clear a0 a1 a2 a3 a4 LI3 RC3 KB3 gn LIn cf hoq
    gi_wp2
    go_wp2
    go_ret
    have nh : ∀ x ∈ l, x.1 ≠ i := fun x hx e => by have := hasI_iff.2 ⟨x.2, (show (i, x.2) ∈ l by rw [← e]; exact hx)⟩; rw [CH.out] at this; cases this
    have eL : insL i q l = l.take P ++ (i, q) :: l.drop P := by rw [HP.out]; exact insL_pos i q l S0.out nh
    have eI : I.set P i = (insL i q l).map (fun x => x.1) := by rw [UP.out.1.done (by rw [List.length_map, ← HN.out]; exact hPN), eL]; simp
    have eQ : Q.set P q = (insL i q l).map (fun x => x.2) := by rw [UP.out.2.done (by rw [List.length_map, ← HN.out]; exact hPN), eL]; simp
    refine ⟨rfl, ⟨HBR.out, _, _, LI4.out.blk, ?_, ?_⟩, ?_⟩
    · have := LI4.out.ids
      have e1 : (I.set P i).length = (insL i q l).length := by rw [eI, List.length_map]
      have e2 : numC (I.set P i) = idC (insL i q l) := by rw [eI]; simp [numC, idC]
      rw [← e1, ← e2]
      exact this
    · have := LI4.out.box
      have e1 : (Q.set P q).length = (insL i q l).length := by rw [eQ, List.length_map]
      rw [boxC_quad, ← eQ, ← e1]
      exact this
    · exact (RCh.gr KR0.out HGA.out HBW.out).trans RC4.out
end Go.Proofs.Ytpikhdfndnpidaa
