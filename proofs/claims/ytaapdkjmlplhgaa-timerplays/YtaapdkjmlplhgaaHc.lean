/- cut of the heap: one at a place is taken out. -/
import Derived.Test.YtaapdkjmlplhgaaDe
set_option linter.unusedSimpArgs false
set_option linter.unusedVariables false
namespace Go.Proofs.Ytaapdkjmlplhgaa
open Go.RowKit Go.Sort Go.Shelf Go.Maps
attribute [local go_sem] Oper.semAt_some wide_fn
attribute [local simp] wide_fn

theorem nth_take (l : List Du) (k j : Nat) (hj : j < k) : nth (l.take k) j = nth l j := by
  simp [nth, List.getD, List.getElem?_take, hj]
/-- What the cut has made of it. -/
structure CutIs (l : List Du) (m : Pf) (i : Nat) (l' : List Du) (m' : Pf) : Prop where
  len : l'.length + 1 = l.length
  heap : HeapL l'
  mem : ∀ x, x ∈ l' ↔ Oth l i x
  tie : ∀ j, j < l'.length → m' (nth l' j).2 = some j
  keep : ∀ k, (∀ x, Oth l i x → x.2 ≠ k) → m' k = m k
theorem heap_take {l : List Du} (h : HeapL l) (k : Nat) : HeapL (l.take k) := by
  intro j j0 j1
  rw [List.length_take] at j1
  have hp : par j < j := by unfold par; omega
  rw [nth_take _ _ _ (by omega), nth_take _ _ _ (by omega)]
  exact h j j0 (by omega)
theorem oth_take {l : List Du} {k i : Nat} (hk : l.length = k + 1) (x : Du) : Oth (l.take k) i x ↔ ∃ j, j < k ∧ j ≠ i ∧ nth l j = x := by
  have hl : (l.take k).length = k := by rw [List.length_take]; omega
  constructor
  · rintro ⟨j, h1, h2, h3⟩
    rw [hl] at h1
    exact ⟨j, h1, h2, by rw [← nth_take l k j h1]; exact h3⟩
  · rintro ⟨j, h1, h2, h3⟩
    exact ⟨j, by rw [hl]; exact h1, h2, by rw [nth_take l k j h1]; exact h3⟩
theorem cut_last {l : List Du} {m : Pf} {k : Nat} (hk : l.length = k + 1) (hh : HeapL l) (htie : ∀ j, j < l.length → m (nth l j).2 = some j) : CutIs l m k (l.take k) m := by
  have hl : (l.take k).length = k := by rw [List.length_take]; omega
  refine ⟨by omega, heap_take hh k, fun x => ?_, fun j hj => ?_, fun _ _ => rfl⟩
  · rw [mem_nth]
    constructor
    · rintro ⟨j, h1, h2⟩
      rw [hl] at h1
      exact ⟨j, by omega, by omega, by rw [← nth_take l k j h1]; exact h2⟩
    · rintro ⟨j, h1, h2, h3⟩
      exact ⟨j, by omega, by rw [nth_take l k j (by omega)]; exact h3⟩
  · rw [hl] at hj
    rw [nth_take l k j hj]
    exact htie j (by omega)
theorem cut_mid {l : List Du} {m : Pf} {k i : Nat} (hk : l.length = k + 1) (hi : i < k) {l' : List Du} {m' : Pf} (S : Settled (l.take k) m i (nth l k) l' m') : CutIs l m i l' m' := by
  have hl : (l.take k).length = k := by rw [List.length_take]; omega
  have key : ∀ x, (x = nth l k ∨ Oth (l.take k) i x) ↔ Oth l i x := fun x => by
    rw [oth_take hk]
    constructor
    · rintro (rfl | ⟨j, h1, h2, h3⟩)
      · exact ⟨k, by omega, by omega, rfl⟩
      · exact ⟨j, by omega, h2, h3⟩
    · rintro ⟨j, h1, h2, h3⟩
      by_cases e : j = k
      · subst e; exact .inl h3.symm
      · exact .inr ⟨j, by omega, h2, h3⟩
  refine ⟨by rw [S.len]; omega, S.heap, fun x => (S.mem x).trans (key x), S.tie, fun q hq => S.keep q ?_ (fun x hx => hq x ((key x).1 (.inr hx)))⟩
  exact fun e => hq (nth l k) ((key _).1 (.inl rfl)) e.symm
theorem cut_ready {l : List Du} {m : Pf} {k i : Nat} (hk : l.length = k + 1) (hh : HeapL l) (htie : ∀ j, j < l.length → m (nth l j).2 = some j) :
    HoleL (l.take k) i ∧ (∀ j, j < (l.take k).length → j ≠ i → m (nth (l.take k) j).2 = some j) ∧ (∀ x, Oth (l.take k) i x → x.2 ≠ (nth l k).2) := by
  have hl : (l.take k).length = k := by rw [List.length_take]; omega
  refine ⟨(heap_take hh k).hole i, fun j hj _ => ?_, fun x hx e => ?_⟩
  · rw [hl] at hj
    rw [nth_take l k j hj]
    exact htie j (by omega)
  · obtain ⟨j, h1, _, h3⟩ := (oth_take hk x).1 hx
    have a := htie j (by omega)
    have b := htie k (by omega)
    rw [h3, e, b] at a
    have := Option.some.inj a
    omega
set_option maxHeartbeats 2000000 in
set_option maxRecDepth 100000 in
theorem hcut_any (h pb mb g cp : Nat) (l : List Du) (s : Nat) (m : Pf) (i k : Nat) (w : World) (H : Hs w h pb mb g cp l s m) (hk : l.length = k + 1) (hi : i < l.length) (hl : l.length ≤ 4500) (hs : s ≤ 5000)
    (hh : HeapL l) (hok : ∀ y ∈ l, okD y) (htie : ∀ j, j < l.length → m (nth l j).2 = some j) :
    Calls Try.prog 42 #[.pointer (some ⟨h, 0, none⟩), .int .i64 i] w fun e w' => e = .returned (dV (nth l i)) ∧
      ∃ l' m', CutIs l m i l' m' ∧ Hs w' h pb mb g cp l' s m' ∧ Chg (fun j => j = h ∨ j = mb ∨ j = g) w w' := by
  have k4 := Bk.new w 32 (dL (0, 0, 0))
  have g0 := (Gr.refl w).alloc (.cells (dL (0, 0, 0)).toArray 32)
  have H1 := H.gr g0
  have hgw := H.row.lt
  have hhw := H.heap.lt
  have hmw := H.map.lt
  have hpw := H.cap.lt
  dsimp only [dL] at k4 g0 H1
  have hi' : (i : Int) < (k : Int) + 1 := by omega
  clear H
  obtain ⟨x, hx⟩ : ∃ x, x = nth l i := ⟨_, rfl⟩
  rw [← hx]
  obtain ⟨xa, xo, xf⟩ := x
  go_enter Try.func42, Try.ntmps42
  go_upto_region 1 with fail
  generalize w.alloc _ = W at *
  obtain ⟨b4, e4⟩ : ∃ b4, b4 = w.heap.size := ⟨_, rfl⟩
  rw [← e4] at k4 ⊢
  have hb4 : w.heap.size ≤ b4 := by omega
  clear e4
  have c0 := H1.heap.at 0
  obtain ⟨p0, p1, p2⟩ := H1.row.at.cell hi
  have ga := (Gr.refl W).alloc (.cells #[.int .u32 0, .int .u32 0, .int .u32 0] 32)
  have c0' := (H1.gr ga).heap.at 0
  obtain ⟨p0', p1', p2'⟩ := (H1.gr ga).row.at.cell hi
  simp only [List.getElem?_cons_zero, List.getElem?_cons_succ] at c0 c0'
  rw [show l.getD i (0, 0, 0) = (xa, xo, xf) from hx.symm] at p0 p1 p2 p0' p1' p2'
  dsimp only at p0 p1 p2 p0' p1' p2'
  have gx := (Gr.refl W).alloc (.cells #[.int .u32 xa, .int .u32 xo, .int .u32 xf] 32)
  have c0'' := (H1.gr gx).heap.at 0
  simp only [List.getElem?_cons_zero, List.getElem?_cons_succ] at c0''
  rw [hk] at c0 c0' c0''
  go_region
  obtain ⟨b5, e5⟩ : ∃ b5, b5 = W.heap.size := ⟨_, rfl⟩
  have k5 : Bk ((W.alloc (.cells #[.int .u32 xa, .int .u32 xo, .int .u32 xf] 32)).drew) b5 32 [.int .u32 xa, .int .u32 xo, .int .u32 xf] := by rw [e5]; exact Bk.new W 32 [.int .u32 xa, .int .u32 xo, .int .u32 xf]
  rw [← e5]
  have hb5 : w.heap.size ≤ b5 := by have := g0.size; omega
  have hb45 : b4 ≠ b5 := by have := k4.lt; omega
  replace k4 := k4.gr gx.drew
  have H2 := H1.gr gx.drew
  have G2 := g0.trans gx.drew
  clear p0 p1 p2 p0' p1' p2' c0 c0' c0'' ga gx H1 g0 e5
  generalize (W.alloc _).drew = X1 at *
  have c0 := H2.heap.at 0
  simp only [List.getElem?_cons_zero, List.getElem?_cons_succ] at c0
  rw [hk] at c0
  obtain ⟨p0, p1, p2⟩ := H2.row.at.cell (show k < l.length by omega)
  have hyo : Hid (okD (nth l k)) := hok _ (mem_nth.2 ⟨k, by omega, rfl⟩)
  have CR := hid0 (cut_ready (i := i) hk hh htie)
  have CL := hid0 (cut_last hk hh htie)
  have CM := fun (h : i < k) l' m' => @cut_mid l m k i hk h l' m'
  have HT := hid0 (htie k (by omega))
  obtain ⟨y, hy⟩ : ∃ y, y = nth l k := ⟨_, rfl⟩
  rw [← hy] at hyo CR HT
  simp only [← hy] at CM
  rw [show l.getD k (0, 0, 0) = y from hy.symm] at p0 p1 p2
  obtain ⟨ya, yo, yf⟩ := y
  dsimp only at p0 p1 p2
  have gy := (Gr.refl X1).alloc (.cells #[.int .u32 ya, .int .u32 yo, .int .u32 yf] 32)
  have k7 := Bk.new X1 32 [.int .u32 ya, .int .u32 yo, .int .u32 yf]
  have H3 := H2.gr gy
  have DEL := delete_any g cp k l _ H3.row hk (by omega)
  rw [show ((k + 1 : Nat) : Int) = (k : Int) + 1 by omega] at DEL
  replace DEL := hid0 DEL
  have c3 := H3.heap.at 0
  have f3 := H3.heap.frozen 0
  simp only [List.getElem?_cons_zero, List.getElem?_cons_succ] at c3
  rw [hk] at c3
  replace k4 := k4.gr gy
  replace k5 := k5.gr gy
  have hb7 : w.heap.size ≤ X1.heap.size := G2.size
  replace G2 := G2.trans gy
  have hkk : (k : Int) < (k : Int) + 1 := by omega
  go_wp2_with fail
  refine DEL.out.mono ?_
  rintro e w3 ⟨rfl, R3, C3⟩
  obtain ⟨b7, e7⟩ : ∃ b7, b7 = X1.heap.size := ⟨_, rfl⟩
  rw [← e7] at k7 hb7 ⊢
  obtain ⟨n1, n2, n3, n4, n5⟩ := H3.ne
  replace k4 := k4.chg C3 (by omega)
  replace k5 := k5.chg C3 (by omega)
  replace k7 := k7.chg C3 (by omega)
  have hA := H3.heap.chg C3 n1
  have cA := H3.cap.chg C3 n2
  have mA := H3.map.same (C3.block _ H3.map.lt (Ne.symm n5))
  have q0 := hA.at 0
  have qf := hA.frozen 0
  simp only [List.getElem?_cons_zero, List.getElem?_cons_succ] at q0
  rw [hk] at q0
  have lk : (l.take k).length = k := by rw [List.length_take]; omega
  have HZ : Hid (Hs (w3.setCell ⟨h, 0, none⟩ (.slice (some ⟨g, 0, none⟩) k cp)) h pb mb g cp (l.take k) s m) := by
    have ha := hA.set 0 (.slice (some ⟨g, 0, none⟩) k cp)
    simp only [List.set_cons_zero] at ha
    refine ⟨by rw [lk]; exact ha, cA.other (a := ⟨h, 0, none⟩) (fun e => by subst e; have := bk_ty cA hA; cases this) _, R3.same (Below.heap_setCell _ _ _ _ (Ne.symm n1)), mA.same (Below.heap_setCell _ _ _ _ (Ne.symm n3))⟩
  have CZ : Hid (Chg (fun j => j = h ∨ j = mb ∨ j = g) w (w3.setCell ⟨h, 0, none⟩ (.slice (some ⟨g, 0, none⟩) k cp))) :=
    ((Chg.of_gr G2).trans (C3.wide (fun j _ e => .inr (.inr e)))).trans (Chg.set _ (a := ⟨h, 0, none⟩) (.inl rfl) _)
  replace k4 := k4.other (a := ⟨h, 0, none⟩) (show b4 ≠ h by omega) (.slice (some ⟨g, 0, none⟩) k cp)
  replace k5 := k5.other (a := ⟨h, 0, none⟩) (show b5 ≠ h by omega) (.slice (some ⟨g, 0, none⟩) k cp)
  replace k7 := k7.other (a := ⟨h, 0, none⟩) (show b7 ≠ h by omega) (.slice (some ⟨g, 0, none⟩) k cp)
  clear H2 H3 DEL c0 c3 f3 p0 p1 p2 G2 gy R3 C3 hA cA mA e7
  by_cases hik : i < k
  · have hik' : (i : Int) < (k : Int) := by omega
    have v0 := k7.at 0
    have v1 := k7.at 1
    have v2 := k7.at 2
    simp only [List.getElem?_cons_zero, List.getElem?_cons_succ] at v0 v1 v2
    go_wp2_with fail
    clear q0 qf
    generalize World.setCell _ _ _ = Z at *
    have ST := settle_any h pb mb g cp (l.take k) s m (ya, yo, yf) i Z HZ.out hyo.out (by omega) (by omega) hs CR.out.1 (fun z hz => hok _ (by
      obtain ⟨j, h1, _, h3⟩ := (oth_take hk z).1 hz
      exact mem_nth.2 ⟨j, by omega, h3⟩)) CR.out.2.1 CR.out.2.2
    rw [HT.out] at ST
    simp only [Option.isSome_some, if_true] at ST
    replace ST := hid0 ST
    refine ST.out.mono ?_
    rintro e w5 ⟨rfl, l', m', S5, H5, C5⟩
    have HCI := hid0 (CM hik l' m' S5)
    replace HZ := hid0 H5
    replace CZ := hid0 (CZ.out.trans (C5.wide (q := fun j => j = h ∨ j = mb ∨ j = g) (fun j _ e => by rcases e with e | e; exact .inr (.inr e); exact .inr (.inl e))))
    replace k4 := k4.chg C5 (by rintro (e | e) <;> omega)
    replace k5 := k5.chg C5 (by rintro (e | e) <;> omega)
    clear ST S5 H5 C5 v0 v1 v2 k7 CR CL CM HT hyo hx hy
    generalize w5 = Z at *
    have y0 := k5.at 0
    have y1 := k5.at 1
    have y2 := k5.at 2
    have z0 := k4.at 0
    have z1 := k4.at 1
    have z2 := k4.at 2
    have f0 := k4.frozen 0
    have f1 := k4.frozen 1
    have f2 := k4.frozen 2
    simp only [List.getElem?_cons_zero, List.getElem?_cons_succ] at y0 y1 y2 z0 z1 z2
    have K6 := hid0 (put3_bk (x := (xa, xo, xf)) (y := (0, 0, 0)) k4)
    have H6 : Hid (Hs (put3 Z b4 0 (xa, xo, xf)) h pb mb g cp l' s m') :=
      ⟨HZ.out.heap.same (put3_other (by omega)), HZ.out.cap.same (put3_other (by omega)), HZ.out.row.same (put3_other (by omega)), HZ.out.map.same (put3_other (by omega))⟩
    have C6 : Hid (Chg (fun j => j = h ∨ j = mb ∨ j = g) w (put3 Z b4 0 (xa, xo, xf))) := CZ.out.next (put3_chg (p := fun j => j = b4) (Chg.refl _ _) rfl) (fun j hj e => by omega)
    clear k4 k5 HZ CZ
    go_wp2
    clear y0 y1 y2 z0 z1 z2 f0 f1 f2
    dsimp only [put3, Nat.zero_add] at K6 H6 C6
    generalize World.setCell _ _ _ = X at *
    have k3 := K6.out
    have q0 := k3.at 0
    have q1 := k3.at 1
    have q2 := k3.at 2
    simp only [List.getElem?_cons_zero, List.getElem?_cons_succ] at q0 q1 q2
    refine bodyPost_ret (v := dV (xa, xo, xf)) (by simp [results, Try.results42, go_sem, q0, q1, q2]) rfl ⟨rfl, l', m', HCI.out, H6.out, C6.out⟩
  · have hik' : ¬ (i : Int) < (k : Int) := by omega
    have eik : i = k := by omega
    have HCI : Hid (CutIs l m i (l.take k) m) := by rw [eik]; exact CL.out
    go_upto_region 6 with fail
    clear q0 qf CR CL CM HT hyo hx hy k7
    generalize World.setCell _ _ _ = Z at *
    have y0 := k5.at 0
    have y1 := k5.at 1
    have y2 := k5.at 2
    have z0 := k4.at 0
    have z1 := k4.at 1
    have z2 := k4.at 2
    have f0 := k4.frozen 0
    have f1 := k4.frozen 1
    have f2 := k4.frozen 2
    simp only [List.getElem?_cons_zero, List.getElem?_cons_succ] at y0 y1 y2 z0 z1 z2
    have K6 := hid0 (put3_bk (x := (xa, xo, xf)) (y := (0, 0, 0)) k4)
    have H6 : Hid (Hs (put3 Z b4 0 (xa, xo, xf)) h pb mb g cp (l.take k) s m) :=
      ⟨HZ.out.heap.same (put3_other (by omega)), HZ.out.cap.same (put3_other (by omega)), HZ.out.row.same (put3_other (by omega)), HZ.out.map.same (put3_other (by omega))⟩
    have C6 : Hid (Chg (fun j => j = h ∨ j = mb ∨ j = g) w (put3 Z b4 0 (xa, xo, xf))) := CZ.out.next (put3_chg (p := fun j => j = b4) (Chg.refl _ _) rfl) (fun j hj e => by omega)
    clear k4 k5 HZ CZ
    go_wp2
    clear y0 y1 y2 z0 z1 z2 f0 f1 f2
    dsimp only [put3, Nat.zero_add] at K6 H6 C6
    generalize World.setCell _ _ _ = X at *
    have k3 := K6.out
    have q0 := k3.at 0
    have q1 := k3.at 1
    have q2 := k3.at 2
    simp only [List.getElem?_cons_zero, List.getElem?_cons_succ] at q0 q1 q2
    refine bodyPost_ret (v := dV (xa, xo, xf)) (by simp [results, Try.results42, go_sem, q0, q1, q2]) rfl ⟨rfl, l.take k, m, HCI.out, H6.out, C6.out⟩
end Go.Proofs.Ytaapdkjmlplhgaa
